/- source: Hear, New. -/
import Derived.Test.YtbnlhjooimppeaaSd
namespace Go.Proofs.Ytbnlhjooimppeaa
set_option linter.unusedVariables false
set_option linter.unusedSimpArgs false
open Go.RowKit W Go.Maps
def heOk (lim : Nat) (A : List Sr) (name : ByteArray) (at' now : Int) : Bool := (secB at' && secB now) && ((findS A name).isSome || decide (A.length < lim))
def heC (lim : Nat) (A : List Sr) (name : ByteArray) (at' now : Int) : Int := if (secB at' && secB now) = false then 1 else if heOk lim A name at' now then 0 else 110
def heA (lim : Nat) (A : List Sr) (name : ByteArray) (at' now : Int) : List Sr := if heOk lim A name at' now then putS A (newS A name at' now) else A
def heM (lim : Nat) (late : Int) (A : List Sr) (mark : Int) (name : ByteArray) (at' now : Int) : Int := if heOk lim A name at' now then markS (putS A (newS A name at' now)) late mark else mark
section
variable {B : Nat} {w : World} {b : Tb} {lim : Nat} {late idle : Int} {v1 v2 : Value} {A : List Sr} {r1 r2 : List En} {mark : Int}
theorem secB_iff (t : Int) : secB t = true ↔ 0 ≤ t ∧ t ≤ 1099511627775 := by simp [secB]
theorem hear_any (h : TM B w b lim late idle v1 v2 A r1 r2 mark) (hB : B ≤ w.heap.size) (name : ByteArray) (hs : name.size ≤ maxLen) (at' now : Int) (ha : secB at' = true) (hn : secB now = true) :
    Calls Try.prog 66 #[.pointer (some ⟨b.ib, 0, none⟩), .string name, .int .i64 at', .int .i64 now] w
      (HearP B w b lim late idle v1 v2 (heA lim A name at' now) (heM lim late A mark name at' now) (heC lim A name at' now)) := by
  unfold heA heM heC heOk
  rw [ha, hn]
  by_cases cc : (findS A name).isSome = true ∨ A.length < lim
  · have e : ((findS A name).isSome || decide (A.length < lim)) = true := by simpa using cc
    rw [e]
    exact hear_yes h hB name hs at' now ((secB_iff _).1 ha) ((secB_iff _).1 hn) cc
  · have e : ((findS A name).isSome || decide (A.length < lim)) = false := by
      cases q : ((findS A name).isSome || decide (A.length < lim))
      · rfl
      · exact absurd (by simpa using q) cc
    rw [e]
    exact hear_no h hB name hs at' now ((secB_iff _).1 ha) ((secB_iff _).1 hn) cc
set_option maxRecDepth 100000 in
set_option maxHeartbeats 4000000 in
theorem thear_spec (h : TM B w b lim late idle v1 v2 A r1 r2 mark) (hB : B ≤ w.heap.size) (name : ByteArray) (hs : name.size ≤ maxLen) (at' now : Int) :
    Calls Try.prog 39 #[.pointer (some ⟨b.tb, 0, none⟩), .string name, .int .i64 at', .int .i64 now] w
      (HearP B w b lim late idle v1 v2 (heA lim A name at' now) (heM lim late A mark name at' now) (heC lim A name at' now)) := by
  have km := tmade h
  have k1 := second11 at'
  have k2 := second11 now
  have c1 := h.mem.t.cell 1 _ rfl
  have H := hide h
  cases ha : secB at' with
  | false =>
    have e1 : heOk lim A name at' now = false := by unfold heOk; rw [ha]; rfl
    have e2 : heC lim A name at' now = 1 := by unfold heC; rw [ha]; rfl
    have e3 : heA lim A name at' now = A := by unfold heA; rw [e1]; rfl
    have e4 : heM lim late A mark name at' now = mark := by unfold heM; rw [e1]; rfl
    rw [e2, e3, e4]
    rw [ha] at k1
    clear h ha e1 e2 e3 e4
    go_enter Try.func39, Try.ntmps39
    go_wp2_with (first
      | (go_at_call 61; refine km.mono ?_; rintro e w' ⟨rfl, rfl⟩)
      | (go_at_call 56; refine (k1 _).mono ?_; rintro e w' ⟨rfl, rfl⟩))
    go_returns
    exact ⟨v1, v2, r1, r2, rfl, H.out, Chg.refl _ _, Mvd.refl _ _, Mvd.refl _ _⟩
  | true =>
    cases hn : secB now with
    | false =>
      have e1 : heOk lim A name at' now = false := by unfold heOk; rw [ha, hn]; rfl
      have e2 : heC lim A name at' now = 1 := by unfold heC; rw [ha, hn]; rfl
      have e3 : heA lim A name at' now = A := by unfold heA; rw [e1]; rfl
      have e4 : heM lim late A mark name at' now = mark := by unfold heM; rw [e1]; rfl
      rw [e2, e3, e4]
      rw [ha] at k1
      rw [hn] at k2
      clear h ha hn e1 e2 e3 e4
      go_enter Try.func39, Try.ntmps39
      go_wp2_with (first
        | (go_at_call 61; refine km.mono ?_; rintro e w' ⟨rfl, rfl⟩)
        | (go_at_call 56; (first | ((with_reducible refine Calls.mono (k1 _) ?_); rintro e w' ⟨rfl, rfl⟩) | ((with_reducible refine Calls.mono (k2 _) ?_); rintro e w' ⟨rfl, rfl⟩))))
      go_returns
      exact ⟨v1, v2, r1, r2, rfl, H.out, Chg.refl _ _, Mvd.refl _ _, Mvd.refl _ _⟩
    | true =>
      have kh := hear_any h hB name hs at' now ha hn
      rw [ha] at k1
      rw [hn] at k2
      generalize heA lim A name at' now = A' at kh ⊢
      generalize heM lim late A mark name at' now = m' at kh ⊢
      generalize heC lim A name at' now = c' at kh ⊢
      clear h ha hn
      go_enter Try.func39, Try.ntmps39
      go_wp2_with (first
        | (go_at_call 61; refine km.mono ?_; rintro e w' ⟨rfl, rfl⟩)
        | (go_at_call 56; (first | ((with_reducible refine Calls.mono (k1 _) ?_); rintro e w' ⟨rfl, rfl⟩) | ((with_reducible refine Calls.mono (k2 _) ?_); rintro e w' ⟨rfl, rfl⟩)))
        | (go_at_call 66; refine kh.mono ?_; rintro e w5 ⟨v1', v2', r1', r2', rfl, t5, c5, mv1, mv2⟩))
      go_returns
      exact ⟨v1', v2', r1', r2', rfl, t5, c5, mv1, mv2⟩
end
end Go.Proofs.Ytbnlhjooimppeaa
