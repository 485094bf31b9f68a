/- due: the reference's queue; find, Same. -/
import Derived.Test.YtdfmfkibafcbcaaQb
import Derived.Test.YtdfmfkibafcbcaaQc
namespace Go.Proofs.Ytdfmfkibafcbcaa
set_option linter.unusedVariables false
set_option linter.unusedSimpArgs false
open Go.RowKit W Go.Maps
/-- The reference's queue. -/
structure RQ (w : World) (rb : Nat) (lim : Int) (a : Option Addr) (c : Nat) (L : List En) : Prop where
  r : Bw w rb 29 #[.int .i64 lim, .slice a L.length c]
  is : IsE w a L
  cap : L.length ≤ c
  capm : c ≤ maxLen
  adr : ∀ ad, a = some ad → ∃ g o, ad = ⟨g, o, none⟩ ∧ g ≠ rb
  nil : a = none → c = 0
  alt : ∀ ad, a = some ad → ad.block < w.heap.size
theorem RQ.later {w w' : World} {rb : Nat} {lim : Int} {a : Option Addr} {c : Nat} {L : List En} (h : RQ w rb lim a c L) (b : Below w.heap.size w w') : RQ w' rb lim a c L := ⟨h.r.later b, h.is.later b, h.cap, h.capm, h.adr, h.nil, fun ad e => Nat.lt_of_lt_of_le (h.alt ad e) b.size⟩
/-- Where a key stands; -1. -/
def fdI (L : List En) (key : ByteArray) : Int := match idxK L key with | some i => (i : Int) | none => -1
set_option maxRecDepth 100000 in
set_option maxHeartbeats 4000000 in
theorem rfind7_spec {w : World} {rb : Nat} {lim : Int} {a : Option Addr} {c : Nat} {L : List En} (h : RQ w rb lim a c L) (hK : Keys L) (hl : L.length ≤ 65536) (key : ByteArray) :
    Calls Try.prog 28 #[.pointer (some ⟨rb, 0, none⟩), .string key] w fun e w' => e = .returned (.int .i64 (fdI L key)) ∧ Below w.heap.size w w' := by
  have H := hide h
  have HK := hide hK
  obtain ⟨n, hn⟩ : ∃ n, n = L.length := ⟨_, rfl⟩
  have c1 : w.cell? ⟨rb, 1, none⟩ = some (.slice a n c) := by rw [hn]; exact h.r.cell 1 _ rfl
  have HN := hide hn
  rw [← hn] at hl
  obtain ⟨t0, ht0⟩ : ∃ t0, t0 = fdI L key := ⟨_, rfl⟩
  rw [← ht0]
  have T0 := hide ht0
  clear h hK hn ht0
  go_enter Try.func28, Try.ntmps28
  go_wp2_with fail
  go_loopw [5] (fun s3 wr => ∃ i : Nat, s3 = .int .i64 (i : Int) ∧ i ≤ n ∧ Hid (∀ k (h : k < L.length), k < i → L[k].1 ≠ key) ∧ w = wr) (fun s3 _ => n - (intOf s3).toNat)
  case atStart => exact ⟨0, rfl, by omega, hide (fun k h z => by omega), (by first | rfl | trivial)⟩
  case round =>
    obtain ⟨i, rfl, hi, HL, rfl⟩ := hrel
    by_cases hlt : i < n
    · have d1 : decide ((i : Int) < (n : Int)) = true := by rw [decide_eq_true_eq]; omega
      have d2 : decide (i < n) = true := by rw [decide_eq_true_eq]; omega
      have il : i < L.length := by have := HN.out; omega
      obtain ⟨g, o, rfl, gl, x0, _⟩ := H.out.is.at_ il
      obtain ⟨y, hy⟩ : ∃ y, y = L[i].1 := ⟨_, rfl⟩
      rw [← hy] at x0
      have HY := hide hy
      clear hy
      by_cases e : y = key
      · subst e
        have f1 : (y.toList == y.toList) = true := by simp
        have r : t0 = (i : Int) := by
          rw [T0.out]; unfold fdI
          rw [(idxK_some HK.out).2 ⟨il, HY.out.symm⟩]
        subst r
        go_wp2_with fail
        go_returns
        exact ⟨rfl, Below.refl _ _⟩
      · have f1 : (y.toList == key.toList) = false := by
          cases h : y.toList == key.toList
          · rfl
          · exact absurd (toL_inj (by simpa using h)) e
        have E := hide e
        clear e
        go_wp2_with fail
        go_roundw
        case rel =>
          refine ⟨i + 1, by go_num, by omega, hide (fun k hk z => ?_), (by first | rfl | trivial)⟩
          by_cases e : k = i
          · subst e; rw [← HY.out]; exact E.out
          · exact HL.out k hk (by omega)
        case measure => (first | (simp [intOf]; done) | (simp [intOf]; omega))
    · obtain rfl : i = n := by omega
      have d1 : decide ((i : Int) < (i : Int)) = false := by rw [decide_eq_false_iff_not]; omega
      have d2 : decide (i < i) = false := by rw [decide_eq_false_iff_not]; omega
      have r : t0 = -1 := by
        rw [T0.out]; unfold fdI
        cases q : idxK L key with
        | none => rfl
        | some k =>
          obtain ⟨hk, e⟩ := (idxK_some HK.out).1 q
          exact absurd e (HL.out k hk (by have := HN.out; omega))
      subst r
      go_wp2_with fail
      go_returns
      exact ⟨rfl, Below.refl _ _⟩
set_option maxRecDepth 100000 in
set_option maxHeartbeats 4000000 in
theorem rsame7_spec {w : World} {a1 a2 : Option Addr} {c1 c2 : Nat} {A : List En} (h1 : IsE w a1 A) (h2 : IsE w a2 A) (hl : A.length ≤ 1048576) :
    Calls Try.prog 11 #[.slice a1 A.length c1, .slice a2 A.length c2] w fun e w' => e = .returned (.bool true) ∧ Below w.heap.size w w' := by
  have H1 := hide h1
  have H2 := hide h2
  obtain ⟨n, hn⟩ : ∃ n, n = A.length := ⟨_, rfl⟩
  have HN := hide hn
  rw [← hn] at hl ⊢
  clear h1 h2 hn
  go_enter Try.func11, Try.ntmps11
  go_wp2_with fail
  go_loopw [5] (fun s3 wr => ∃ i : Nat, s3 = .int .i64 (i : Int) ∧ i ≤ n ∧ Hid (Below w.heap.size w wr)) (fun s3 _ => n - (intOf s3).toNat)
  case atStart => exact ⟨0, rfl, by omega, hide (Below.refl _ _)⟩
  case round =>
    obtain ⟨i, rfl, hi, BB⟩ := hrel
    by_cases hlt : i < n
    · have d1 : decide ((i : Int) < (n : Int)) = true := by rw [decide_eq_true_eq]; omega
      have d2 : decide (i < n) = true := by rw [decide_eq_true_eq]; omega
      have il : i < A.length := by have := HN.out; omega
      obtain ⟨g, o, rfl, gl, x0, x1⟩ := (H1.out.later BB.out).at_ il
      obtain ⟨g', o', rfl, gl', y0, y1⟩ := (H2.out.later BB.out).at_ il
      obtain ⟨⟨s0, s1⟩, hs⟩ : ∃ s, s = A[i] := ⟨_, rfl⟩
      rw [← hs] at x0 x1 y0 y1
      dsimp only at x0 x1 y0 y1
      have f1 : (s0.toList == s0.toList) = true := by simp
      clear hs
      go_wp2_with fail
      go_quiet (fail)
      go_wp2_with fail
      go_roundw
      case rel => exact ⟨i + 1, by go_num, by omega, hide (BB.out.trans (by first | exact below_drewN (Below.refl _ _) _ | exact Below.refl _ _))⟩
      case measure => (first | (simp [intOf]; done) | (simp [intOf]; omega))
    · obtain rfl : i = n := by omega
      have d1 : decide ((i : Int) < (i : Int)) = false := by rw [decide_eq_false_iff_not]; omega
      have d2 : decide (i < i) = false := by rw [decide_eq_false_iff_not]; omega
      go_wp2_with fail
      go_returns
      exact ⟨rfl, BB.out⟩
end Go.Proofs.Ytdfmfkibafcbcaa
