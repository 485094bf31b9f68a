/- alarm: a watch's cells and what each method makes of them. -/
import Derived.Test.YtnlefakicjojdaaAlvd
import Derived.Test.YtnlefakicjojdaaRowc
import Derived.Laws.ByValue
import Derived.Laws.EntriesVeiled
namespace Go.Proofs.Ytnlefakicjojdaa
set_option linter.unusedVariables false
set_option linter.unusedSimpArgs false
open Go.RowKit W Go.Maps
/-- How a rule stands. -/
structure St where
  st : Int
  said : Int
  when : Int
  cand : Int
  runs : Int
  gaps : Int
  last : Int
  mute : Int
def pl1 (x : Int) : Int := IntKind.i64.wrap (x + 1)
def entS (s : St) (q : Int) : St := { s with st := q, cand := 0, runs := 0 }
def gap1 (s : St) : St := { s with cand := 0, runs := 0, gaps := pl1 s.gaps }
def gapS (R : Ru) (s : St) : St := if 0 < R.an ∧ R.an ≤ (gap1 s).gaps then entS (gap1 s) 4 else gap1 s
def mov1 (s : St) (l : Int) : St := if s.cand = l then { s with runs := pl1 s.runs } else { s with cand := l, runs := pl1 0 }
def movS (R : Ru) (s : St) (l : Int) : St :=
  if l = s.st then { s with cand := 0, runs := 0 } else if s.st = 4 ∨ l < s.st then entS s l else if R.fr ≤ (mov1 s l).runs then entS (mov1 s l) l else mov1 s l
def valS (R : Ru) (s : St) (v : Int) : St := movS R { s with gaps := 0 } (lev R s.st v)
def dueB (R : Ru) (s : St) (at' : Int) : Bool := decide (s.st ≠ 1 ∧ 0 < R.ag ∧ R.ag ≤ IntKind.i64.wrap (at' - s.when))
def sayB (R : Ru) (s : St) (at' : Int) : Bool := decide (s.mute ≤ at' ∧ (s.st = s.said → dueB R s at' = true))
def sayS (R : Ru) (s : St) (at' : Int) : St := if sayB R s at' then { s with said := s.st, when := at' } else s
def sayO (R : Ru) (s : St) (at' : Int) (is : Bool) (v1 v0 : Int) : Option (List Value) :=
  if sayB R s at' then some [.string R.nm, .int .i64 at', .int .i64 s.said, .int .i64 s.st, .bool (decide (s.st = s.said)), .bool is, .int .i64 v1, .int .u64 v0] else none
def lvF (st : Int) : Nat := if st = 2 then 56 else if st = 3 then 57 else 58
def lvV (st : Int) (b : Nat) : Value := .func (.func (lvF st)) #[.pointer (some ⟨b, 0, none⟩)] #[]
def wlx (R : Ru) (s : St) (lv : Value) : List Value :=
  [.string R.nm, .bool R.ab, .int .i64 R.w1, .int .u64 R.w0, .int .i64 R.c1, .int .u64 R.c0, .int .i64 R.s1, .int .u64 R.s0, .int .i64 R.fr, .int .i64 R.an, .int .i64 R.ag,
   .int .i64 s.st, lv, .int .i64 s.said, .int .i64 s.when, .int .i64 s.cand, .int .i64 s.runs, .int .i64 s.gaps, .int .i64 s.last, .int .i64 s.mute]
abbrev wl (R : Ru) (s : St) (b : Nat) : List Value := wlx R s (lvV s.st b)
abbrev WatchAt (w : World) (b : Nat) (R : Ru) (s : St) : Prop := Row w b 0 (wl R s b)
theorem WatchAt.ru {w : World} {b : Nat} {R : Ru} {s : St} (h : WatchAt w b R s) : RuAt w b R :=
  ⟨h.at0 1 _ rfl, h.at0 2 _ rfl, h.at0 3 _ rfl, h.at0 4 _ rfl, h.at0 5 _ rfl, h.at0 6 _ rfl, h.at0 7 _ rfl, h.lt⟩
def WPost (w : World) (b : Nat) (R : Ru) (s : St) (e : Ending) (w' : World) : Prop := e = .returned (.tuple #[]) ∧ WatchAt w' b R s ∧ Mod [b] w w'
set_option maxRecDepth 100000 in
set_option maxHeartbeats 4000000 in
theorem enter_any {w : World} {b : Nat} {R : Ru} {s : St} {lv : Value} (h : Row w b 0 (wlx R s lv)) (q : Int) :
    Calls Try.prog 46 #[.pointer (some ⟨b, 0, none⟩), .int .i64 q] w (WPost w b R (entS s q)) := by
  have H := hide h
  have lt := h.lt
  have c11 := h.at0 11 _ rfl
  have c12 := h.at0 12 _ rfl
  have c15 := h.at0 15 _ rfl
  have c16 := h.at0 16 _ rfl
  have f11 := h.fr0 11 (by simp [wlx])
  have f12 := h.fr0 12 (by simp [wlx])
  have f15 := h.fr0 15 (by simp [wlx])
  have f16 := h.fr0 16 (by simp [wlx])
  have hmf : ∀ (fn : Fn) (first cap : Array Value) (w : World), (Instr.makeFunc fn first cap).run Try.prog w = .ok (.func fn first cap) w := fun _ _ _ _ => rfl
  clear h
  by_cases q2 : q = 2
  · subst q2
    go_enter Try.func46, Try.ntmps46
    go_wp2_with fail
    go_end0
    refine ⟨rfl, (((H.out.set0 11 (by simp [wlx]) (.int .i64 2)).set0 15 (by simp [wlx]) (.int .i64 0)).set0 16 (by simp [wlx]) (.int .i64 0)).set0 12 (by simp [wlx]) _, ?_⟩
    exact ((((Mod.refl [b] w).setCell (by simp) _).setCell (by simp) _).setCell (by simp) _).setCell (by simp) _
  · have y2 : (q == 2) = false := by simpa using q2
    by_cases q3 : q = 3
    · subst q3
      go_enter Try.func46, Try.ntmps46
      go_wp2_with fail
      go_end0
      refine ⟨rfl, (((H.out.set0 11 (by simp [wlx]) (.int .i64 3)).set0 15 (by simp [wlx]) (.int .i64 0)).set0 16 (by simp [wlx]) (.int .i64 0)).set0 12 (by simp [wlx]) _, ?_⟩
      exact ((((Mod.refl [b] w).setCell (by simp) _).setCell (by simp) _).setCell (by simp) _).setCell (by simp) _
    · have y3 : (q == 3) = false := by simpa using q3
      go_enter Try.func46, Try.ntmps46
      go_wp2_with fail
      go_end0
      have r := (((H.out.set0 11 (by simp [wlx]) (.int .i64 q)).set0 15 (by simp [wlx]) (.int .i64 0)).set0 16 (by simp [wlx]) (.int .i64 0)).set0 12 (by simp [wlx]) (lvV q b)
      have e : lvV q b = .func (.func 58) #[.pointer (some ⟨b, 0, none⟩)] #[] := by unfold lvV lvF; rw [if_neg q2, if_neg q3]
      refine ⟨rfl, ?_, ?_⟩
      · rw [e] at r
        unfold WatchAt entS
        rw [show wl R { s with st := q, cand := 0, runs := 0 } b = ((((wlx R s lv).set 11 (.int .i64 q)).set 15 (.int .i64 0)).set 16 (.int .i64 0)).set 12 (lvV q b) from rfl, e]
        exact r
      exact ((((Mod.refl [b] w).setCell (by simp) _).setCell (by simp) _).setCell (by simp) _).setCell (by simp) _
theorem enter_spec {w : World} {b : Nat} {R : Ru} {s : St} (h : WatchAt w b R s) (q : Int) :
    Calls Try.prog 46 #[.pointer (some ⟨b, 0, none⟩), .int .i64 q] w (WPost w b R (entS s q)) := enter_any h q
end Go.Proofs.Ytnlefakicjojdaa
