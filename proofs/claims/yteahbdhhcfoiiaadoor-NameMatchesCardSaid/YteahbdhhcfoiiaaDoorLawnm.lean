/- NameMatches: the law's walk. -/
import Derived.Test.YteahbdhhcfoiiaaDoorNal
import Derived.Test.YteahbdhhcfoiiaaDoorNru
import Derived.Test.YteahbdhhcfoiiaaDoorShp
import Derived.Test.YteahbdhhcfoiiaaDoorLawnn
namespace Go.Proofs.YteahbdhhcfoiiaaDoor
set_option linter.unusedVariables false
set_option linter.unusedSimpArgs false
open Go.RowKit W
/-- A pattern's box, and the world behind it. -/
structure Kp (W : World) (a : Option Addr) (n c : Nat) (w' : World) : Prop where
  cell : w'.cell? ⟨W.heap.size, 0, none⟩ = some (.slice a n c)
  below : Below W.heap.size W w'
  lt : W.heap.size < w'.heap.size
theorem Kp.drew {W : World} {a : Option Addr} {n c : Nat} {w' : World} (h : Kp W a n c w') : Kp W a n c w'.drew := ⟨h.cell, h.below.drew, h.lt⟩
theorem Kp.call {W : World} {a : Option Addr} {n c : Nat} {X Y : World} (h : Kp W a n c X) (b : Below X.heap.size X Y) : Kp W a n c Y :=
  ⟨(b.cell (p := ⟨W.heap.size, 0, none⟩) h.lt).trans h.cell, h.below.trans (b.mono h.below.size), Nat.lt_of_lt_of_le h.lt b.size⟩
set_option maxRecDepth 100000 in
set_option maxHeartbeats 8000000 in
theorem law_NameMatches (a : Option Addr) (c : Nat) (p : List (List Gl)) (s : ByteArray) (pw : PtW p) (hs : s.size ≤ 140737488351232) (W : World) (hsh : W.ShapedOpen Tryd.prog) (ha : IsPt W a p) :
    Calls Tryd.prog 7 #[.agg #[.slice a p.length c], .string s] W fun e w' => e = .returned (.bool true) ∧ Below W.heap.size W w' := by
  obtain ⟨mx, gm⟩ := gm_at hsh
  have k1 := fun w' (h : Kp W a p.length c w') => match_spec p pw s mx a c w' (ha.later h.below) (gm.later h.below)
  have k2 := fun w' (h : Kp W a p.length c w') => rmatch_spec p pw s a c w' (ha.later h.below)
  have k3 := fun w' (h : Kp W a p.length c w') => alive_spec mx w' (gm.later h.below)
  have pn := pw.n
  obtain ⟨t, ht⟩ : ∃ t, matB p s = t := ⟨_, rfl⟩
  rw [ht] at k1 k2
  obtain ⟨n, hn⟩ : ∃ n, n = p.length := ⟨_, rfl⟩
  rw [← hn] at k1 k2 k3 pn ⊢
  have K0 : Kp W a n c (W.alloc (.cells #[.slice a n c] 33)) := ⟨by simp [go_sem], (Below.refl _ _).alloc (Nat.le_refl _) _, by simp⟩
  clear ht hn gm hsh ha pw hs
  go_enter Tryd.func7, Tryd.ntmps7
  go_wp2_with fail
  cases t
  all_goals
    go_region_held3 (fun w' => w'.cell? ⟨W.heap.size, 0, none⟩ = some (.slice a n c) ∧ Kp W a n c w')
      ((refine (fun K => ⟨Kp.cell K, K⟩) (?_ : Kp W a n c _); (first | assumption | exact K0.drew)))
      (first
      | (go_at_call 30; (with_reducible refine Calls.mono (k1 _ (by first | assumption | exact K0.drew)) ?_); rintro e w5 ⟨rfl, b5⟩; have K5 := Kp.call (by first | assumption | exact K0.drew) b5; clear b5)
      | (go_at_call 31; (with_reducible refine Calls.mono (k2 _ (by first | assumption | exact K0.drew)) ?_); rintro e w6 ⟨rfl, b6⟩; have K6 := Kp.call (by first | assumption | exact K0.drew) b6; clear b6)
      | (go_at_call 22; (with_reducible refine Calls.mono (k3 _ (by first | assumption | exact K0.drew)) ?_); rintro e w7 ⟨rfl, b7⟩; have K7 := Kp.call (by first | assumption | exact K0.drew) b7; clear b7))
    all_goals
      go_wp2_with fail
      go_returns
      exact ⟨rfl, by first | exact K7.below | exact K6.below | exact K5.below⟩
end Go.Proofs.YteahbdhhcfoiiaaDoor
