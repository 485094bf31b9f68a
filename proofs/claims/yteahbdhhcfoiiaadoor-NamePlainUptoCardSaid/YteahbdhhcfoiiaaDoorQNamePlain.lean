/- Texts that belong together: Lawntx. -/
import Derived.Test.YteahbdhhcfoiiaaDoorG06
set_option linter.unusedSimpArgs false
set_option linter.unusedVariables false
/- name: NameTexts, NamePlain. -/
namespace Go.Proofs.YteahbdhhcfoiiaaDoor
set_option linter.unusedVariables false
set_option linter.unusedSimpArgs false
open Go.RowKit W
set_option maxRecDepth 100000 in
set_option maxHeartbeats 8000000 in
theorem law_NameTexts (a : Option Addr) (c : Nat) (p : List (List Gl)) (pw : PtW p) (hw : patW p ≤ 4398046511104) (W : World) (hsh : W.ShapedOpen Tryd.prog) (ha : IsPt W a p) :
    Calls Tryd.prog 6 #[.agg #[.slice a p.length c]] W fun e w' => e = .returned (.bool true) ∧ Below W.heap.size W w' := by
  obtain ⟨mx, gm⟩ := gm_at hsh
  have k1 := fun w' (h : Kp W a p.length c w') => ptext_spec p pw hw a c w' (ha.later h.below)
  have k2 := fun w' (h : Kp W a p.length c w') => rtext2_spec p pw hw a c w' (ha.later h.below)
  have k3 := fun w' (h : Kp W a p.length c w') => alive_spec mx w' (gm.later h.below)
  have pn := pw.n
  obtain ⟨⟨t, x⟩, ht⟩ : ∃ t, textA p = t := ⟨_, rfl⟩
  rw [ht] at k1 k2
  simp only at k1 k2
  obtain ⟨n, hn⟩ : ∃ n, n = p.length := ⟨_, rfl⟩
  rw [← hn] at k1 k2 k3 pn ⊢
  have K0 : Hid (Kp W a n c (W.alloc (.cells #[.slice a n c] 33))) := ⟨by simp [go_sem], (Below.refl _ _).alloc (Nat.le_refl _) _, by simp⟩
  clear ht hn gm hsh ha pw hw
  go_enter Tryd.func6, Tryd.ntmps6
  go_wp2_with fail
  refine Calls.mono (k1 _ K0.out) ?_
  rintro e w5 ⟨rfl, b5⟩
  have K5 := hide (K0.out.call b5)
  have z0 := K5.out.cell
  clear b5 k1
  go_wp2_with fail
  refine Calls.mono (k2 _ K5.out) ?_
  rintro e w6 ⟨rfl, b6⟩
  have K6 := hide (K5.out.call b6)
  clear b6 k2
  go_wp2_with fail
  refine Calls.mono (k3 _ K6.out) ?_
  rintro e w7 ⟨rfl, b7⟩
  have K7 := hide (K6.out.call b7)
  clear b7 k3
  go_wp2_with fail
  go_returns
  exact ⟨rfl, K7.out.below⟩
set_option maxRecDepth 100000 in
set_option maxHeartbeats 8000000 in
theorem law_NamePlain (a : Option Addr) (c : Nat) (p : List (List Gl)) (pw : PtW p) (hw : patW p ≤ 4398046511104) (W : World) (hsh : W.ShapedOpen Tryd.prog) (ha : IsPt W a p) :
    Calls Tryd.prog 8 #[.agg #[.slice a p.length c]] W fun e w' => e = .returned (.bool true) ∧ Below W.heap.size W w' := by
  obtain ⟨mx, gm⟩ := gm_at hsh
  have k1 := fun w' (h : Kp W a p.length c w') => plain_spec p pw hw a c w' (ha.later h.below)
  have k2 := fun w' (h : Kp W a p.length c w') => rplain_spec p pw hw a c w' (ha.later h.below)
  have k3 := fun w' (h : Kp W a p.length c w') => alive_spec mx w' (gm.later h.below)
  have pn := pw.n
  obtain ⟨⟨t, x⟩, ht⟩ : ∃ t, plainA p = t := ⟨_, rfl⟩
  rw [ht] at k1 k2
  simp only at k1 k2
  obtain ⟨n, hn⟩ : ∃ n, n = p.length := ⟨_, rfl⟩
  rw [← hn] at k1 k2 k3 pn ⊢
  have K0 : Hid (Kp W a n c (W.alloc (.cells #[.slice a n c] 33))) := ⟨by simp [go_sem], (Below.refl _ _).alloc (Nat.le_refl _) _, by simp⟩
  clear ht hn gm hsh ha pw hw
  go_enter Tryd.func8, Tryd.ntmps8
  go_wp2_with fail
  refine Calls.mono (k1 _ K0.out) ?_
  rintro e w5 ⟨rfl, b5⟩
  have K5 := hide (K0.out.call b5)
  have z0 := K5.out.cell
  clear b5 k1
  go_wp2_with fail
  refine Calls.mono (k2 _ K5.out) ?_
  rintro e w6 ⟨rfl, b6⟩
  have K6 := hide (K5.out.call b6)
  clear b6 k2
  go_wp2_with fail
  refine Calls.mono (k3 _ K6.out) ?_
  rintro e w7 ⟨rfl, b7⟩
  have K7 := hide (K6.out.call b7)
  clear b7 k3
  go_wp2_with fail
  go_returns
  exact ⟨rfl, K7.out.below⟩
end Go.Proofs.YteahbdhhcfoiiaaDoor
