/- name: the reference's Compile, for every text. -/
import Derived.Test.YtagahoelojfhcaaDoorNee
namespace Go.Proofs.YtagahoelojfhcaaDoor
set_option linter.unusedVariables false
set_option linter.unusedSimpArgs false
open Go.RowKit W
theorem TyN.less {B C : Nat} {w : World} {a : Option Addr} {p : List (List Gl)} (h : TyN B w a p) (hC : C ≤ B) : TyN C w a p := by
  rcases h with h | ⟨g, o, cs, fr, rfl, hb, hh, hc⟩
  · exact .inl h
  · exact .inr ⟨g, o, cs, fr, rfl, by omega, hh, fun j hj => by
      obtain ⟨b, c, h3, h4, h5⟩ := hc j hj
      exact ⟨b, c, h3, h4.less hC, h5⟩⟩
set_option maxRecDepth 100000 in
set_option maxHeartbeats 8000000 in
theorem ecomp_spec (s : ByteArray) (w : World) : Calls Tryd.prog 8 #[.string s] w (CompRes w (compA s)) := by
  unfold compA
  by_cases h : 400 < s.size
  · rw [if_pos h]
    go_enter Tryd.func8, Tryd.ntmps8
    go_wp2_with fail
    refine bodyPost_ret (by simp [results, Tryd.results8, go_sem]; try rfl) rfl ?_
    exact ⟨by go_grown, rfl⟩
  · rw [if_neg h]
    have kr := read_short (show s.size ≤ 400 by omega) (w.alloc (.cells #[.slice none 0 0] 27))
    obtain ⟨⟨j, r⟩, hr⟩ : ∃ q, patA s (s.size + 1) 0 [] = q := ⟨_, rfl⟩
    rw [hr] at kr ⊢
    unfold CompRes at kr
    have Z0 : Hid (BoxP (w.alloc (.cells #[.slice none 0 0] 27)) w.heap.size (.slice none 0 0)) := heap_alloc_new _ _
    have B0 : Hid (Below w.heap.size w (w.alloc (.cells #[.slice none 0 0] 27))) := (Below.refl _ _).alloc (Nat.le_refl _) _
    go_enter Tryd.func8, Tryd.ntmps8
    go_wp2_with fail
    refine Calls.mono kr ?_
    rintro e w2 ⟨b2, he⟩
    have Z2 := hide (BoxP.upd Z0.out (Upd.of_below (B := 0) (T := []) b2) (by simp))
    have B2 := hide (B0.out.trans (b2.mono (by simp)))
    obtain ⟨z0, zf, zl⟩ := Z2.out.cells
    clear b2 kr hr
    cases r with
    | error c =>
      simp only at he
      subst he
      go_wp2_with fail
      refine bodyPost_ret (by simp [results, Tryd.results8, go_sem, z0]; try rfl) rfl ?_
      exact ⟨B2.out.setCell (by simp) _, rfl⟩
    | ok p =>
      obtain ⟨a, c, he, ty, lc⟩ := he
      have TY := hide (ty.less (C := w.heap.size) (by simp))
      have LC := hide lc
      subst he
      clear ty lc
      go_wp2_with fail
      refine bodyPost_ret (by simp [results, Tryd.results8, go_sem, z0]; try rfl) rfl ?_
      exact ⟨B2.out.setCell (by simp) _, _, _, rfl, TY.out.upd ((Upd.refl w.heap.size [27] _).set Z2.out (by simp) (by simp) _) (by decide) (by decide) (by decide), LC.out⟩
end Go.Proofs.YtagahoelojfhcaaDoor
