/- NameCompiles: the law's walk. -/
import Derived.Test.YteahbdhhcfoiiaaDoorNal
import Derived.Test.YteahbdhhcfoiiaaDoorNef
import Derived.Test.YteahbdhhcfoiiaaDoorNeg
import Derived.Test.YteahbdhhcfoiiaaDoorShp
import Derived.Test.YteahbdhhcfoiiaaDoorLawnn
namespace Go.Proofs.YteahbdhhcfoiiaaDoor
set_option linter.unusedVariables false
set_option linter.unusedSimpArgs false
open Go.RowKit W
theorem patE_err {s : ByteArray} {f i j : Nat} {acc : List (List Gl)} {c : Int} (h : patA s f i acc = (j, .error c)) : c = 31 ∨ c = 3 := by
  induction f generalizing i acc with
  | zero => cases h; exact .inl rfl
  | succ f ih =>
    unfold patA at h
    split at h
    · rename_i e; cases h; exact node_err e
    · split at h
      · cases h; exact .inr rfl
      · split at h
        · cases h
        · exact ih h
set_option maxRecDepth 100000 in
set_option maxHeartbeats 8000000 in
theorem law_NameCompiles (s : ByteArray) (hs : s.size ≤ 140737488351232) (W : World) (hsh : W.ShapedOpen Tryd.prog) :
    Calls Tryd.prog 5 #[.string s] W fun e w' => e = .returned (.bool true) ∧ Below W.heap.size W w' := by
  obtain ⟨mx, gm⟩ := gm_at hsh
  have GMH := hide gm
  have k1 := comp_spec s W
  have k2 := fun w => ecomp_spec s w
  have CF := hide (fun j p => @comp_fit s j p)
  obtain ⟨⟨j, r⟩, hr⟩ : ∃ q, compA s = q := ⟨_, rfl⟩
  rw [hr] at k1 k2
  have HR := hide hr
  unfold CompRes at k1 k2
  clear hsh gm hr hs
  go_enter Tryd.func5, Tryd.ntmps5
  go_wp2_with fail
  refine Calls.mono k1 ?_
  rintro e W1 ⟨b1, he⟩
  have B1 := hide b1
  have J : Hid (∃ (p : List (List Gl)) (a : Option Addr) (c : Nat) (x : Int), e = .returned (.tuple #[.agg #[.slice a p.length c], .int .i64 (j : Int), .int .i64 x]) ∧ IsPt W1 a p ∧ PtF p ∧ (∀ (w2 : World) e2, (match r with
    | .error c => e2 = Ending.returned (.tuple #[.agg #[.slice none 0 0], .int .i64 (j : Int), .int .i64 c])
    | .ok p => ∃ a c, e2 = Ending.returned (.tuple #[.agg #[.slice a p.length c], .int .i64 (j : Int), .int .i64 0]) ∧ IsPt w2 a p) → ∃ b d, e2 = .returned (.tuple #[.agg #[.slice b p.length d], .int .i64 (j : Int), .int .i64 x]) ∧ IsPt w2 b p)) := by
    show _
    cases r with
    | error c => exact ⟨[], none, 0, c, he, .inl rfl, ⟨by simp, by simp, by simp⟩, fun w2 e2 h => ⟨none, 0, h, .inl rfl⟩⟩
    | ok p =>
      obtain ⟨a, c, he, ty, _⟩ := he
      exact ⟨p, a, c, 0, he, ty.is, CF.out _ _ HR.out, fun w2 e2 h => by obtain ⟨b, d, h1, h2⟩ := h; exact ⟨b, d, h1, h2⟩⟩
  obtain ⟨p, a, c, x, rfl, I1, pf, JJ⟩ := J.out
  have II := hide I1
  have PF := hide pf
  have JH := hide JJ
  have pn := pf.n
  clear he J I1 pf JJ b1 k1
  go_wp2_with fail
  refine Calls.mono (k2 _) ?_
  rintro e W2 ⟨b2, he⟩
  obtain ⟨b, d, rfl, I2⟩ := JH.out W2 e (by
    cases r with
    | error c => exact he
    | ok p => obtain ⟨a, c, h1, h2, _⟩ := he; exact ⟨a, c, h1, h2.is⟩)
  obtain ⟨n, hn⟩ : ∃ n, n = p.length := ⟨_, rfl⟩
  have HN := hide hn
  have B2 : Hid (Below W1.heap.size W1 W2) := ((Below.refl _ _).alloc (Nat.le_refl _) _).trans (b2.mono (by simp))
  have ks := fun w (u : Below W2.heap.size W2 w) => rsame_spec p PF.out a b c d w ((II.out.later B2.out).later u) (I2.later u)
  have ka := fun w (u : Below W.heap.size W w) => alive_spec mx w (GMH.out.later u)
  have q1 : W2.cell? ⟨W1.heap.size, 0, none⟩ = some (.slice a p.length c) := (b2.cell (p := ⟨W1.heap.size, 0, none⟩) (by simp)).trans (by simp [go_sem])
  have ql : W1.heap.size < W2.heap.size := Nat.lt_of_lt_of_le (by simp) b2.size
  have z2 := B2.out.size
  have z1 := B1.out.size
  rw [← hn] at ks q1 pn ⊢
  have B3 := hide (B1.out.trans (B2.out.mono z1))
  clear he b2 k2 hn I2
  go_wp2_with (first
    | (go_at_call 27; refine Calls.mono (ks _ (by go_grown)) ?_; rintro e w5 ⟨rfl, b5⟩; have B5 := hide (B3.out.trans ((show Below W2.heap.size W2 w5 from (show Below W2.heap.size W2 _ from by go_grown).trans (b5.mono (by simp))).mono (by omega))); clear b5)
    | (go_at_call 22; refine Calls.mono (ka _ B5.out) ?_; rintro e w6 ⟨rfl, b6⟩; have B6 := hide (B5.out.trans (b6.mono B5.out.size)); clear b6))
  go_returns
  exact ⟨rfl, B6.out⟩
end Go.Proofs.YteahbdhhcfoiiaaDoor
