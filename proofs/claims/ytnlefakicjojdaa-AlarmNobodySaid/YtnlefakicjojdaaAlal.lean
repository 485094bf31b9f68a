/- alarm: the rule 'up'; alive. -/
import Derived.Test.YtnlefakicjojdaaAlpu
import Derived.Test.YtnlefakicjojdaaWof
namespace Go.Proofs.Ytnlefakicjojdaa
set_option linter.unusedVariables false
set_option linter.unusedSimpArgs false
open Go.RowKit W Go.Maps
def zrL : List Value := [.string ⟨#[]⟩, .bool false, .int .i64 0, .int .u64 0, .int .i64 0, .int .u64 0, .int .i64 0, .int .u64 0, .int .i64 0, .int .i64 0, .int .i64 0]
theorem of10 (w : World) : Calls Try.prog 27 #[.int .i64 10] w fun e w' => e = .returned (.agg #[.int .i64 0, .int .u64 10]) ∧ Below w.heap.size w w' := wof_spec 10 ⟨by omega, by omega⟩ w
theorem of20 (w : World) : Calls Try.prog 27 #[.int .i64 20] w fun e w' => e = .returned (.agg #[.int .i64 0, .int .u64 20]) ∧ Below w.heap.size w w' := wof_spec 20 ⟨by omega, by omega⟩ w
theorem of2 (w : World) : Calls Try.prog 27 #[.int .i64 2] w fun e w' => e = .returned (.agg #[.int .i64 0, .int .u64 2]) ∧ Below w.heap.size w w' := wof_spec 2 ⟨by omega, by omega⟩ w
theorem of25 (w : World) : Calls Try.prog 27 #[.int .i64 25] w fun e w' => e = .returned (.agg #[.int .i64 0, .int .u64 25]) ∧ Below w.heap.size w w' := wof_spec 25 ⟨by omega, by omega⟩ w
theorem of19 (w : World) : Calls Try.prog 27 #[.int .i64 19] w fun e w' => e = .returned (.agg #[.int .i64 0, .int .u64 19]) ∧ Below w.heap.size w w' := wof_spec 19 ⟨by omega, by omega⟩ w
set_option maxRecDepth 100000 in
set_option maxHeartbeats 4000000 in
theorem up_end {w W : World} (R : Ru) (a b c d : Value) (RW : Row W w.heap.size 0 (ruL R)) (BW : Below w.heap.size w W) :
    bodyPost Try.prog Try.f26 (fun e w' => e = Ending.returned (ruV R) ∧ Below w.heap.size w w') Exit.ret { tmps := #[.pointer (some ⟨w.heap.size, 0, none⟩), a, b, c, d], defers := [] } W := by
  have r0 := RW.at0 0 _ rfl
  have r1 := RW.at0 1 _ rfl
  have r2 := RW.at0 2 _ rfl
  have r3 := RW.at0 3 _ rfl
  have r4 := RW.at0 4 _ rfl
  have r5 := RW.at0 5 _ rfl
  have r6 := RW.at0 6 _ rfl
  have r7 := RW.at0 7 _ rfl
  have r8 := RW.at0 8 _ rfl
  have r9 := RW.at0 9 _ rfl
  have r10 := RW.at0 10 _ rfl
  have zl := RW.lt
  clear RW
  refine bodyPost_ret (v := ruV R) ?_ rfl ?_
  · obtain ⟨nm, ab, w1, w0, c1, c0, s1, s0, fr, an, ag⟩ := R
    simp only at r0 r1 r2 r3 r4 r5 r6 r7 r8 r9 r10
    simp [results, Try.results26, go_sem, r0, r1, r2, r3, r4, r5, r6, r7, r8, r9, r10, zl]
    try rfl
  exact ⟨rfl, BW⟩
theorem fill_up {w : World} {b : Nat} (h : Row w b 0 zrL) : Row (((((((((((w.setCell ⟨b, 0, none⟩ (.string ⟨#[117, 112]⟩)).setCell ⟨b, 1, none⟩ (.bool true)).setCell ⟨b, 2, none⟩ (.int .i64 0)).setCell ⟨b, 3, none⟩ (.int .u64 10)).setCell ⟨b, 4, none⟩ (.int .i64 0)).setCell ⟨b, 5, none⟩ (.int .u64 20)).setCell ⟨b, 6, none⟩ (.int .i64 0)).setCell ⟨b, 7, none⟩ (.int .u64 2)).setCell ⟨b, 8, none⟩ (.int .i64 1)).setCell ⟨b, 9, none⟩ (.int .i64 0)).setCell ⟨b, 10, none⟩ (.int .i64 0)) b 0 (ruL upR) := by
  have l0 : zrL.length = 11 := rfl
  have h0 := h.set0 0 (by simp only [List.length_set, l0]; omega) (.string ⟨#[117, 112]⟩)
  have h1 := h0.set0 1 (by simp only [List.length_set, l0]; omega) (.bool true)
  have h2 := h1.set0 2 (by simp only [List.length_set, l0]; omega) (.int .i64 0)
  have h3 := h2.set0 3 (by simp only [List.length_set, l0]; omega) (.int .u64 10)
  have h4 := h3.set0 4 (by simp only [List.length_set, l0]; omega) (.int .i64 0)
  have h5 := h4.set0 5 (by simp only [List.length_set, l0]; omega) (.int .u64 20)
  have h6 := h5.set0 6 (by simp only [List.length_set, l0]; omega) (.int .i64 0)
  have h7 := h6.set0 7 (by simp only [List.length_set, l0]; omega) (.int .u64 2)
  have h8 := h7.set0 8 (by simp only [List.length_set, l0]; omega) (.int .i64 1)
  have h9 := h8.set0 9 (by simp only [List.length_set, l0]; omega) (.int .i64 0)
  have h10 := h9.set0 10 (by simp only [List.length_set, l0]; omega) (.int .i64 0)
  simp only [zrL, List.set_cons_zero, List.set_cons_succ] at h10
  exact h10
set_option maxRecDepth 100000 in
set_option maxHeartbeats 4000000 in
theorem up_spec (w : World) : Calls Try.prog 26 #[] w fun e w' => e = .returned (ruV upR) ∧ Below w.heap.size w w' := by
  have Z0 := hide (Row.new w zrL 53 _ rfl)
  have B0 : Below w.heap.size w (w.alloc (.cells zrL.toArray 53)) := (Below.refl _ _).alloc (Nat.le_refl _) _
  go_enter Try.func26, Try.ntmps26
  go_wp2_with fail
  refine (of10 _).mono ?_
  rintro e v1 ⟨rfl, hb1⟩
  have Z1 := hide (Z0.out.later hb1)
  have B1 := B0.trans (hb1.mono B0.size)
  clear hb1
  go_wp2_with fail
  refine (of20 _).mono ?_
  rintro e v2 ⟨rfl, hb2⟩
  have Z2 := hide (Z1.out.later hb2)
  have B2 := B1.trans (hb2.mono B1.size)
  clear hb2
  go_wp2_with fail
  refine (of2 _).mono ?_
  rintro e v3 ⟨rfl, hb3⟩
  have Z3 := hide (Z2.out.later hb3)
  have B3 := B2.trans (hb3.mono B2.size)
  clear hb3
  have zl := Z3.out.lt
  have z0 := Z3.out.at0 0 _ rfl; have y0 := Z3.out.fr0 0 (by simp [zrL]); have z1 := Z3.out.at0 1 _ rfl; have y1 := Z3.out.fr0 1 (by simp [zrL]); have z2 := Z3.out.at0 2 _ rfl; have y2 := Z3.out.fr0 2 (by simp [zrL]); have z3 := Z3.out.at0 3 _ rfl; have y3 := Z3.out.fr0 3 (by simp [zrL]); have z4 := Z3.out.at0 4 _ rfl; have y4 := Z3.out.fr0 4 (by simp [zrL]); have z5 := Z3.out.at0 5 _ rfl; have y5 := Z3.out.fr0 5 (by simp [zrL]); have z6 := Z3.out.at0 6 _ rfl; have y6 := Z3.out.fr0 6 (by simp [zrL]); have z7 := Z3.out.at0 7 _ rfl; have y7 := Z3.out.fr0 7 (by simp [zrL]); have z8 := Z3.out.at0 8 _ rfl; have y8 := Z3.out.fr0 8 (by simp [zrL]); have z9 := Z3.out.at0 9 _ rfl; have y9 := Z3.out.fr0 9 (by simp [zrL]); have z10 := Z3.out.at0 10 _ rfl; have y10 := Z3.out.fr0 10 (by simp [zrL])
  go_wp2_with fail
  have s3 := B3.size
  refine up_end upR _ _ _ _ (fill_up Z3.out) ?_
  iterate 11 refine Below.setCell ?_ (by simp) _
  exact B3
end Go.Proofs.Ytnlefakicjojdaa
