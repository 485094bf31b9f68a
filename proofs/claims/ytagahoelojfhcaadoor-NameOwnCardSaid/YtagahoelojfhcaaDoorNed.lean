/- name: the reference's piece. -/
import Derived.Test.YtagahoelojfhcaaDoorNec
import Derived.Test.YtagahoelojfhcaaDoorNpi
namespace Go.Proofs.YtagahoelojfhcaaDoor
set_option linter.unusedVariables false
set_option linter.unusedSimpArgs false
open Go.RowKit W
theorem Ge.box {a b : World} {rb i : Nat} {s : ByteArray} {d : Int} (h : Ge a b rb s i d) (l : rb < a.heap.size) (x y z : Value) : Ge a (((b.setCell ⟨a.heap.size, 0, none⟩ x).setCell ⟨a.heap.size, 1, none⟩ y).setCell ⟨a.heap.size, 2, none⟩ z) rb s i d :=
  ((h.set_new l (by simp) _).set_new l (by simp) _).set_new l (by simp) _
def PieceE (w : World) (rb : Nat) (s : ByteArray) (i : Nat) (E : Nat × Except Int Gl) (e : Ending) (w' : World) : Prop :=
  match E.2 with
  | .ok g => Ge w w' rb s E.1 0 ∧ ∃ a c, e = .returned (.tuple #[.agg #[.int .i64 g.k, .string g.t, .slice a g.al.length c], .bool true]) ∧ TyT w.heap.size w' a g.al ∧ g.al.length ≤ c
  | .error c => (Ge w w' rb s E.1 c ∧ (nx s i = 91 ∨ nx s i = 123) ∧ ∃ k, e = .returned (.tuple #[.agg #[.int .i64 k, .string ⟨#[]⟩, .slice none 0 0], .bool true])) ∨ (c = 31 ∧ E.1 = i ∧ Ge w w' rb s i 0 ∧ e = .returned (.tuple #[.agg #[.int .i64 0, .string ⟨#[]⟩, .slice none 0 0], .bool false]))
set_option maxRecDepth 100000 in
set_option maxHeartbeats 8000000 in
theorem epiece_spec {w : World} {rb i : Nat} {s : ByteArray} (h : Re w rb s i 0) (hs : s.size ≤ 400) : Calls Tryd.prog 23 #[.pointer (some ⟨rb, 0, none⟩)] w (PieceE w rb s i (pieceA s i)) := by
  obtain ⟨E, hE⟩ : ∃ E, pieceA s i = E := ⟨_, rfl⟩
  rw [hE]
  have HE := hide hE
  have lr := h.lt
  have le := h.le
  have W0 := hide ((Ge.refl h).later ((Below.refl _ _).alloc (Nat.le_refl _) (.cells #[.int .i64 0, .string ⟨#[]⟩, .slice none 0 0] 34)))
  have Z0 : Hid (Zero3 (w.alloc (.cells #[.int .i64 0, .string ⟨#[]⟩, .slice none 0 0] 34)) w.heap.size) := heap_alloc_new _ _
  have c0 := W0.out.rd.c0
  have c1 := W0.out.rd.c1
  clear hE h
  by_cases hlt : i < s.size
  · have d1 : decide (s.size ≤ i) = false := by rw [decide_eq_false_iff_not]; omega
    have e0 : (nx s i).toNat = s[i].toNat := by rw [nx_lt hlt]
    obtain ⟨x, hx⟩ : ∃ x, s[i].toNat = x := ⟨_, rfl⟩
    have xl : x < 256 := by rw [← hx]; exact UInt8.toNat_lt _
    rw [hx] at e0
    have BK : Hid (∀ y : Nat, y < 256 → x = y → nx s i = UInt8.ofNat y) := fun y hy e => UInt8.toNat_inj.1 (by rw [UInt8.toNat_ofNat']; omega)
    have BN : Hid (∀ y : UInt8, x ≠ y.toNat → nx s i ≠ y) := fun y n q => n (by rw [← e0, q])
    cases hb : nB (nx s i)
    · have kb := rbyte_at s i false hb
      have HB := hide hb
      rw [e0] at kb
      clear e0 hb
      go_enter Tryd.func23, Tryd.ntmps23
      go_wp2_with fail
      go_quiet (fail)
      go_wp2_with fail
      go_quiet (fail)
      have f1 := W0.out.rd.f1
      go_upto_region 7 with (go_at_call 31; refine (kb _).mono ?_; rintro e w1 ⟨rfl, rfl⟩)
      refine abs_wp (fun W => Hid (Ge w W rb s (i + 1) 0) ∧ Hid (Zero3 W w.heap.size)) ⟨(W0.out.drewN _).put (i + 1) hlt (by omega), hide ((Zero3.upd Z0.out (Upd.of_below (B := 0) (T := []) (below_drewN (Below.refl _ _) _)) (by simp)).set_other (by show w.heap.size ≠ rb; omega) _)⟩ ?_
      rintro W1 ⟨G1, Z1⟩
      clear c0 c1 f1 kb W0 Z0
      obtain ⟨z0, z1, z2, zf, zl⟩ := Z1.out.cells
      have zf0 := zf 0
      have zf1 := zf 1
      have zf2 := zf 2
      clear zf
      by_cases y1 : x = 42
      · have F : Hid (E = (i + 1, .ok ⟨2, .empty, []⟩)) := by show _ = _; have m := BK.out 42 (by omega) y1; have := HE.out; rw [← this]; simp [pieceA, m]
        subst y1
        go_wp2_with fail
        refine bodyPost_ret (by simp [results, Tryd.results23, go_sem, z0, z1, z2]; try rfl) rfl ?_
        unfold PieceE
        rw [F.out]
        exact ⟨G1.out.box lr _ _ _, _, _, rfl, .inl rfl, Nat.zero_le _⟩
      have y1b : ((x : Int) == 42) = false := by rw [beq_eq_false_iff_ne]; omega
      have y1c : (x == 42) = false := by rw [beq_eq_false_iff_ne]; omega
      have y1m := hide (BN.out 42 y1)
      by_cases y2 : x = 63
      · have F : Hid (E = (i + 1, .ok ⟨3, .empty, []⟩)) := by show _ = _; have m := BK.out 63 (by omega) y2; have := HE.out; rw [← this]; simp [pieceA, m]
        subst y2
        clear y1
        go_wp2_with fail
        refine bodyPost_ret (by simp [results, Tryd.results23, go_sem, z0, z1, z2]; try rfl) rfl ?_
        unfold PieceE
        rw [F.out]
        exact ⟨G1.out.box lr _ _ _, _, _, rfl, .inl rfl, Nat.zero_le _⟩
      have y2b : ((x : Int) == 63) = false := by rw [beq_eq_false_iff_ne]; omega
      have y2c : (x == 63) = false := by rw [beq_eq_false_iff_ne]; omega
      have y2m := hide (BN.out 63 y2)
      by_cases y3 : x = 91
      · have kc := eclass_spec G1.out.rd hs
        obtain ⟨⟨j, r⟩, hr⟩ : ∃ q, classA s (s.size + 1) (i + 1) [] = q := ⟨_, rfl⟩
        unfold ClassE at kc
        rw [hr] at kc
        have F : Hid (E = match (generalizing := false) r with | none => (j, .error 31) | some rs => (j, .ok ⟨4, ⟨(clsT rs).toArray⟩, []⟩)) := by
          show _ = _; have m := BK.out 91 (by omega) y3; have := HE.out; rw [← this]
          simp only [pieceA]
          rw [m, if_neg (by decide), if_neg (by decide), if_pos (by decide), hr]
          cases r <;> rfl
        have M := hide (BK.out 91 (by omega) y3)
        subst y3
        clear y1 y2 hr z0 z1 z2 zf0 zf1 zf2 zl
        go_upto_region 13 with (fail)
        go_wp2_with (go_at_call 36; refine Calls.mono kc ?_; rintro e w3 ⟨rfl, g3⟩; have G3 := hide (G1.out.trans g3); have Z3 := hide (Zero3.upd Z1.out g3.upd (by decide)); clear g3; obtain ⟨z0, z1, z2, zf, zl⟩ := Z3.out.cells; have zf0 := zf 0; have zf1 := zf 1; have zf2 := zf 2; clear zf)
        refine bodyPost_ret (by simp [results, Tryd.results23, go_sem, z0, z1, z2]; try rfl) rfl ?_
        unfold PieceE
        rw [F.out]
        cases r with
        | none => exact .inl ⟨G3.out.box lr _ _ _, .inl M.out, _, rfl⟩
        | some rs => exact ⟨G3.out.box lr _ _ _, _, _, rfl, .inl rfl, Nat.zero_le _⟩
      have y3b : ((x : Int) == 91) = false := by rw [beq_eq_false_iff_ne]; omega
      have y3c : (x == 91) = false := by rw [beq_eq_false_iff_ne]; omega
      have y3m := hide (BN.out 91 y3)
      by_cases y4 : x = 123
      · have kc := echoice_spec G1.out.rd hs
        obtain ⟨⟨j, r⟩, hr⟩ : ∃ q, choiceA s (s.size + 1) (i + 1) [] = q := ⟨_, rfl⟩
        unfold ChoiceE at kc
        rw [hr] at kc
        have sz1 := G1.out.upd.size
        have F : Hid (E = match (generalizing := false) r with | .error c => (j, .error c) | .ok l => (j, .ok ⟨5, .empty, l⟩)) := by
          show _ = _; have m := BK.out 123 (by omega) y4; have := HE.out; rw [← this]
          simp only [pieceA]
          rw [m, if_neg (by decide), if_neg (by decide), if_neg (by decide), if_pos (by decide), hr]
          cases r <;> rfl
        have M := hide (BK.out 123 (by omega) y4)
        subst y4
        clear y1 y2 y3 hr z0 z1 z2 zf0 zf1 zf2 zl
        go_upto_region 15 with (fail)
        cases r with
        | error c =>
          go_wp2_with (go_at_call 37; refine Calls.mono kc ?_; rintro e w3 ⟨g3, rfl⟩; have G3 := hide (G1.out.trans g3); have Z3 := hide (Zero3.upd Z1.out g3.upd (by decide)); clear g3; obtain ⟨z0, z1, z2, zf, zl⟩ := Z3.out.cells; have zf0 := zf 0; have zf1 := zf 1; have zf2 := zf 2; clear zf)
          refine bodyPost_ret (by simp [results, Tryd.results23, go_sem, z0, z1, z2]; try rfl) rfl ?_
          unfold PieceE
          rw [F.out]
          exact .inl ⟨G3.out.box lr _ _ _, .inr M.out, _, rfl⟩
        | ok l =>
          go_wp2_with (go_at_call 37; refine Calls.mono kc ?_; rintro e w3 ⟨g3, a3, c3, rfl, t3, l3⟩; have G3 := hide (G1.out.trans g3); have T3 := hide (t3.less sz1); have L3 := hide l3; have Z3 := hide (Zero3.upd Z1.out g3.upd (by decide)); clear g3 t3 l3; obtain ⟨z0, z1, z2, zf, zl⟩ := Z3.out.cells; have zf0 := zf 0; have zf1 := zf 1; have zf2 := zf 2; clear zf)
          refine bodyPost_ret (by simp [results, Tryd.results23, go_sem, z0, z1, z2]; try rfl) rfl ?_
          unfold PieceE
          rw [F.out]
          exact ⟨G3.out.box lr _ _ _, _, _, rfl, T3.out.box (Sh.of Z3.out) _ _ _, L3.out⟩
      have y4b : ((x : Int) == 123) = false := by rw [beq_eq_false_iff_ne]; omega
      have y4c : (x == 123) = false := by rw [beq_eq_false_iff_ne]; omega
      have y4m := hide (BN.out 123 y4)
      have F : Hid (E = (i, .error 31)) := by
        show _ = _; have := HE.out; rw [← this]
        simp only [pieceA]
        rw [if_neg y1m.out, if_neg y2m.out, if_neg y3m.out, if_neg y4m.out, if_pos (textE_stop HB.out)]
      have c1 := G1.out.rd.c1
      have f1 := G1.out.rd.f1
      clear y1 y2 y3 y4
      go_upto_region 17 with (fail)
      refine abs_wp (fun W => Hid (Ge w W rb s i 0) ∧ Hid (Zero3 W w.heap.size)) ⟨G1.out.put i le (by omega), hide (Z1.out.set_other (by show w.heap.size ≠ rb; omega) _)⟩ ?_
      rintro W2 ⟨G2, Z2⟩
      clear z0 z1 z2 zf0 zf1 zf2 zl c1 f1 G1 Z1
      obtain ⟨z0, z1, z2, zf, zl⟩ := Z2.out.cells
      have zf0 := zf 0
      have zf1 := zf 1
      have zf2 := zf 2
      clear zf
      go_wp2_with fail
      refine bodyPost_ret (by simp [results, Tryd.results23, go_sem, z0, z1, z2]; try rfl) rfl ?_
      unfold PieceE
      rw [F.out]
      exact .inr ⟨rfl, rfl, G2.out.box lr _ _ _, rfl⟩
    · have kb := rbyte_at s i true hb
      have HB := hide hb
      rw [e0] at kb
      have kt := fun n => rtext_spec (W0.out.drewN n).rd hs
      obtain ⟨T, hT⟩ : ∃ T, textE s (s.size + 1) i = T := ⟨_, rfl⟩
      rw [hT] at kt
      have F : Hid (E = (T, .ok ⟨1, s.extract i T, []⟩)) := by
        show _ = _; have := HE.out; rw [← this]
        have n1 : ∀ y : UInt8, nB y = false → nx s i ≠ y := fun y hy q => by rw [q, hy] at hb; cases hb
        have gt : T ≠ i := by
          have := textE_ge s (s.size + 1) (i + 1)
          rw [textE_step (by omega) hb, hT] at this
          omega
        simp only [pieceA]
        rw [if_neg (n1 42 (by decide)), if_neg (n1 63 (by decide)), if_neg (n1 91 (by decide)), if_neg (n1 123 (by decide)), hT, if_neg gt]
      clear e0 hb hT
      go_enter Tryd.func23, Tryd.ntmps23
      go_wp2_with fail
      go_quiet (fail)
      go_wp2_with fail
      go_quiet (fail)
      go_wp2_with (first | (go_at_call 31; refine (kb _).mono ?_; rintro e w1 ⟨rfl, rfl⟩) | (go_at_call 35; refine Calls.mono (kt _) ?_; rintro e w3 ⟨rfl, g3⟩; have G3 := hide ((W0.out.drewN _).trans g3); have Z3 := hide (Zero3.upd (Zero3.upd Z0.out (Upd.of_below (B := 0) (T := []) (below_drewN (Below.refl _ _) _)) (by simp)) g3.upd (by decide)); clear g3; obtain ⟨z0, z1, z2, zf, zl⟩ := Z3.out.cells; have zf0 := zf 0; have zf1 := zf 1; have zf2 := zf 2; clear zf))
      refine bodyPost_ret (by simp [results, Tryd.results23, go_sem, z0, z1, z2]; try rfl) rfl ?_
      unfold PieceE
      rw [F.out]
      exact ⟨G3.out.box lr _ _ _, _, _, rfl, .inl rfl, Nat.zero_le _⟩
  · have d1 : decide (s.size ≤ i) = true := by rw [decide_eq_true_eq]; omega
    have F : Hid (E = (i, .error 31)) := by
      show _ = _; have := HE.out; rw [← this]
      have z : nx s i = 0 := nx_ge (by omega)
      simp only [pieceA]
      rw [z, if_neg (by decide), if_neg (by decide), if_neg (by decide), if_neg (by decide), if_pos (textE_stop (by rw [z]; exact nB0))]
    obtain ⟨z0, z1, z2, zf, zl⟩ := Z0.out.cells
    have zf0 := zf 0
    have zf1 := zf 1
    have zf2 := zf 2
    clear zf
    go_enter Tryd.func23, Tryd.ntmps23
    go_wp2_with fail
    go_quiet (fail)
    go_wp2_with fail
    refine bodyPost_ret (by simp [results, Tryd.results23, go_sem, z0, z1, z2]; try rfl) rfl ?_
    unfold PieceE
    rw [F.out]
    exact .inr ⟨rfl, rfl, (W0.out.drewN _).box lr _ _ _, rfl⟩
end Go.Proofs.YtagahoelojfhcaaDoor
