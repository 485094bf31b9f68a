/- name: the reader's piece. -/
import Derived.Test.YtagahoelojfhcaaDoorNch
namespace Go.Proofs.YtagahoelojfhcaaDoor
set_option linter.unusedVariables false
set_option linter.unusedSimpArgs false
open Go.RowKit W
def PieceRes (w : World) (rb : Nat) (s : ByteArray) (E : Nat × Except Int Gl) (e : Ending) (w' : World) : Prop :=
  Go1 w w' rb s E.1 ∧ match E.2 with
  | .error c => e = .returned (.tuple #[.agg #[.int .i64 0, .string ⟨#[]⟩, .slice none 0 0], .int .i64 c])
  | .ok g => ∃ a c, e = .returned (.tuple #[.agg #[.int .i64 g.k, .string g.t, .slice a g.al.length c], .int .i64 0]) ∧ TyT w.heap.size w' a g.al ∧ g.al.length ≤ c
theorem Go1.box {a b : World} {rb i : Nat} {s : ByteArray} (h : Go1 a b rb s i) (l : rb < a.heap.size) (x y z : Value) : Go1 a (((b.setCell ⟨a.heap.size, 0, none⟩ x).setCell ⟨a.heap.size, 1, none⟩ y).setCell ⟨a.heap.size, 2, none⟩ z) rb s i :=
  ((h.set_new l (by simp) _).set_new l (by simp) _).set_new l (by simp) _
theorem TyT.box {B g : Nat} {w : World} {a : Option Addr} {ps : List ByteArray} (h : TyT B w a ps) (sz : Sh w g 34) (x y z : Value) : TyT B (((w.setCell ⟨g, 0, none⟩ x).setCell ⟨g, 1, none⟩ y).setCell ⟨g, 2, none⟩ z) a ps :=
  ((h.set sz (by decide) _ _).set (sz.set _ _ _) (by decide) _ _).set ((sz.set _ _ _).set _ _ _) (by decide) _ _
theorem ext_nil (s : ByteArray) (i : Nat) : s.extract i i = ⟨#[]⟩ := by
  apply lst_inj; simp [lst]
theorem ext_ne {s : ByteArray} {i j : Nat} (h : i < j) (hj : j ≤ s.size) : (s.extract i j).toList.isEmpty = false ∧ ¬ (s.extract i j).toList = [] := by
  have : 0 < (s.extract i j).data.toList.length := by
    have : (s.extract i j).size = j - i := by rw [ByteArray.size_extract, Nat.min_eq_left hj]
    have e : (s.extract i j).data.toList.length = (s.extract i j).size := Array.length_toList
    omega
  rw [ByteArray.toList_eq]
  cases q : (s.extract i j).data.toList with
  | nil => rw [q] at this; simp at this
  | cons a r => simp
set_option maxRecDepth 100000 in
set_option maxHeartbeats 8000000 in
theorem piece_spec {w : World} {rb i : Nat} {s : ByteArray} (h : Rd w rb s i) (hi : i < s.size) (hs : s.size ≤ 400) : Calls Tryd.prog 22 #[.pointer (some ⟨rb, 0, none⟩)] w (PieceRes w rb s (pieceA s i)) := by
  obtain ⟨E, hE⟩ : ∃ E, pieceA s i = E := ⟨_, rfl⟩
  rw [hE]
  have HE := hide hE
  have lr := h.lt
  have W0 := hide ((Go1.refl h).later ((Below.refl _ _).alloc (Nat.le_refl _) (.cells #[.int .i64 0, .string ⟨#[]⟩, .slice none 0 0] 34)))
  have Z0 : Hid (Zero3 (w.alloc (.cells #[.int .i64 0, .string ⟨#[]⟩, .slice none 0 0] 34)) w.heap.size) := heap_alloc_new _ _
  have kn := next_spec W0.out.rd hs
  obtain ⟨x, hx⟩ : ∃ x, ((nx s i).toNat : Int) = x := ⟨_, rfl⟩
  rw [hx] at kn
  have BK : Hid (∀ y : Nat, y < 256 → x = (y : Int) → nx s i = UInt8.ofNat y) := fun y hy e => UInt8.toNat_inj.1 (by rw [UInt8.toNat_ofNat']; omega)
  have BN : Hid (∀ y : UInt8, x ≠ (y.toNat : Int) → nx s i ≠ y) := fun y n q => n (by rw [← hx, q])
  clear hE hx h
  go_enter Tryd.func22, Tryd.ntmps22
  go_wp2_with fail
  refine kn.mono ?_
  rintro e w1 ⟨rfl, n1, rfl⟩
  by_cases y1 : x = 42
  · have F : Hid (E = (i + 1, .ok ⟨2, .empty, []⟩)) := by show _ = _; have m := BK.out 42 (by omega) y1; have := HE.out; rw [← this]; simp [pieceA, m]
    subst y1
    go_upto_region 3 with (fail)
    refine abs_wp (fun W => Hid (Go1 w W rb s i) ∧ Hid (Zero3 W w.heap.size)) ⟨W0.out.drewN n1, Z0.out⟩ ?_
    rintro W1 ⟨G1, Z1⟩
    obtain ⟨z0, z1, z2, zf, zl⟩ := Z1.out.cells
    have zf0 := zf 0
    have zf1 := zf 1
    have zf2 := zf 2
    have c1 := G1.out.rd.c1
    have f1 := G1.out.rd.f1
    clear zf W0 Z0 kn
    go_wp2_with fail
    refine bodyPost_ret (by simp [results, Tryd.results22, go_sem, z0, z1, z2]; try rfl) rfl ?_
    rw [F.out]
    exact ⟨(G1.out.put (i + 1) hi (by omega)).box lr _ _ _, _, _, rfl, .inl rfl, Nat.zero_le _⟩
  have y1b : (x == 42) = false := by rw [beq_eq_false_iff_ne]; exact y1
  have y1m := hide (BN.out 42 y1)
  clear y1
  by_cases y2 : x = 63
  · have F : Hid (E = (i + 1, .ok ⟨3, .empty, []⟩)) := by show _ = _; have m := BK.out 63 (by omega) y2; have := HE.out; rw [← this]; simp [pieceA, m]
    subst y2
    go_upto_region 6 with (fail)
    refine abs_wp (fun W => Hid (Go1 w W rb s i) ∧ Hid (Zero3 W w.heap.size)) ⟨W0.out.drewN n1, Z0.out⟩ ?_
    rintro W1 ⟨G1, Z1⟩
    obtain ⟨z0, z1, z2, zf, zl⟩ := Z1.out.cells
    have zf0 := zf 0
    have zf1 := zf 1
    have zf2 := zf 2
    have c1 := G1.out.rd.c1
    have f1 := G1.out.rd.f1
    clear zf W0 Z0 kn
    go_wp2_with fail
    refine bodyPost_ret (by simp [results, Tryd.results22, go_sem, z0, z1, z2]; try rfl) rfl ?_
    rw [F.out]
    exact ⟨(G1.out.put (i + 1) hi (by omega)).box lr _ _ _, _, _, rfl, .inl rfl, Nat.zero_le _⟩
  have y2b : (x == 63) = false := by rw [beq_eq_false_iff_ne]; exact y2
  have y2m := hide (BN.out 63 y2)
  clear y2
  by_cases y3 : x = 91
  · have m := hide (BK.out 91 (by omega) y3)
    subst y3
    go_upto_region 9 with (fail)
    refine abs_wp (fun W => Hid (Go1 w W rb s i) ∧ Hid (Zero3 W w.heap.size)) ⟨W0.out.drewN n1, Z0.out⟩ ?_
    rintro W1 ⟨G1, Z1⟩
    obtain ⟨z0, z1, z2, zf, zl⟩ := Z1.out.cells
    have zf0 := zf 0
    have zf1 := zf 1
    have zf2 := zf 2
    have c1 := G1.out.rd.c1
    have f1 := G1.out.rd.f1
    clear zf W0 Z0 kn
    go_wp2_with fail
    refine abs_calls (fun W => Hid (Go1 w W rb s (i + 1)) ∧ Hid (Zero3 W w.heap.size)) ⟨G1.out.put (i + 1) hi (by omega), Z1.out.set_other (by show w.heap.size ≠ rb; omega) _⟩ ?_
    rintro W2 ⟨G2, Z2⟩
    clear z0 z1 z2 zf0 zf1 zf2 zl c1 f1 G1 Z1
    refine Calls.mono (rclass_spec G2.out.rd hs) ?_
    rintro e w3 ⟨he, g3⟩
    have G3 := hide (G2.out.trans g3)
    have Z3 := hide (Z2.out.upd g3.upd (by decide))
    obtain ⟨z0, z1, z2, zf, zl⟩ := Z3.out.cells
    have zf0 := zf 0
    have zf1 := zf 1
    have zf2 := zf 2
    clear zf
    obtain ⟨⟨j, r⟩, hr⟩ : ∃ q, classA s (s.size + 1) (i + 1) [] = q := ⟨_, rfl⟩
    have G4 : Hid (Go1 w w3 rb s j) := by have := G3.out; rw [hr] at this; exact this
    rw [hr] at he
    clear g3 G3
    cases r with
    | none =>
      have F : Hid (E = (j, .error 31)) := by show _ = _; have := HE.out; rw [← this]; simp [pieceA, m.out, hr]
      simp only [classV] at he
      subst he
      clear hr
      go_wp2_with fail
      refine bodyPost_ret (by simp [results, Tryd.results22, go_sem, z0, z1, z2]; try rfl) rfl ?_
      rw [F.out]
      exact ⟨G4.out.box lr _ _ _, rfl⟩
    | some rs =>
      have F : Hid (E = (j, .ok ⟨4, ⟨(clsT rs).toArray⟩, []⟩)) := by show _ = _; have := HE.out; rw [← this]; simp [pieceA, m.out, hr]
      simp only [classV] at he
      subst he
      clear hr
      go_wp2_with fail
      refine bodyPost_ret (by simp [results, Tryd.results22, go_sem, z0, z1, z2]; try rfl) rfl ?_
      rw [F.out]
      exact ⟨G4.out.box lr _ _ _, _, _, rfl, .inl rfl, Nat.zero_le _⟩
  have y3b : (x == 91) = false := by rw [beq_eq_false_iff_ne]; exact y3
  have y3m := hide (BN.out 91 y3)
  clear y3
  by_cases y4 : x = 123
  · have m := hide (BK.out 123 (by omega) y4)
    subst y4
    go_upto_region 12 with (fail)
    refine abs_wp (fun W => Hid (Go1 w W rb s i) ∧ Hid (Zero3 W w.heap.size)) ⟨W0.out.drewN n1, Z0.out⟩ ?_
    rintro W1 ⟨G1, Z1⟩
    obtain ⟨z0, z1, z2, zf, zl⟩ := Z1.out.cells
    have zf0 := zf 0
    have zf1 := zf 1
    have zf2 := zf 2
    have c1 := G1.out.rd.c1
    have f1 := G1.out.rd.f1
    clear zf W0 Z0 kn
    go_wp2_with fail
    refine abs_calls (fun W => Hid (Go1 w W rb s (i + 1)) ∧ Hid (Zero3 W w.heap.size)) ⟨G1.out.put (i + 1) hi (by omega), Z1.out.set_other (by show w.heap.size ≠ rb; omega) _⟩ ?_
    rintro W2 ⟨G2, Z2⟩
    clear z0 z1 z2 zf0 zf1 zf2 zl c1 f1 G1 Z1
    refine Calls.mono (rchoice_spec G2.out.rd hs) ?_
    rintro e w3 ⟨g3, he⟩
    have G3 := hide (G2.out.trans g3)
    have Z3 := hide (Z2.out.upd g3.upd (by decide))
    obtain ⟨z0, z1, z2, zf, zl⟩ := Z3.out.cells
    have zf0 := zf 0
    have zf1 := zf 1
    have zf2 := zf 2
    clear zf
    obtain ⟨⟨j, r⟩, hr⟩ : ∃ q, choiceA s (s.size + 1) (i + 1) [] = q := ⟨_, rfl⟩
    have G4 : Hid (Go1 w w3 rb s j) := by have := G3.out; rw [hr] at this; exact this
    rw [hr] at he
    clear g3 G3
    cases r with
    | error c =>
      have F : Hid (E = (j, .error c)) := by show _ = _; have := HE.out; rw [← this]; simp [pieceA, m.out, hr]
      simp only at he
      subst he
      clear hr
      go_wp2_with fail
      refine bodyPost_ret (by simp [results, Tryd.results22, go_sem, z0, z1, z2]; try rfl) rfl ?_
      rw [F.out]
      exact ⟨G4.out.box lr _ _ _, rfl⟩
    | ok l =>
      have F : Hid (E = (j, .ok ⟨5, .empty, l⟩)) := by show _ = _; have := HE.out; rw [← this]; simp [pieceA, m.out, hr]
      simp only at he
      obtain ⟨a, c, he, ty, lc⟩ := he
      subst he
      have TY := hide (ty.less (C := w.heap.size) G2.out.upd.size)
      clear hr ty
      go_wp2_with fail
      refine bodyPost_ret (by simp [results, Tryd.results22, go_sem, z0, z1, z2]; try rfl) rfl ?_
      rw [F.out]
      exact ⟨G4.out.box lr _ _ _, _, _, rfl, TY.out.box (Sh.of Z3.out) _ _ _, lc⟩
  have y4b : (x == 123) = false := by rw [beq_eq_false_iff_ne]; exact y4
  have y4m := hide (BN.out 123 y4)
  clear y4 BK BN
  have kt := text_spec (W0.out.drewN n1).rd hs
  have tge := textE_ge s (s.size + 1) i
  have tle := textE_le s (s.size + 1) i (by omega)
  obtain ⟨T, hT⟩ : ∃ T, textE s (s.size + 1) i = T := ⟨_, rfl⟩
  rw [hT] at kt tge tle
  have HT := hide hT
  clear hT kn
  go_wp2_with fail
  refine Calls.mono kt ?_
  rintro e w3 ⟨he, g3⟩
  have G3 := hide ((W0.out.drewN n1).trans g3)
  have Z3 := hide (Zero3.upd (show Zero3 ((w.alloc (.cells #[.int .i64 0, .string ⟨#[]⟩, .slice none 0 0] 34)).drewN n1) w.heap.size from Z0.out) g3.upd (by decide))
  obtain ⟨z0, z1, z2, zf, zl⟩ := Z3.out.cells
  have zf0 := zf 0
  have zf1 := zf 1
  have zf2 := zf 2
  clear zf kt g3 W0 Z0
  by_cases q : T = i
  · subst q
    have F : Hid (E = (T, .error 31)) := by show _ = _; have := HE.out; rw [← this]; simp [pieceA, y1m.out, y2m.out, y3m.out, y4m.out, HT.out]
    rw [ext_nil] at he
    subst he
    go_wp2_with fail
    refine bodyPost_ret (by simp [results, Tryd.results22, go_sem, z0, z1, z2]; try rfl) rfl ?_
    rw [F.out]
    exact ⟨G3.out.box lr _ _ _, rfl⟩
  · have F : Hid (E = (T, .ok ⟨1, s.extract i T, []⟩)) := by show _ = _; have := HE.out; rw [← this]; simp [pieceA, y1m.out, y2m.out, y3m.out, y4m.out, HT.out, q]
    obtain ⟨e1, e2⟩ := ext_ne (s := s) (show i < T by omega) tle
    subst he
    clear q
    go_wp2_with fail
    refine bodyPost_ret (by simp [results, Tryd.results22, go_sem, z0, z1, z2]; try rfl) rfl ?_
    rw [F.out]
    exact ⟨G3.out.box lr _ _ _, _, _, rfl, .inl rfl, Nat.zero_le _⟩
end Go.Proofs.YtagahoelojfhcaaDoor
