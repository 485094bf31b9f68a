/- Texts that belong together: Nmt Npi Nno Nco Nal Strq Nrc Nrr Rvalidb Nst Nrt Nru Shp Lawnn Lawnm. -/
import Derived.Test.YteahbdhhcfoiiaaDoorG04
import Derived.Test.YteahbdhhcfoiiaaDoorG01
import Derived.Test.YteahbdhhcfoiiaaDoorG03
import Derived.Deep.RegionHeld3
import Derived.Test.YteahbdhhcfoiiaaDoorShelf
import Derived.Handed
import Derived.HandedShaped
import Derived.LaidMore
set_option linter.unusedSimpArgs false
set_option linter.unusedVariables false
/- name: Match. -/
namespace Go.Proofs.YteahbdhhcfoiiaaDoor
set_option linter.unusedVariables false
set_option linter.unusedSimpArgs false
open Go.RowKit W
/-- P3.5. -/
def matB (p : List (List Gl)) (s : ByteArray) : Bool :=
  decide ((nodesL s).length = p.length) && (mayB p && (List.range p.length).all fun i => mNode (p.getD i []) ((nodesL s).getD i ⟨#[]⟩))
theorem nodes_size {s : ByteArray} : ∀ x ∈ nodesL s, x.size ≤ 200 := by
  intro x hx
  cases h : validN (lst s) with
  | true => have := size_piece (nodesL_yes h) x hx; have := valid_size h; omega
  | false => rw [nodesL_no h] at hx; cases hx
theorem nodes_len (s : ByteArray) : (nodesL s).length ≤ 201 := by
  cases h : validN (lst s) with
  | true => have := congrArg List.length (nodesL_yes h); rw [List.length_map] at this; have := cutL_len 46 (lst s) []; rw [lst_len] at this; have := valid_size h; omega
  | false => rw [nodesL_no h]; simp
set_option maxRecDepth 100000 in
set_option maxHeartbeats 8000000 in
theorem match_spec (p : List (List Gl)) (pw : PtW p) (s : ByteArray) (mx : Int) (a : Option Addr) (c : Nat) (w : World) (ha : IsPt w a p) (gm : GM mx w) :
    Calls Tryd.prog 30 #[.agg #[.slice a p.length c], .string s] w fun e w' => e = .returned (.bool (matB p s)) ∧ Below w.heap.size w w' := by
  obtain ⟨E, hE⟩ : ∃ E, matB p s = E := ⟨_, rfl⟩
  rw [hE]
  have HE := hide hE
  have HA := hide ha
  have PW := hide pw
  have pn := pw.n
  have NS := hide (nodes_size (s := s))
  have nl := nodes_len s
  obtain ⟨ns, hns⟩ : ∃ ns, ns = nodesL s := ⟨_, rfl⟩
  rw [← hns] at NS nl
  have HNS := hide hns
  obtain ⟨n, hn⟩ : ∃ n, n = p.length := ⟨_, rfl⟩
  have HN := hide hn
  rw [← hn] at pn ⊢
  have km := may_spec p pw a c
  rw [← hn] at km
  have k0 := nodes_spec s mx (w.alloc (.cells #[.slice a n c] 33)) (gm.later ((Below.refl _ _).alloc (Nat.le_refl _) _))
  unfold NodesRes at k0
  rw [← hns] at k0
  obtain ⟨z, hz⟩ : ∃ z, z = ns.length := ⟨_, rfl⟩
  have HZ := hide hz
  rw [← hz] at k0 nl
  clear hE ha pw hns hn gm hz
  go_enter Tryd.func30, Tryd.ntmps30
  go_wp2_with fail
  refine Calls.mono k0 ?_
  rintro e w1 ⟨b1, a1, c1, rfl, ty, lc⟩
  have TY := hide ty.is
  have B1 : Hid (Below w.heap.size w w1) := ((Below.refl _ _).alloc (Nat.le_refl _) _).trans (b1.mono (by simp))
  have q0 : w1.cell? ⟨w.heap.size, 0, none⟩ = some (.slice a n c) := (b1.cell (p := ⟨w.heap.size, 0, none⟩) (by simp)).trans (by simp [go_sem])
  have ql : w.heap.size < w1.heap.size := Nat.lt_of_lt_of_le (by simp) b1.size
  clear b1 ty lc k0
  by_cases y1 : z = n
  · subst y1
    have kmay := km w1 (HA.out.later B1.out)
    obtain ⟨t, ht⟩ : ∃ t, mayB p = t := ⟨_, rfl⟩
    rw [ht] at kmay
    have HT := hide ht
    clear ht km
    have H1 : Hid (E = (t && (List.range p.length).all fun i => mNode (p.getD i []) (ns.getD i ⟨#[]⟩))) := by
      show _ = _
      have := HE.out; rw [← this]; unfold matB
      rw [← HNS.out, HT.out, ← HN.out, ← HZ.out]; simp
    cases t
    · have F : Hid (E = false) := by show _ = _; rw [H1.out]; rfl
      go_wp2_with (go_at_call 45; refine Calls.mono kmay ?_; rintro e w2 ⟨rfl, b2⟩; have B2 := hide b2; clear b2)
      go_returns
      exact ⟨by rw [F.out]; rfl, B1.out.trans (B2.out.mono (by omega))⟩
    · go_wp2_with (go_at_call 45; refine Calls.mono kmay ?_; rintro e w2 ⟨rfl, b2⟩; have B2 : Hid (Below w.heap.size w w2) := B1.out.trans (b2.mono (by omega)); have q2 : w2.cell? ⟨w.heap.size, 0, none⟩ = some (.slice a z c) := (b2.cell (p := ⟨w.heap.size, 0, none⟩) ql).trans q0; have ql2 : w.heap.size < w2.heap.size := Nat.lt_of_lt_of_le ql b2.size; have TY2 := hide (TY.out.later b2); clear b2 q0)
      go_loopw [23] (fun i wr => ∃ k : Nat, k ≤ z ∧ i = .int .i64 (k : Int) ∧ Hid (Below w2.heap.size w2 wr) ∧ Hid (∀ j, j < k → mNode (p.getD j []) (ns.getD j ⟨#[]⟩) = true)) (fun i _ => z - (intOf i).toNat)
      case atStart => exact ⟨0, by omega, rfl, hide (Below.refl _ _), hide (fun j h => absurd h (Nat.not_lt_zero _))⟩
      case round =>
        obtain ⟨k, hk, rfl, B, D⟩ := hrel
        by_cases hlt : k < z
        · have kp : k < p.length := by have := HN.out; omega
          have kn : k < ns.length := by have := HZ.out; omega
          have BW := hide (B2.out.trans (B.out.mono B2.out.size))
          obtain ⟨g, o, rfl, LN⟩ := HA.out.resolve_left (by intro e; rw [e] at kp; simp at kp)
          obtain ⟨g2, o2, rfl, LT⟩ := TY2.out.resolve_left (by intro e; rw [e] at kn; simp at kn)
          have d0 := (LT.later B.out).cell k kn
          have d1 := (B.out.cell (p := ⟨w.heap.size, 0, none⟩) ql2).trans q2
          obtain ⟨b, cc, e0, e1, _⟩ := (LN.later BW.out).cell k kp
          have lg := (LN.later BW.out).lt
          have lg2 := (LT.later B.out).lt
          have kx := mnode_spec p[k] (PW.out.m _ (List.getElem_mem _)) (PW.out.g _ (List.getElem_mem _)) ns[k] (NS.out _ (List.getElem_mem _)) b cc wr e1
          have ea : p.getD k [] = p[k] := by simp [List.getD_eq_getElem?_getD, kp]
          have eb : ns.getD k ⟨#[]⟩ = ns[k] := by simp [List.getD_eq_getElem?_getD, kn]
          rw [← ea, ← eb] at kx
          rw [← eb] at d0
          rw [← ea] at e0
          obtain ⟨x, hx⟩ : ∃ x, x = ns.getD k ⟨#[]⟩ := ⟨_, rfl⟩
          obtain ⟨y, hy⟩ : ∃ y, y = p.getD k [] := ⟨_, rfl⟩
          rw [← hx] at d0 kx
          rw [← hy] at e0 kx
          obtain ⟨t, ht⟩ : ∃ t, mNode y x = t := ⟨_, rfl⟩
          rw [ht] at kx
          have HT2 : Hid (mNode (p.getD k []) (ns.getD k ⟨#[]⟩) = t) := by show _ = _; rw [← hx, ← hy]; exact ht
          have zl := B.out.size
          have zl2 := B2.out.size
          clear ht hx hy ea eb e1 LN LT
          cases t
          · have F : Hid (E = false) := by
              show _ = _; rw [H1.out, Bool.true_and]; exact all_no (k := k) kp HT2.out
            go_wp2_with (go_at_call 49; refine Calls.mono kx ?_; rintro e w3 ⟨rfl, b3⟩; have B3 := hide b3; clear b3)
            go_returns
            exact ⟨by rw [F.out]; rfl, BW.out.trans (B3.out.mono (by omega))⟩
          · have D2 : Hid (∀ j, j < k + 1 → mNode (p.getD j []) (ns.getD j ⟨#[]⟩) = true) := by
              intro j hj
              by_cases q : j < k
              · exact D.out j q
              · obtain rfl : j = k := by omega
                exact HT2.out
            go_wp2_with (go_at_call 49; refine Calls.mono kx ?_; rintro e w3 ⟨rfl, b3⟩; have B3 := hide b3; clear b3)
            go_roundw
            case rel => exact ⟨k + 1, by omega, by go_num, hide (B.out.trans (B3.out.mono zl)), D2⟩
            case measure => simp [intOf]; omega
        · obtain rfl : k = z := by omega
          have F : Hid (E = true) := by
            show _ = _; rw [H1.out, Bool.true_and]; exact all_yes (fun i hi => D.out i (by have := HN.out; omega))
          have BW := hide (B2.out.trans (B.out.mono B2.out.size))
          go_wp2_with fail
          go_returns
          exact ⟨by rw [F.out]; rfl, BW.out⟩
  · have F : Hid (E = false) := by
      show _ = _
      have := HE.out; rw [← this]; unfold matB
      rw [← HNS.out, decide_eq_false (by rw [← HZ.out, ← HN.out]; exact y1)]; rfl
    have y2 : ((z : Int) == (n : Int)) = false := by rw [beq_eq_false_iff_ne]; omega
    have y3 : (z == n) = false := by rw [beq_eq_false_iff_ne]; omega
    clear km
    go_wp2_with fail
    go_returns
    exact ⟨by rw [F.out]; rfl, B1.out⟩
end Go.Proofs.YteahbdhhcfoiiaaDoor
/- name: the reader's piece. -/
namespace Go.Proofs.YteahbdhhcfoiiaaDoor
set_option linter.unusedVariables false
set_option linter.unusedSimpArgs false
open Go.RowKit W
def PieceRes (w : World) (rb : Nat) (s : ByteArray) (E : Nat × Except Int Gl) (e : Ending) (w' : World) : Prop :=
  Go1 w w' rb s E.1 ∧ match E.2 with
  | .error c => e = .returned (.tuple #[.agg #[.int .i64 0, .string ⟨#[]⟩, .slice none 0 0], .int .i64 c])
  | .ok g => ∃ a c, e = .returned (.tuple #[.agg #[.int .i64 g.k, .string g.t, .slice a g.al.length c], .int .i64 0]) ∧ TyT w.heap.size w' a g.al ∧ g.al.length ≤ c
theorem Go1.box {a b : World} {rb i : Nat} {s : ByteArray} (h : Go1 a b rb s i) (l : rb < a.heap.size) (x y z : Value) : Go1 a (((b.setCell ⟨a.heap.size, 0, none⟩ x).setCell ⟨a.heap.size, 1, none⟩ y).setCell ⟨a.heap.size, 2, none⟩ z) rb s i :=
  ((h.set_new l (by simp) _).set_new l (by simp) _).set_new l (by simp) _
theorem TyT.box {B g : Nat} {w : World} {a : Option Addr} {ps : List ByteArray} (h : TyT B w a ps) (sz : Sh w g 66) (x y z : Value) : TyT B (((w.setCell ⟨g, 0, none⟩ x).setCell ⟨g, 1, none⟩ y).setCell ⟨g, 2, none⟩ z) a ps :=
  ((h.set sz (by decide) _ _).set (sz.set _ _ _) (by decide) _ _).set ((sz.set _ _ _).set _ _ _) (by decide) _ _
theorem ext_nil (s : ByteArray) (i : Nat) : s.extract i i = ⟨#[]⟩ := by
  apply lst_inj; simp [lst]
theorem ext_ne {s : ByteArray} {i j : Nat} (h : i < j) (hj : j ≤ s.size) : (s.extract i j).toList.isEmpty = false ∧ ¬ (s.extract i j).toList = [] := by
  have : 0 < (s.extract i j).data.toList.length := by
    have : (s.extract i j).size = j - i := by rw [ByteArray.size_extract, Nat.min_eq_left hj]
    have e : (s.extract i j).data.toList.length = (s.extract i j).size := Array.length_toList
    omega
  rw [ByteArray.toList_eq]
  cases q : (s.extract i j).data.toList with
  | nil => rw [q] at this; simp at this
  | cons a r => simp
set_option maxRecDepth 100000 in
set_option maxHeartbeats 8000000 in
theorem piece_spec {w : World} {rb i : Nat} {s : ByteArray} (h : Rd w rb s i) (hi : i < s.size) (hs : s.size ≤ 400) : Calls Tryd.prog 61 #[.pointer (some ⟨rb, 0, none⟩)] w (PieceRes w rb s (pieceA s i)) := by
  obtain ⟨E, hE⟩ : ∃ E, pieceA s i = E := ⟨_, rfl⟩
  rw [hE]
  have HE := hide hE
  have lr := h.lt
  have W0 := hide ((Go1.refl h).later ((Below.refl _ _).alloc (Nat.le_refl _) (.cells #[.int .i64 0, .string ⟨#[]⟩, .slice none 0 0] 66)))
  have Z0 : Hid (Zero3 (w.alloc (.cells #[.int .i64 0, .string ⟨#[]⟩, .slice none 0 0] 66)) w.heap.size) := heap_alloc_new _ _
  have kn := next_spec W0.out.rd hs
  obtain ⟨x, hx⟩ : ∃ x, ((nx s i).toNat : Int) = x := ⟨_, rfl⟩
  rw [hx] at kn
  have BK : Hid (∀ y : Nat, y < 256 → x = (y : Int) → nx s i = UInt8.ofNat y) := fun y hy e => UInt8.toNat_inj.1 (by rw [UInt8.toNat_ofNat']; omega)
  have BN : Hid (∀ y : UInt8, x ≠ (y.toNat : Int) → nx s i ≠ y) := fun y n q => n (by rw [← hx, q])
  clear hE hx h
  go_enter Tryd.func61, Tryd.ntmps61
  go_wp2_with fail
  refine kn.mono ?_
  rintro e w1 ⟨rfl, n1, rfl⟩
  by_cases y1 : x = 42
  · have F : Hid (E = (i + 1, .ok ⟨2, .empty, []⟩)) := by show _ = _; have m := BK.out 42 (by omega) y1; have := HE.out; rw [← this]; simp [pieceA, m]
    subst y1
    go_upto_region 3 with (fail)
    refine abs_wp (fun W => Hid (Go1 w W rb s i) ∧ Hid (Zero3 W w.heap.size)) ⟨W0.out.drewN n1, Z0.out⟩ ?_
    rintro W1 ⟨G1, Z1⟩
    obtain ⟨z0, z1, z2, zf, zl⟩ := Z1.out.cells
    have zf0 := zf 0
    have zf1 := zf 1
    have zf2 := zf 2
    have c1 := G1.out.rd.c1
    have f1 := G1.out.rd.f1
    clear zf W0 Z0 kn
    go_wp2_with fail
    refine bodyPost_ret (by simp [results, Tryd.results61, go_sem, z0, z1, z2]; try rfl) rfl ?_
    rw [F.out]
    exact ⟨(G1.out.put (i + 1) hi (by omega)).box lr _ _ _, _, _, rfl, .inl rfl, Nat.zero_le _⟩
  have y1b : (x == 42) = false := by rw [beq_eq_false_iff_ne]; exact y1
  have y1m := hide (BN.out 42 y1)
  clear y1
  by_cases y2 : x = 63
  · have F : Hid (E = (i + 1, .ok ⟨3, .empty, []⟩)) := by show _ = _; have m := BK.out 63 (by omega) y2; have := HE.out; rw [← this]; simp [pieceA, m]
    subst y2
    go_upto_region 6 with (fail)
    refine abs_wp (fun W => Hid (Go1 w W rb s i) ∧ Hid (Zero3 W w.heap.size)) ⟨W0.out.drewN n1, Z0.out⟩ ?_
    rintro W1 ⟨G1, Z1⟩
    obtain ⟨z0, z1, z2, zf, zl⟩ := Z1.out.cells
    have zf0 := zf 0
    have zf1 := zf 1
    have zf2 := zf 2
    have c1 := G1.out.rd.c1
    have f1 := G1.out.rd.f1
    clear zf W0 Z0 kn
    go_wp2_with fail
    refine bodyPost_ret (by simp [results, Tryd.results61, go_sem, z0, z1, z2]; try rfl) rfl ?_
    rw [F.out]
    exact ⟨(G1.out.put (i + 1) hi (by omega)).box lr _ _ _, _, _, rfl, .inl rfl, Nat.zero_le _⟩
  have y2b : (x == 63) = false := by rw [beq_eq_false_iff_ne]; exact y2
  have y2m := hide (BN.out 63 y2)
  clear y2
  by_cases y3 : x = 91
  · have m := hide (BK.out 91 (by omega) y3)
    subst y3
    go_upto_region 9 with (fail)
    refine abs_wp (fun W => Hid (Go1 w W rb s i) ∧ Hid (Zero3 W w.heap.size)) ⟨W0.out.drewN n1, Z0.out⟩ ?_
    rintro W1 ⟨G1, Z1⟩
    obtain ⟨z0, z1, z2, zf, zl⟩ := Z1.out.cells
    have zf0 := zf 0
    have zf1 := zf 1
    have zf2 := zf 2
    have c1 := G1.out.rd.c1
    have f1 := G1.out.rd.f1
    clear zf W0 Z0 kn
    go_wp2_with fail
    refine abs_calls (fun W => Hid (Go1 w W rb s (i + 1)) ∧ Hid (Zero3 W w.heap.size)) ⟨G1.out.put (i + 1) hi (by omega), Z1.out.set_other (by show w.heap.size ≠ rb; omega) _⟩ ?_
    rintro W2 ⟨G2, Z2⟩
    clear z0 z1 z2 zf0 zf1 zf2 zl c1 f1 G1 Z1
    refine Calls.mono (rclass_spec G2.out.rd hs) ?_
    rintro e w3 ⟨he, g3⟩
    have G3 := hide (G2.out.trans g3)
    have Z3 := hide (Z2.out.upd g3.upd (by decide))
    obtain ⟨z0, z1, z2, zf, zl⟩ := Z3.out.cells
    have zf0 := zf 0
    have zf1 := zf 1
    have zf2 := zf 2
    clear zf
    obtain ⟨⟨j, r⟩, hr⟩ : ∃ q, classA s (s.size + 1) (i + 1) [] = q := ⟨_, rfl⟩
    have G4 : Hid (Go1 w w3 rb s j) := by have := G3.out; rw [hr] at this; exact this
    rw [hr] at he
    clear g3 G3
    cases r with
    | none =>
      have F : Hid (E = (j, .error 31)) := by show _ = _; have := HE.out; rw [← this]; simp [pieceA, m.out, hr]
      simp only [classV] at he
      subst he
      clear hr
      go_wp2_with fail
      refine bodyPost_ret (by simp [results, Tryd.results61, go_sem, z0, z1, z2]; try rfl) rfl ?_
      rw [F.out]
      exact ⟨G4.out.box lr _ _ _, rfl⟩
    | some rs =>
      have F : Hid (E = (j, .ok ⟨4, ⟨(clsT rs).toArray⟩, []⟩)) := by show _ = _; have := HE.out; rw [← this]; simp [pieceA, m.out, hr]
      simp only [classV] at he
      subst he
      clear hr
      go_wp2_with fail
      refine bodyPost_ret (by simp [results, Tryd.results61, go_sem, z0, z1, z2]; try rfl) rfl ?_
      rw [F.out]
      exact ⟨G4.out.box lr _ _ _, _, _, rfl, .inl rfl, Nat.zero_le _⟩
  have y3b : (x == 91) = false := by rw [beq_eq_false_iff_ne]; exact y3
  have y3m := hide (BN.out 91 y3)
  clear y3
  by_cases y4 : x = 123
  · have m := hide (BK.out 123 (by omega) y4)
    subst y4
    go_upto_region 12 with (fail)
    refine abs_wp (fun W => Hid (Go1 w W rb s i) ∧ Hid (Zero3 W w.heap.size)) ⟨W0.out.drewN n1, Z0.out⟩ ?_
    rintro W1 ⟨G1, Z1⟩
    obtain ⟨z0, z1, z2, zf, zl⟩ := Z1.out.cells
    have zf0 := zf 0
    have zf1 := zf 1
    have zf2 := zf 2
    have c1 := G1.out.rd.c1
    have f1 := G1.out.rd.f1
    clear zf W0 Z0 kn
    go_wp2_with fail
    refine abs_calls (fun W => Hid (Go1 w W rb s (i + 1)) ∧ Hid (Zero3 W w.heap.size)) ⟨G1.out.put (i + 1) hi (by omega), Z1.out.set_other (by show w.heap.size ≠ rb; omega) _⟩ ?_
    rintro W2 ⟨G2, Z2⟩
    clear z0 z1 z2 zf0 zf1 zf2 zl c1 f1 G1 Z1
    refine Calls.mono (rchoice_spec G2.out.rd hs) ?_
    rintro e w3 ⟨g3, he⟩
    have G3 := hide (G2.out.trans g3)
    have Z3 := hide (Z2.out.upd g3.upd (by decide))
    obtain ⟨z0, z1, z2, zf, zl⟩ := Z3.out.cells
    have zf0 := zf 0
    have zf1 := zf 1
    have zf2 := zf 2
    clear zf
    obtain ⟨⟨j, r⟩, hr⟩ : ∃ q, choiceA s (s.size + 1) (i + 1) [] = q := ⟨_, rfl⟩
    have G4 : Hid (Go1 w w3 rb s j) := by have := G3.out; rw [hr] at this; exact this
    rw [hr] at he
    clear g3 G3
    cases r with
    | error c =>
      have F : Hid (E = (j, .error c)) := by show _ = _; have := HE.out; rw [← this]; simp [pieceA, m.out, hr]
      simp only at he
      subst he
      clear hr
      go_wp2_with fail
      refine bodyPost_ret (by simp [results, Tryd.results61, go_sem, z0, z1, z2]; try rfl) rfl ?_
      rw [F.out]
      exact ⟨G4.out.box lr _ _ _, rfl⟩
    | ok l =>
      have F : Hid (E = (j, .ok ⟨5, .empty, l⟩)) := by show _ = _; have := HE.out; rw [← this]; simp [pieceA, m.out, hr]
      simp only at he
      obtain ⟨a, c, he, ty, lc⟩ := he
      subst he
      have TY := hide (ty.less (C := w.heap.size) G2.out.upd.size)
      clear hr ty
      go_wp2_with fail
      refine bodyPost_ret (by simp [results, Tryd.results61, go_sem, z0, z1, z2]; try rfl) rfl ?_
      rw [F.out]
      exact ⟨G4.out.box lr _ _ _, _, _, rfl, TY.out.box (Sh.of Z3.out) _ _ _, lc⟩
  have y4b : (x == 123) = false := by rw [beq_eq_false_iff_ne]; exact y4
  have y4m := hide (BN.out 123 y4)
  clear y4 BK BN
  have kt := text_spec (W0.out.drewN n1).rd hs
  have tge := textE_ge s (s.size + 1) i
  have tle := textE_le s (s.size + 1) i (by omega)
  obtain ⟨T, hT⟩ : ∃ T, textE s (s.size + 1) i = T := ⟨_, rfl⟩
  rw [hT] at kt tge tle
  have HT := hide hT
  clear hT kn
  go_wp2_with fail
  refine Calls.mono kt ?_
  rintro e w3 ⟨he, g3⟩
  have G3 := hide ((W0.out.drewN n1).trans g3)
  have Z3 := hide (Zero3.upd (show Zero3 ((w.alloc (.cells #[.int .i64 0, .string ⟨#[]⟩, .slice none 0 0] 66)).drewN n1) w.heap.size from Z0.out) g3.upd (by decide))
  obtain ⟨z0, z1, z2, zf, zl⟩ := Z3.out.cells
  have zf0 := zf 0
  have zf1 := zf 1
  have zf2 := zf 2
  clear zf kt g3 W0 Z0
  by_cases q : T = i
  · subst q
    have F : Hid (E = (T, .error 31)) := by show _ = _; have := HE.out; rw [← this]; simp [pieceA, y1m.out, y2m.out, y3m.out, y4m.out, HT.out]
    rw [ext_nil] at he
    subst he
    go_wp2_with fail
    refine bodyPost_ret (by simp [results, Tryd.results61, go_sem, z0, z1, z2]; try rfl) rfl ?_
    rw [F.out]
    exact ⟨G3.out.box lr _ _ _, rfl⟩
  · have F : Hid (E = (T, .ok ⟨1, s.extract i T, []⟩)) := by show _ = _; have := HE.out; rw [← this]; simp [pieceA, y1m.out, y2m.out, y3m.out, y4m.out, HT.out, q]
    obtain ⟨e1, e2⟩ := ext_ne (s := s) (show i < T by omega) tle
    subst he
    clear q
    go_wp2_with fail
    refine bodyPost_ret (by simp [results, Tryd.results61, go_sem, z0, z1, z2]; try rfl) rfl ?_
    rw [F.out]
    exact ⟨G3.out.box lr _ _ _, _, _, rfl, .inl rfl, Nat.zero_le _⟩
end Go.Proofs.YteahbdhhcfoiiaaDoor
/- name: the reader's node. -/
namespace Go.Proofs.YteahbdhhcfoiiaaDoor
set_option linter.unusedVariables false
set_option linter.unusedSimpArgs false
open Go.RowKit W
def NodeRes (w : World) (rb : Nat) (s : ByteArray) (E : Nat × Except Int (List Gl)) (e : Ending) (w' : World) : Prop :=
  Go1 w w' rb s E.1 ∧ match E.2 with
  | .error c => e = .returned (.tuple #[.slice none 0 0, .int .i64 c])
  | .ok l => ∃ a c, e = .returned (.tuple #[.slice a l.length c, .int .i64 0]) ∧ TyG w.heap.size w' a l ∧ l.length ≤ c
theorem cells_new (W : World) (l : List Value) (t : TypeId) (n : Nat) (hn : W.heap.size = n) : ∀ j u, l[j]? = some u → (W.alloc (.cells l.toArray t)).cell? (Addr.add ⟨n, 0, none⟩ j) = some u := by
  intro j u h
  subst hn
  rw [Go.WideShapes.add_plain, Nat.zero_add, cell_of_row _ W.heap.size j l.toArray t (0, 0) (heap_alloc_new _ _)]
  simpa using h
theorem info_glob : (Tryd.prog.info? 66).map (fun i => (i.zero, i.size, i.bytes)) = some (some (.agg #[.int .i64 0, .string ByteArray.empty, .slice none 0 0]), 3, 48) := by kernel_rfl
theorem glob_one (k : Int) (t : ByteArray) (a : Option Addr) (n c : Nat) : ∀ u ∈ [Value.int .i64 k, .string t, .slice a n c], u.oneCell' = true := by
  intro u hu
  simp only [List.mem_cons, List.not_mem_nil, or_false] at hu
  rcases hu with rfl | rfl | rfl <;> rfl
/-- What is known when a piece has been read. -/
structure Pd (w W : World) (rb j b : Nat) (s : ByteArray) (v : Value) (acc : List Gl) (g : Gl) (a : Option Addr) (c : Nat) : Prop where
  go : Go1 w W rb s j
  c0 : W.cell? ⟨b, 0, none⟩ = some (.int .i64 g.k)
  c1 : W.cell? ⟨b, 1, none⟩ = some (.string g.t)
  c2 : W.cell? ⟨b, 2, none⟩ = some (.slice a g.al.length c)
  own : OwnG w.heap.size W v acc
  ty : TyT w.heap.size W a g.al
  le : g.al.length ≤ c
set_option maxRecDepth 100000 in
set_option maxHeartbeats 8000000 in
theorem node_spec {w : World} {rb i : Nat} {s : ByteArray} (h : Rd w rb s i) (hs : s.size ≤ 400) : Calls Tryd.prog 43 #[.pointer (some ⟨rb, 0, none⟩)] w (NodeRes w rb s (nodeA s (s.size + 1) i [])) := by
  obtain ⟨E, hE⟩ : ∃ E, nodeA s (s.size + 1) i [] = E := ⟨_, rfl⟩
  rw [hE]
  have HE := hide hE
  have lr := h.lt
  have le := h.le
  have H := hide h
  clear hE h
  go_enter Tryd.func43, Tryd.ntmps43
  go_wp2_with fail
  go_loopg [4] (s.size - i) (fun k v wr => ∃ (j f : Nat) (acc : List Gl), j + k = s.size ∧ s.size < f + j ∧ acc.length ≤ j ∧ Hid (Go1 w wr rb s j) ∧ Hid (OwnG w.heap.size wr v acc) ∧ Hid (nodeA s f j acc = E))
  case atStart => exact ⟨i, s.size + 1, [], by omega, by omega, by simp, hide (Go1.refl H.out), hide (OwnG.none_ _ _), HE⟩
  case round =>
    obtain ⟨j, f, acc, hj, hf, ha, G, O, D⟩ := hrel
    obtain ⟨A, C, rfl, _, _⟩ : ∃ A C, u4 = .slice A acc.length C ∧ acc.length ≤ C ∧ (A = none → acc.length = 0 ∧ C = 0) := by obtain ⟨xs, h1, _⟩ := O.out.own; exact own_form h1
    have jle := G.out.rd.le
    have c0 := G.out.rd.c0
    have c1 := G.out.rd.c1
    obtain ⟨x, hx⟩ : ∃ x, ((nx s j).toNat : Int) = x := ⟨_, rfl⟩
    have kn := fun n => next_at (G.out.drewN n).rd hs x hx
    have HX := hide hx
    clear hx HE H
    by_cases hlt : j < s.size
    · have hlt' : decide ((j : Int) < (s.size : Int)) = true := by simpa using hlt
      by_cases y : x = 46
      · have m : nx s j = 46 := UInt8.toNat_inj.1 (show (nx s j).toNat = 46 by have := HX.out; omega)
        have F : Hid (E = if acc = [] then (j, .error 31) else (j, .ok acc)) := by have := D.out; rw [node_stop hf jle (fun _ => m)] at this; exact this.symm
        subst y
        clear D m
        go_wp2_with fail
        go_quiet ((go_at_call 60; exact Calls.quiet_of (kn _)))
        have ND := hide O.out.done
        by_cases z : acc = []
        · have z1 : (((acc.length : Nat) : Int) == 0) = true := by rw [z]; rfl
          have z2 : acc.length = 0 := by rw [z]; rfl
          rw [if_pos z] at F
          clear z
          go_wp2_with fail
          go_returns
          exact ⟨by rw [F.out]; exact G.out.drewN _, by rw [F.out]; rfl⟩
        · have z2 : acc.length ≠ 0 := fun e => z (List.length_eq_zero_iff.1 e)
          have z1 : (((acc.length : Nat) : Int) == 0) = false := by rw [beq_eq_false_iff_ne]; omega
          have z3 : 0 < acc.length := by omega
          rw [if_neg z] at F
          clear z z2
          go_wp2_with fail
          go_returns
          obtain ⟨a, c, e, ty, lc⟩ := ND.out
          injection e with e1 _ e3
          subst e1 e3
          exact ⟨by rw [F.out]; exact G.out.drewN _, by rw [F.out]; exact ⟨_, _, rfl, ty.later (below_drewN (Below.refl _ _) _), lc⟩⟩
      · have m : nx s j ≠ 46 := fun q => y (by have := HX.out; rw [q] at this; exact this.symm)
        have y1 : (x == 46) = false := by rw [beq_eq_false_iff_ne]; exact y
        have y2 : (x != 46) = true := by simp [y]
        clear y
        go_wp2_with fail
        go_quiet ((go_at_call 60; exact Calls.quiet_of (kn _)))
        go_wp2_with fail
        refine abs_calls (fun W => Hid (Go1 w W rb s j) ∧ Hid (OwnG w.heap.size W (.slice A acc.length C) acc)) ⟨G.out.drewN _, O.out.later (below_drewN (Below.refl _ _) _)⟩ ?_
        rintro W1 ⟨G1, O1⟩
        clear c0 c1 kn G O
        refine Calls.mono (piece_spec G1.out.rd hlt hs) ?_
        rintro e W2 ⟨g2, he⟩
        obtain ⟨⟨j', r⟩, hr⟩ : ∃ q, pieceA s j = q := ⟨_, rfl⟩
        have G2 : Hid (Go1 w W2 rb s j') := by have := G1.out.trans g2; rw [hr] at this; exact this
        have O2 := hide (O1.out.upd g2.upd (by decide) (by decide))
        rw [hr] at he
        have sz1 := G1.out.upd.size
        clear g2
        cases r with
        | error c =>
          have F : Hid (E = (j', .error c)) := by have := D.out; rw [node_bad hf hlt m hr] at this; exact this.symm
          have cc := piece_err hr
          have cn : (c == 0) = false := by rw [beq_eq_false_iff_ne]; omega
          have cn2 : (c != 0) = true := by simp; omega
          simp only at he
          subst he
          clear D hr m cc
          go_wp2_with fail
          go_returns
          exact ⟨by rw [F.out]; exact G2.out.later ((Below.refl _ _).alloc (Nat.le_refl _) _), by rw [F.out]; rfl⟩
        | ok g =>
          obtain ⟨f', hf', hst⟩ := node_step (acc := acc) hf hlt m hr
          have D2 : Hid (nodeA s f' j' (acc ++ [g]) = E) := by have := D.out; rw [hst] at this; exact this
          have jg := piece_gt hr
          simp only at he
          obtain ⟨a, c, he, ty, lc⟩ := he
          subst he
          have TY := hide (ty.less (C := w.heap.size) sz1)
          have LC := hide lc
          clear D hr m hst ty lc
          go_upto_region 6 with (fail)
          refine abs_wp (fun W => Hid (Pd w W rb j' W2.heap.size s (.slice A acc.length C) acc g a c)) ⟨?_, ?_, ?_, ?_, ?_, ?_, ?_⟩ ?_
          · first | exact ((G2.out.later ((Below.refl _ _).alloc (Nat.le_refl _) _)).set_new lr (by simp; omega) _).set_new lr (by simp; omega) _ |>.set_new lr (by simp; omega) _ | exact G2.out.later ((Below.refl _ _).alloc (Nat.le_refl _) _)
          · simp [go_sem]
          · simp [go_sem]
          · simp [go_sem]
          · exact O2.out.later (by go_grown)
          · exact TY.out.later (by go_grown)
          · exact LC.out
          rintro W4 P4
          obtain ⟨xs, X4, XG⟩ := P4.out.own.own
          have xl : xs.length = acc.length * 3 := X4.1
          have XX := hide X4
          have XH := hide XG
          have p0 := P4.out.c0
          have p1 := P4.out.c1
          have p2 := P4.out.c2
          have sz4 := P4.out.go.upd.size
          have jl4 := P4.out.go.rd.le
          have c3 : acc.length + 1 ≤ maxLen := by unfold maxLen; omega
          obtain ⟨i0, hi0, hz0, hz1, hz2⟩ := info_parts info_glob
          have HI2 : Hid (Tryd.prog.info? 66 = some i0 ∧ i0.zero = some (.agg #[.int .i64 0, .string ByteArray.empty, .slice none 0 0]) ∧ i0.size = 3 ∧ i0.bytes = 48) := ⟨hi0, hz0, hz1, hz2⟩
          clear hi0 hz0 hz1 hz2 X4 XG xl G2 O2 TY LC c3
          go_wp2_with (
            at_builtin
            refine wpList_append_own _ rfl _ _ 61 rfl w.heap.size 66 i0 _ 3 48 Tryd.underlying61 HI2.out.1 HI2.out.2.1 HI2.out.2.2.1 HI2.out.2.2.2 ?a1 ?a2 (.slice A acc.length C) acc.length xs ?a3 ?a4 ⟨W4.heap.size, 0, none⟩ 1 1 [.int .i64 g.k, .string g.t, .slice a g.al.length c] ?a5 ?a6 ?a7 ?a8 ?a9 ?b1 ?b2 ?_
            case a1 => rfl
            case a2 => decide
            case a3 => rfl
            case a4 => exact XX.out.alloc _
            case a5 => rfl
            case a6 => rfl
            case a7 => exact cells_new _ _ _ _ rfl
            case a8 => exact glob_one _ _ _ _ _
            case a9 => (unfold maxLen; omega)
            case b1 => omega
            case b2 => (simp; omega)
            intro v' w5 hown' hgrow hnil)
          go_roundg (s.size - j')
          case measure => omega
          case rel => exact ⟨j', f', acc ++ [g], by omega, hf', by simp; omega, hide ((P4.out.go.later ((Below.refl _ _).alloc (Nat.le_refl _) _)).grown_new lr hgrow (fun k hk => (XX.out.lt k hk).1)), hide (OwnG.more (v := .slice none 0 0) XH.out XX.out.1 (Upd.trans (Upd.of_below ((Below.refl _ _).alloc (Nat.le_refl _) _)) (Upd.of_grown (XX.out.alloc _) hgrow)) P4.out.ty P4.out.le hown'), D2⟩
    · have nlt : decide ((j : Int) < (s.size : Int)) = false := by simpa using hlt
      have F : Hid (E = if acc = [] then (j, .error 31) else (j, .ok acc)) := by have := D.out; rw [node_stop hf jle (fun q => absurd q hlt)] at this; exact this.symm
      clear D kn
      go_wp2_with fail
      go_quiet (fail)
      have ND := hide O.out.done
      by_cases z : acc = []
      · have z1 : (((acc.length : Nat) : Int) == 0) = true := by rw [z]; rfl
        have z2 : acc.length = 0 := by rw [z]; rfl
        rw [if_pos z] at F
        clear z
        go_wp2_with fail
        go_returns
        exact ⟨by rw [F.out]; exact G.out.drewN _, by rw [F.out]; rfl⟩
      · have z2 : acc.length ≠ 0 := fun e => z (List.length_eq_zero_iff.1 e)
        have z1 : (((acc.length : Nat) : Int) == 0) = false := by rw [beq_eq_false_iff_ne]; omega
        have z3 : 0 < acc.length := by omega
        rw [if_neg z] at F
        clear z z2
        go_wp2_with fail
        go_returns
        obtain ⟨a, c, e, ty, lc⟩ := ND.out
        injection e with e1 _ e3
        subst e1 e3
        exact ⟨by rw [F.out]; exact G.out.drewN _, by rw [F.out]; exact ⟨_, _, rfl, ty.later (below_drewN (Below.refl _ _) _), lc⟩⟩
end Go.Proofs.YteahbdhhcfoiiaaDoor
/- name: Compile. -/
namespace Go.Proofs.YteahbdhhcfoiiaaDoor
set_option linter.unusedVariables false
set_option linter.unusedSimpArgs false
open Go.RowKit W
theorem TyG.less {B C : Nat} {w : World} {a : Option Addr} {gs : List Gl} (h : TyG B w a gs) (hC : C ≤ B) : TyG C w a gs := by
  rcases h with h | ⟨g, o, cs, fr, rfl, hb, hh, hc⟩
  · exact .inl h
  · exact .inr ⟨g, o, cs, fr, rfl, by omega, hh, fun j hj => by
      obtain ⟨h1, h2, b, c, h3, h4, h5⟩ := hc j hj
      exact ⟨h1, h2, b, c, h3, h4.less hC, h5⟩⟩
/-- A box of a pattern. -/
def BoxP (w : World) (b : Nat) (v : Value) : Prop := w.heap[b]? = some (.cells #[v] 33 (0, 0))
theorem BoxP.upd {B : Nat} {T : List TypeId} {w w' : World} {b : Nat} {v : Value} (h : BoxP w b v) (u : Upd B T w w') (ht : 33 ∉ T) : BoxP w' b v := u.blk h ht
theorem BoxP.cells {w : World} {b : Nat} {v : Value} (h : BoxP w b v) : w.cell? ⟨b, 0, none⟩ = some v ∧ w.frozen? ⟨b, 0, none⟩ = false ∧ b < w.heap.size := by
  unfold BoxP at h
  exact ⟨by simp [World.cell?, h], by simp [World.frozen?, h], blk_lt h⟩
theorem BoxP.put {w : World} {b : Nat} {v u : Value} (h : BoxP w b v) : BoxP (w.setCell ⟨b, 0, none⟩ u) b u := by
  unfold BoxP at *
  simp [World.setCell, Array.getElem?_modify, h]
theorem BoxP.set_other {w : World} {b : Nat} {v : Value} (h : BoxP w b v) {p : Addr} (n : b ≠ p.block) (u : Value) : BoxP (w.setCell p u) b v := (Below.heap_setCell w p u b n).trans h
theorem new3a (w : World) (a b c : Obj) : (((w.alloc a).alloc b).alloc c).heap[w.heap.size]? = some a :=
  (((Below.refl _ _).alloc (Nat.le_refl _) c : Below ((w.alloc a).alloc b).heap.size _ (((w.alloc a).alloc b).alloc c)).block _ (by simp; omega)).trans (new1 w a b)
theorem new3b (w : World) (a b c : Obj) : (((w.alloc a).alloc b).alloc c).heap[w.heap.size + 1]? = some b :=
  (((Below.refl _ _).alloc (Nat.le_refl _) c : Below ((w.alloc a).alloc b).heap.size _ (((w.alloc a).alloc b).alloc c)).block _ (by simp)).trans (new2 w a b)
theorem new3c (w : World) (a b c : Obj) : (((w.alloc a).alloc b).alloc c).heap[w.heap.size + 2]? = some c := by
  have := heap_alloc_new ((w.alloc a).alloc b) c
  rwa [show ((w.alloc a).alloc b).heap.size = w.heap.size + 2 by simp] at this
def CompRes (w : World) (E : Nat × Except Int (List (List Gl))) (e : Ending) (w' : World) : Prop :=
  Below w.heap.size w w' ∧ match E.2 with
  | .error c => e = .returned (.tuple #[.agg #[.slice none 0 0], .int .i64 (E.1 : Int), .int .i64 c])
  | .ok p => ∃ a c, e = .returned (.tuple #[.agg #[.slice a p.length c], .int .i64 (E.1 : Int), .int .i64 0]) ∧ TyN w.heap.size w' a p ∧ p.length ≤ c
theorem info_node : (Tryd.prog.info? 61).map (fun i => (i.zero, i.size, i.bytes)) = some (some (.slice none 0 0), 1, 24) := by kernel_rfl
/-- Compile under way. -/
structure Cst (w W : World) (j : Nat) (s : ByteArray) (v : Value) (acc : List (List Gl)) : Prop where
  rd : Rd W (w.heap.size + 1) s j
  below : Below w.heap.size w W
  res : BoxP W w.heap.size (.slice none 0 0)
  p : BoxP W (w.heap.size + 2) v
  own : OwnN w.heap.size W v acc
theorem Cst.later {w W W' : World} {j : Nat} {s : ByteArray} {v : Value} {acc : List (List Gl)} (h : Cst w W j s v acc) (b : Below W.heap.size W W') : Cst w W' j s v acc :=
  ⟨h.rd.later b, h.below.trans (b.mono h.below.size), h.res.upd (Upd.of_below (B := 0) (T := []) b) (by simp), h.p.upd (Upd.of_below (B := 0) (T := []) b) (by simp), h.own.later b⟩
theorem Cst.go {w W W' : World} {i j : Nat} {s : ByteArray} {v : Value} {acc : List (List Gl)} (h : Cst w W i s v acc) (g : Go1 W W' (w.heap.size + 1) s j) : Cst w W' j s v acc :=
  ⟨g.rd, h.below.trans ((g.upd.below (Nat.le_of_lt h.rd.lt)).mono (by omega)), h.res.upd g.upd (by decide), h.p.upd g.upd (by decide), h.own.upd g.upd (by decide) (by decide) (by decide)⟩
theorem Cst.app {w W w5 : World} {j : Nat} {s : ByteArray} {v v' : Value} {acc : List (List Gl)} (h : Cst w W j s v acc) {l : List Gl} {a : Option Addr} {c : Nat} {xs : List Value} (ty : TyG w.heap.size W a l) (lc : l.length ≤ c) (XX : W.ownsRow w.heap.size 61 1 v acc.length xs)
    (XH : NCells w.heap.size W (fun i => xs[i]?) acc) (o : Obj) (hown : w5.ownsRow w.heap.size 61 1 v' (acc.length + 1) (xs ++ [.slice a l.length c])) (hg : (W.alloc o).grownBy w5 v.ownBlock) :
    BoxP w5 (w.heap.size + 2) v ∧ Cst w (w5.setCell ⟨w.heap.size + 2, 0, none⟩ v') j s v' (acc ++ [l]) := by
  have U : Upd w.heap.size [61] W w5 := Upd.trans (Upd.of_below ((Below.refl _ _).alloc (Nat.le_refl _) o)) (Upd.of_grown (XX.alloc o) hg)
  have P5 := h.p.upd U (by decide)
  have V : Upd w.heap.size [33] w5 (w5.setCell ⟨w.heap.size + 2, 0, none⟩ v') := (Upd.refl _ _ _).set P5 (by omega) (by simp) _
  refine ⟨P5, (h.rd.upd U (by decide)).upd V (by decide), (h.below.trans (U.below h.below.size)).setCell (by simp) _, (h.res.upd U (by decide)).set_other (by simp) _, P5.put, ?_⟩
  exact (OwnN.more XH (by rw [XX.1, Nat.mul_one]) U ty lc hown).upd V (by decide) (by decide) (by decide)
theorem Cst.at_ {w W : World} {i : Nat} {s : ByteArray} {v : Value} {acc : List (List Gl)} (h : Cst w W i s v acc) (j : Nat) (hj : j ≤ s.size) {x : Int} (hx : x = (j : Int)) : Cst w (W.setCell ⟨w.heap.size + 1, 1, none⟩ (.int .i64 x)) j s v acc :=
  h.go ((Go1.refl h.rd).put j hj hx)
set_option maxRecDepth 100000 in
set_option maxHeartbeats 8000000 in
theorem comp_long {s : ByteArray} (hs : 400 < s.size) (w : World) : Calls Tryd.prog 25 #[.string s] w (CompRes w (400, .error 2)) := by
  go_enter Tryd.func25, Tryd.ntmps25
  go_wp2_with fail
  refine bodyPost_ret (by simp [results, Tryd.results25, go_sem]; try rfl) rfl ?_
  exact ⟨by go_grown, rfl⟩
set_option maxRecDepth 100000 in
set_option maxHeartbeats 8000000 in
theorem comp_short {s : ByteArray} (hs : s.size ≤ 400) (w : World) : Calls Tryd.prog 25 #[.string s] w (CompRes w (patA s (s.size + 1) 0 [])) := by
  obtain ⟨E, hE⟩ : ∃ E, patA s (s.size + 1) 0 [] = E := ⟨_, rfl⟩
  rw [hE]
  have HE := hide hE
  clear hE
  go_enter Tryd.func25, Tryd.ntmps25
  go_wp2_with fail
  go_loopg [] s.size (fun k wr => ∃ (j f : Nat) (acc : List (List Gl)) (v : Value), j + k = s.size ∧ s.size < f + j ∧ acc.length ≤ 15 ∧ Hid (Cst w wr j s v acc) ∧ Hid (patA s f j acc = E))
  case atStart =>
    refine ⟨0, s.size + 1, [], .slice none 0 0, by omega, by omega, by simp, ⟨⟨?_, by omega⟩, ?_, ?_, ?_, OwnN.none_ _ _⟩, HE⟩
    · exact new3b _ _ _ _
    · go_grown
    · exact new3a _ _ _ _
    · exact new3c _ _ _ _
  case round =>
    obtain ⟨j, f, acc, v, hj, hf, ha, C, D⟩ := hrel
    have kn := node_spec C.out.rd hs
    go_wp2_with fail
    refine Calls.mono kn ?_
    rintro e W2 ⟨g2, he⟩
    obtain ⟨⟨j', r⟩, hr⟩ : ∃ q, nodeA s (s.size + 1) j [] = q := ⟨_, rfl⟩
    rw [hr] at g2 he
    have C2 := hide (C.out.go g2)
    have sz1 := C.out.below.size
    have jle := C.out.rd.le
    have jl2 : j' ≤ s.size := g2.rd.le
    clear g2 kn C
    have c1 := C2.out.rd.c1
    have f1 := C2.out.rd.f1
    obtain ⟨z0, zf, zl⟩ := C2.out.res.cells
    obtain ⟨p0, pf, pl⟩ := C2.out.p.cells
    cases r with
    | error c =>
      have F : Hid (E = (j', .error c)) := by have := D.out; rw [pat_bad hf jle hr] at this; exact this.symm
      have cc := node_err hr
      have cn : (c == 0) = false := by rw [beq_eq_false_iff_ne]; omega
      have cn2 : (c != 0) = true := by simp; omega
      simp only at he
      subst he
      clear D hr cc
      go_wp2_with fail
      go_region
      all_goals
        go_wp2_with fail
        refine bodyPost_ret (by simp [results, Tryd.results25, go_sem, z0]; try rfl) rfl ?_
        rw [F.out]
        exact ⟨C2.out.below.drew.setCell (by simp) _, rfl⟩
    | ok l =>
      simp only at he
      obtain ⟨a, c, he, ty, lc⟩ := he
      subst he
      have TY := hide (ty.less (C := w.heap.size) sz1)
      have LC := hide lc
      clear ty lc
      obtain ⟨A, C, rfl, _, _⟩ : ∃ A C, v = .slice A acc.length C ∧ acc.length ≤ C ∧ (A = none → acc.length = 0 ∧ C = 0) := by obtain ⟨xs, h1, _⟩ := C2.out.own.own; exact own_form h1
      by_cases y : j' < s.size ∧ acc.length + 1 = 16
      · have F : Hid (E = (j', .error 3)) := by have := D.out; rw [pat_many hf jle hr y.1 y.2] at this; exact this.symm
        have e1 : decide ((j' : Int) < (s.size : Int)) = true := by simpa using y.1
        have e2 : (((acc.length : Nat) : Int) + 1 == 16) = true := by rw [beq_iff_eq]; omega
        have y1 := y.1
        clear D hr y
        go_wp2_with fail
        go_region
        all_goals
          go_wp2_with fail
          refine bodyPost_ret (by simp [results, Tryd.results25, go_sem, z0]; try rfl) rfl ?_
          rw [F.out]
          exact ⟨C2.out.below.drew.setCell (by simp) _, rfl⟩
      · have e1 : decide ((j' : Int) < (s.size : Int)) = false ∨ (((acc.length : Nat) : Int) + 1 == 16) = false := by
          by_cases q : j' < s.size
          · right; rw [beq_eq_false_iff_ne]; intro e; exact y ⟨q, by omega⟩
          · left; simpa using q
        have cut : Hid (∀ P : Prop, (decide ((j' : Int) < (s.size : Int)) = false → P) → (decide ((j' : Int) < (s.size : Int)) = true → (((acc.length : Nat) : Int) + 1 == 16) = false → P) → P) := by
          intro P h1 h2
          by_cases q : decide ((j' : Int) < (s.size : Int)) = true
          · exact h2 q (e1.resolve_left (by rw [q]; decide))
          · exact h1 (by simpa using q)
        obtain ⟨xs, X4, XG⟩ := C2.out.own.own
        have xl : xs.length = acc.length * 1 := X4.1
        have XX := hide X4
        have XH := hide XG
        have c3 : acc.length + 1 ≤ maxLen := by unfold maxLen; omega
        obtain ⟨i0, hi0, hz0, hz1, hz2⟩ := info_parts info_node
        have HI2 : Hid (Tryd.prog.info? 61 = some i0 ∧ i0.zero = some (.slice none 0 0) ∧ i0.size = 1 ∧ i0.bytes = 24) := ⟨hi0, hz0, hz1, hz2⟩
        clear hi0 hz0 hz1 hz2 X4 XG xl c3 e1
        have bse : w.heap.size + 2 < W2.heap.size := pl
        go_upto_region 10 with (fail)
        all_goals
          go_wp2_with (
            at_builtin
            refine wpList_append_own _ rfl _ _ 31 rfl w.heap.size 61 i0 _ 1 24 Tryd.underlying31 HI2.out.1 HI2.out.2.1 HI2.out.2.2.1 HI2.out.2.2.2 ?a1 ?a2 (.slice A acc.length C) acc.length xs ?a3 ?a4 ⟨W2.heap.size, 0, none⟩ 1 1 [.slice a l.length c] ?a5 ?a6 ?a7 ?a8 ?a9 ?b1 ?b2 ?_
            case a1 => rfl
            case a2 => decide
            case a3 => rfl
            case a4 => exact XX.out.alloc _
            case a5 => rfl
            case a6 => rfl
            case a7 => exact cells_new _ _ _ _ rfl
            case a8 => (intro u hu; rw [List.mem_singleton] at hu; subst hu; rfl)
            case a9 => (unfold maxLen; omega)
            case b1 => omega
            case b2 => (simp; omega)
            intro v5 w5 hown5 hgrow5 hnil5
            obtain ⟨A5, C5, rfl, _, _⟩ := own_form hown5
            obtain ⟨P5, K5⟩ := C2.out.app TY.out LC.out XX.out XH.out _ hown5 hgrow5
            obtain ⟨q0, qf, ql⟩ := P5.cells
            have K6 := hide K5
            have rl := K5.rd.lt
            have rl2 : w.heap.size + 1 < w5.heap.size := by simpa using rl
            have k1 := K5.rd.c1
            have k2 := K5.rd.f1
            have k3 := K5.p.cells
            obtain ⟨k3, k4, k5⟩ := k3
            have k6 := K5.res.cells
            obtain ⟨k6, k7, k8⟩ := k6
            clear hown5 hgrow5 hnil5 K5 P5 c1 f1 z0 zf p0 pf)
        · have jlt : j' < s.size := by omega
          have nm : acc.length + 1 ≠ 16 := by
            refine cut.out _ (fun e => ?_) (fun _ e => ?_)
            · intro _; simp at e; omega
            · rw [beq_eq_false_iff_ne] at e; omega
          obtain ⟨f', hf', hst⟩ := pat_step hf jle hr jlt nm
          have D2 : Hid (patA s f' (j' + 1) (acc ++ [l]) = E) := by have := D.out; rw [hst] at this; exact this
          have jg := node_gt hr
          go_roundg (s.size - (j' + 1))
          case measure => omega
          case rel => exact ⟨j' + 1, f', acc ++ [l], _, by omega, hf', by simp; omega, hide (K6.out.at_ (j' + 1) jlt (by omega)), D2⟩
        · have je : j' = s.size := by omega
          have F : Hid (E = (0, .ok (acc ++ [l]))) := by have := D.out; rw [pat_end hf jle (by rw [hr, je])] at this; exact this.symm
          refine bodyPost_ret (by simp [results, Tryd.results25, go_sem, k6, k7, k8]; try rfl) rfl ?_
          rw [F.out]
          obtain ⟨a9, c9, e9, t9, l9⟩ := K6.out.own.done
          have hl9 : (acc ++ [l]).length = acc.length + 1 := by simp
          rw [hl9] at e9
          injection e9 with e1 _ e3
          subst e1 e3
          refine ⟨K6.out.below.setCell (by simp) _, _, _, by rw [hl9]; rfl, ?_, l9⟩
          exact t9.upd ((Upd.refl w.heap.size [33] _).set K6.out.res (by simp) (by simp) _) (by decide) (by decide) (by decide)
theorem comp_spec (s : ByteArray) (w : World) : Calls Tryd.prog 25 #[.string s] w (CompRes w (compA s)) := by
  unfold compA
  by_cases h : 400 < s.size
  · rw [if_pos h]; exact comp_long h w
  · rw [if_neg h]; exact comp_short (by omega) w
end Go.Proofs.YteahbdhhcfoiiaaDoor
/- name: the law's alive. -/
namespace Go.Proofs.YteahbdhhcfoiiaaDoor
set_option linter.unusedVariables false
set_option linter.unusedSimpArgs false
open Go.RowKit W
def pat0 : List (List Gl) := [[⟨1, ⟨#[119]⟩, []⟩, ⟨2, .empty, []⟩], [⟨4, ⟨#[104, 105, 106]⟩, []⟩, ⟨1, ⟨#[105, 116, 115]⟩, []⟩]]
theorem comp0 : compA ⟨#[119, 42, 46, 91, 104, 45, 106, 93, 105, 116, 115]⟩ = (0, .ok pat0) := by kernel_rfl
theorem val0 : validN (lst ⟨#[119, 101, 98, 46, 104, 105, 116, 115]⟩) = true := by kernel_rfl
theorem mat0 : matB pat0 ⟨#[119, 101, 98, 46, 104, 105, 116, 115]⟩ = true := by kernel_rfl
theorem mat1 : matB pat0 ⟨#[119, 101, 98, 46, 98, 105, 116, 115]⟩ = false := by kernel_rfl
theorem ptw0 : PtW pat0 := by
  refine ⟨by decide, fun gs h => ?_, fun gs h g hg => ?_⟩
  · simp only [pat0, List.mem_cons, List.not_mem_nil, or_false] at h
    rcases h with rfl | rfl <;> decide
  · simp only [pat0, List.mem_cons, List.not_mem_nil, or_false] at h
    rcases h with rfl | rfl
    all_goals
      simp only [List.mem_cons, List.not_mem_nil, or_false] at hg
      rcases hg with rfl | rfl
      all_goals exact ⟨by decide, by decide, fun x hx => by cases hx⟩
set_option maxRecDepth 100000 in
set_option maxHeartbeats 4000000 in
theorem alive_spec (m : Int) (w : World) (gm : GM m w) : Calls Tryd.prog 22 #[] w fun e w' => e = .returned (.bool true) ∧ Below w.heap.size w w' := by
  have kc := comp_spec ⟨#[119, 42, 46, 91, 104, 45, 106, 93, 105, 116, 115]⟩ w
  rw [comp0] at kc
  have kv := fun w => valid_spec ⟨#[119, 101, 98, 46, 104, 105, 116, 115]⟩ w
  rw [show validN (ByteArray.data ⟨#[119, 101, 98, 46, 104, 105, 116, 115]⟩).toList = true from val0] at kv
  have k1 := fun a c w ha gm => match_spec pat0 ptw0 ⟨#[119, 101, 98, 46, 104, 105, 116, 115]⟩ m a c w ha gm
  have k2 := fun a c w ha gm => match_spec pat0 ptw0 ⟨#[119, 101, 98, 46, 98, 105, 116, 115]⟩ m a c w ha gm
  rw [mat0] at k1
  rw [mat1] at k2
  have GMH := hide gm
  clear gm
  go_enter Tryd.func22, Tryd.ntmps22
  go_wp2_with fail
  refine Calls.mono kc ?_
  rintro e w1 ⟨b1, a, c, he, ty, lc⟩
  have HI := hide (ty.is)
  have B1 := hide b1
  have GM1 := hide (GMH.out.later b1)
  simp only at he
  subst he
  rw [show pat0.length = 2 from rfl] at k1 k2 ⊢
  clear b1 ty lc kc
  go_wp2_with (go_at_call 17; refine (kv _).mono ?_; rintro e w' ⟨rfl, rfl⟩)
  have BB : Hid (Below w1.heap.size w1 (w1.alloc (.cells #[.slice a 2 c] 33))) := (Below.refl _ _).alloc (Nat.le_refl _) _
  refine Calls.mono (k1 a c _ (HI.out.later BB.out) (GM1.out.later BB.out)) ?_
  rintro e w2 ⟨rfl, b2⟩
  have c2 : w2.cell? ⟨w1.heap.size, 0, none⟩ = some (.slice a 2 c) := (b2.cell (p := ⟨w1.heap.size, 0, none⟩) (by simp)).trans (by simp [go_sem])
  have B2 : Hid (Below w1.heap.size w1 w2) := BB.out.trans (b2.mono (by simp))
  clear b2
  go_wp2_with fail
  refine Calls.mono (k2 a c _ (HI.out.later B2.out) (GM1.out.later B2.out)) ?_
  rintro e w3 ⟨rfl, b3⟩
  have B3 := hide (B1.out.trans ((B2.out.trans (b3.mono B2.out.size)).mono B1.out.size))
  clear b3
  go_wp2_with fail
  go_returns
  exact ⟨rfl, B3.out⟩
end Go.Proofs.YteahbdhhcfoiiaaDoor
/- Strings compared. -/
namespace Go.Proofs.YteahbdhhcfoiiaaDoor
open Go.RowKit W
theorem toL_ne {a b : ByteArray} (h : a ≠ b) : ¬ a.toList = b.toList := by
  intro e
  rw [ByteArray.toList_eq, ByteArray.toList_eq] at e
  exact h (ByteArray.ext (Array.toList_inj.1 e))
theorem str_eql (a b : ByteArray) (h : a ≠ b) (w : World) : (binOp .eql 9 (.string a) (.string b)).run Tryd.prog w = .ok (.bool false) w := by
  simp [go_sem]; exact toL_ne h
theorem str_neq (a b : ByteArray) (h : a ≠ b) (w : World) : (binOp .neq 9 (.string a) (.string b)).run Tryd.prog w = .ok (.bool true) w := by
  simp [go_sem]; exact toL_ne h
theorem str_eql_same (a : ByteArray) (w : World) : (binOp .eql 9 (.string a) (.string a)).run Tryd.prog w = .ok (.bool true) w := by
  simp [go_sem]
theorem str_neq_same (a : ByteArray) (w : World) : (binOp .neq 9 (.string a) (.string a)).run Tryd.prog w = .ok (.bool false) w := by
  simp [go_sem]
end Go.Proofs.YteahbdhhcfoiiaaDoor
/- name: the reference's has, put. -/
namespace Go.Proofs.YteahbdhhcfoiiaaDoor
set_option linter.unusedVariables false
set_option linter.unusedSimpArgs false
open Go.RowKit W
theorem nx_eq {s : ByteArray} {i : Nat} (h : i < s.size) : s.data.toList[i]'(by have : s.data.toList.length = s.size := Array.length_toList; omega) = nx s i := by
  rw [nx_lt h]; rfl
set_option maxRecDepth 100000 in
set_option maxHeartbeats 4000000 in
theorem rhas_spec (s : ByteArray) (hs : s.size ≤ 140737488355328) (c : UInt8) (t : Bool) (ht : s.data.toList.contains c = t) (w : World) : CalcN 95 #[.string s, .int .u8 (c.toNat : Int)] w (.bool t) := by
  have HE := hide ht
  clear ht
  have cl : c.toNat < 256 := c.toNat_lt
  go_enter Tryd.func95, Tryd.ntmps95
  go_wp2_with fail
  go_loop [5] (fun i => ∃ k : Nat, k ≤ s.size ∧ i = .int .i64 (k : Int) ∧ Hid (∀ j, j < k → nx s j ≠ c)) (fun i => s.size - (intOf i).toNat)
  case atStart => exact ⟨0, by omega, rfl, hide (fun j h => absurd h (Nat.not_lt_zero _))⟩
  case round =>
    obtain ⟨k, hk, rfl, D⟩ := hrel
    by_cases hlt : k < s.size
    · have nk : (nx s k).toNat = s[k].toNat := by rw [nx_lt hlt]
      by_cases e : nx s k = c
      · have F : Hid (t = true) := by
          show _ = _
          rw [← HE.out, List.contains_iff_mem, ← e, ← nx_eq hlt]
          exact List.getElem_mem _
        have e1 : (((s[k].toNat : Nat) : Int) == (c.toNat : Int)) = true := by rw [← nk, e]; simp
        have e2 : (s[k].toNat == c.toNat) = true := by rw [← nk, e]; simp
        have e3 : s[k].toNat = c.toNat := by rw [← nk, e]
        clear e nk
        go_wp2_with fail
        go_returns
        exact ⟨by rw [F.out]; rfl, rfl⟩
      · have n1 : ¬ s[k].toNat = c.toNat := fun q => e (UInt8.toNat_inj.1 (by rw [nk]; exact q))
        have e1 : (((s[k].toNat : Nat) : Int) == (c.toNat : Int)) = false := by rw [beq_eq_false_iff_ne]; omega
        have e2 : (s[k].toNat == c.toNat) = false := by rw [beq_eq_false_iff_ne]; exact n1
        have D2 : Hid (∀ j, j < k + 1 → nx s j ≠ c) := by
          intro j hj
          by_cases q : j < k
          · exact D.out j q
          · obtain rfl : j = k := by omega
            exact e
        clear e nk
        go_wp2_with fail
        go_round
        case rel => exact ⟨k + 1, by omega, by go_num, D2⟩
        case measure => simp [intOf]; omega
    · obtain rfl : k = s.size := by omega
      have F : Hid (t = false) := by
        show _ = _
        rw [← HE.out]
        cases q : s.data.toList.contains c with
        | false => rfl
        | true =>
          exfalso
          rw [List.contains_iff_mem] at q
          obtain ⟨j, hj, e⟩ := List.getElem_of_mem q
          have hl : s.data.toList.length = s.size := Array.length_toList
          rw [nx_eq (by omega)] at e
          exact D.out j (by omega) e
      go_wp2
      go_returns
      exact ⟨by rw [F.out]; rfl, rfl⟩
theorem pre_ext {t s : ByteArray} {i : Nat} : preB t s i = true ↔ i + t.size ≤ s.size ∧ s.extract i (i + t.size) = t ∨ (preB t s i = true ∧ ¬ i ≤ s.size) := by
  have h1 : t.data.toList.length = t.size := Array.length_toList
  have h2 : s.data.toList.length = s.size := Array.length_toList
  have hx : (s.extract i (i + t.size)).data.toList = (s.data.toList.drop i).take t.size := by
    rw [ByteArray.data_extract, Array.toList_extract, List.extract_eq_take_drop, Nat.add_sub_cancel_left]
  constructor
  · intro h
    by_cases hi : i ≤ s.size
    · left
      refine ⟨pre_le h hi, ?_⟩
      unfold preB at h
      have := List.isPrefixOf_iff_prefix.1 h
      refine ByteArray.ext (Array.toList_inj.1 ?_)
      rw [hx, ← h1]
      exact (List.prefix_iff_eq_take.1 this).symm
    · exact .inr ⟨h, hi⟩
  · rintro (⟨h, e⟩ | ⟨h, _⟩)
    · unfold preB
      rw [List.isPrefixOf_iff_prefix, List.prefix_iff_eq_take, h1, ← hx, e]
    · exact h
def putW (t s : ByteArray) (i ab : Nat) (w : World) : World := if preB t s i then w.setCell ⟨ab, i + t.size, none⟩ (.bool true) else w
set_option maxRecDepth 100000 in
set_option maxHeartbeats 4000000 in
theorem rput_spec (t s : ByteArray) (hs : s.size ≤ 200) (ht : t.size ≤ 140737488355328) (i ab : Nat) (hi : i ≤ s.size) (T : List Bool) (w : World) (hb : Bo w ab T) (tl : T.length = s.size + 1) :
    Calls Tryd.prog 96 #[.string t, .string s, .int .i64 (i : Int), .slice (some ⟨ab, 0, none⟩) (s.size + 1) (s.size + 1)] w fun e w' => e = .returned (.tuple #[]) ∧ w' = putW t s i ab w := by
  by_cases h : preB t s i = true
  · have le := pre_le h hi
    have ex : s.extract i (i + t.size) = t := by
      rcases pre_ext.1 h with h | ⟨_, h⟩
      · exact h.2
      · exact absurd hi h
    have e1 : (decide (t.size + i ≤ s.size)) = true := by rw [decide_eq_true_eq]; omega
    have b0 := hb.at (i + t.size) (by omega)
    have bf := hb.free (i + t.size)
    have bl := blk_lt hb
    have st := str_eql_same t
    have PW : Hid (putW t s i ab w = w.setCell ⟨ab, i + t.size, none⟩ (.bool true)) := by show _ = _; unfold putW; rw [h]; rfl
    clear h hb
    go_enter Tryd.func96, Tryd.ntmps96
    go_wp2_with fail
    go_end0
    exact ⟨rfl, PW.out.symm⟩
  · have PW : Hid (putW t s i ab w = w) := by show _ = _; unfold putW; rw [if_neg h]
    by_cases le : i + t.size ≤ s.size
    · have ne : s.extract i (i + t.size) ≠ t := fun q => h (pre_ext.2 (.inl ⟨le, q⟩))
      have st := str_eql _ _ ne
      have ne3 : ((s.extract i (i + t.size)).toList == t.toList) = false := by rw [beq_eq_false_iff_ne]; exact toL_ne ne
      clear h hb
      go_enter Tryd.func96, Tryd.ntmps96
      go_wp2_with fail
      go_end0
      exact ⟨rfl, PW.out.symm⟩
    · clear h hb
      go_enter Tryd.func96, Tryd.ntmps96
      go_wp2_with fail
      go_end0
      exact ⟨rfl, PW.out.symm⟩
end Go.Proofs.YteahbdhhcfoiiaaDoor
/- name: the reference's reach. -/
namespace Go.Proofs.YteahbdhhcfoiiaaDoor
set_option linter.unusedVariables false
set_option linter.unusedSimpArgs false
open Go.RowKit W
/-- The places as the reference fills them, behind a world. -/
structure Rr (w0 W : World) (ab : Nat) (s : ByteArray) (T : List Bool) : Prop where
  below : Below w0.heap.size w0 W
  bo : Bo W ab T
  tl : T.length = s.size + 1
  lab : w0.heap.size ≤ ab
theorem Rr.drewN {w0 W : World} {ab : Nat} {s : ByteArray} {T : List Bool} (h : Rr w0 W ab s T) (n : Nat) : Rr w0 (W.drewN n) ab s T := ⟨below_drewN h.below n, h.bo, h.tl, h.lab⟩
theorem Rr.put {w0 W : World} {ab : Nat} {s : ByteArray} {T : List Bool} (h : Rr w0 W ab s T) (i : Nat) : Rr w0 (W.setCell ⟨ab, i, none⟩ (.bool true)) ab s (T.set i true) :=
  ⟨h.below.setCell h.lab _, h.bo.put i, by rw [List.length_set]; exact h.tl, h.lab⟩
theorem Rr.grow {w0 W : World} {ab : Nat} {s : ByteArray} {T : List Bool} (h : Rr w0 W ab s T) (x : Obj) : Rr w0 (W.alloc x) ab s T :=
  ⟨h.below.alloc h.below.size _, ((Below.refl W.heap.size W).alloc (Nat.le_refl _) x).block ab (blk_lt h.bo) |>.trans h.bo, h.tl, h.lab⟩
theorem cell_other {w : World} {ab i b o : Nat} {v : Value} (h : b ≠ ab) : (w.setCell ⟨ab, i, none⟩ v).cell? ⟨b, o, none⟩ = w.cell? ⟨b, o, none⟩ := World.cell?_of_block (Below.heap_setCell w ⟨ab, i, none⟩ _ b h)
theorem putW_rr {w0 W : World} {ab : Nat} {s : ByteArray} {T : List Bool} (h : Rr w0 W ab s T) (t : ByteArray) (i : Nat) : Rr w0 (putW t s i ab W) ab s (if preB t s i then T.set (i + t.size) true else T) := by
  unfold putW
  by_cases q : preB t s i = true
  · rw [if_pos q, if_pos q]; exact h.put _
  · rw [if_neg q, if_neg q]; exact h
theorem putW_cell {w : World} {ab i b o : Nat} {t s : ByteArray} (h : b ≠ ab) : (putW t s i ab w).cell? ⟨b, o, none⟩ = w.cell? ⟨b, o, none⟩ := by
  unfold putW
  by_cases q : preB t s i = true
  · rw [if_pos q]; exact cell_other h
  · rw [if_neg q]
set_option maxRecDepth 100000 in
set_option maxHeartbeats 8000000 in
theorem rreach_spec {w0 W : World} {ab : Nat} {s : ByteArray} {T : List Bool} (h : Rr w0 W ab s T) (g : Gl) (gw : GlW g) (a : Option Addr) (c : Nat) (ha : IsTxts w0 a g.al) (hs : s.size ≤ 200) (i : Nat) (hi : i ≤ s.size) (hk : 1 ≤ g.k ∧ g.k ≤ 5) :
    Calls Tryd.prog 70 #[gV g a c, .string s, .int .i64 (i : Int), .slice (some ⟨ab, 0, none⟩) (s.size + 1) (s.size + 1)] W fun e w' => e = .returned (.tuple #[]) ∧ Rr w0 w' ab s (addR g s T i) := by
  unfold gV
  have bl := blk_lt h.bo
  have H := hide h
  have tl := hide h.tl
  have gt := gw.t
  by_cases k2 : g.k = 2
  · rw [k2, addR_any k2]
    clear h hk k2
    go_enter Tryd.func70, Tryd.ntmps70
    go_wp2_with fail
    go_loopw [8] (fun t wr => ∃ q : Nat, i ≤ q ∧ q ≤ s.size + 1 ∧ t = .int .i64 (q : Int) ∧ Hid (Rr w0 wr ab s (anyR s T i q))) (fun t _ => s.size + 1 - (intOf t).toNat)
    case atStart => exact ⟨i, by omega, by omega, rfl, hide (by rw [anyR_start _ _ _ tl.out]; exact H.out.grow _)⟩
    case round =>
      obtain ⟨q, h1, h2, rfl, R⟩ := hrel
      by_cases hq : q ≤ s.size
      · have b0 := R.out.bo.at q (by rw [R.out.tl]; omega)
        have bf := R.out.bo.free q
        have b2 := blk_lt R.out.bo
        have R2 : Hid (Rr w0 (wr.setCell ⟨ab, q, none⟩ (.bool true)) ab s (anyR s T i (q + 1))) := by show Rr _ _ _ _ _; rw [anyR_step s T i q h1 hq]; exact R.out.put q
        go_wp2_with fail
        go_roundw
        case rel => exact ⟨q + 1, by omega, by omega, by go_num, R2⟩
        case measure => simp [intOf]; omega
      · obtain rfl : q = s.size + 1 := by omega
        go_wp2_with fail
        go_end0
        exact ⟨rfl, R.out⟩
  have k2b : (g.k == 2) = false := by rw [beq_eq_false_iff_ne]; exact k2
  by_cases k3 : g.k = 3
  · by_cases hq : i < s.size
    · have b0 := (h.grow (.cells #[.int .i64 3, .string g.t, .slice a g.al.length c] 66)).bo.at (i + 1) (by rw [h.tl]; omega)
      have bf := (h.grow (.cells #[.int .i64 3, .string g.t, .slice a g.al.length c] 66)).bo.free (i + 1)
      rw [k3]
      rw [addR_one (g := g) (i := i) h.tl (show i + 1 < s.size + 1 by omega) (fun j _ => by unfold goB; rw [k3]; simp [hq])]
      clear h hk k3 k2 k2b
      go_enter Tryd.func70, Tryd.ntmps70
      go_wp2_with fail
      go_end0
      exact ⟨rfl, (H.out.put (i + 1)).grow _⟩
    · rw [k3]
      rw [addR_none h.tl (fun j _ => by unfold goB; rw [k3]; simp [hq])]
      clear h hk k3 k2 k2b
      go_enter Tryd.func70, Tryd.ntmps70
      go_wp2_with fail
      go_end0
      exact ⟨rfl, H.out.grow _⟩
  have k3b : (g.k == 3) = false := by rw [beq_eq_false_iff_ne]; exact k3
  by_cases k4 : g.k = 4
  · by_cases hq : i < s.size
    · have d1 : decide (i < s.size) = true := by simpa using hq
      have b0 := (h.grow (.cells #[.int .i64 4, .string g.t, .slice a g.al.length c] 66)).bo.at (i + 1) (by rw [h.tl]; omega)
      have bf := (h.grow (.cells #[.int .i64 4, .string g.t, .slice a g.al.length c] 66)).bo.free (i + 1)
      have nx1 := nx_lt hq
      obtain ⟨t, ht⟩ : ∃ t, g.t.data.toList.contains s[i] = t := ⟨_, rfl⟩
      have kx := fun w => rhas_spec g.t gt s[i] t ht w
      cases t
      · rw [k4]
        rw [addR_none h.tl (fun j _ => by unfold goB; rw [k4]; rw [nx1, ht]; simp)]
        clear h hk k4 k2 k2b k3 k3b ht nx1 b0 bf
        go_enter Tryd.func70, Tryd.ntmps70
        go_wp2_with fail
        go_quiet ((go_at_call 95; exact quiet_calc (kx _)))
        go_wp2_with fail
        go_end0
        exact ⟨rfl, (H.out.grow _).drewN _⟩
      · rw [k4]
        rw [addR_one (g := g) (i := i) h.tl (show i + 1 < s.size + 1 by omega) (fun j _ => by unfold goB; rw [k4]; rw [nx1, ht]; simp [hq])]
        clear h hk k4 k2 k2b k3 k3b ht nx1
        go_enter Tryd.func70, Tryd.ntmps70
        go_wp2_with fail
        go_quiet ((go_at_call 95; exact quiet_calc (kx _)))
        go_wp2_with fail
        go_end0
        exact ⟨rfl, ((H.out.grow _).drewN _).put (i + 1)⟩
    · have d1 : decide (i < s.size) = false := by simpa using hq
      rw [k4]
      rw [addR_none h.tl (fun j _ => by unfold goB; rw [k4]; simp [hq])]
      clear h hk k4 k2 k2b k3 k3b
      go_enter Tryd.func70, Tryd.ntmps70
      go_wp2_with fail
      go_quiet (fail)
      go_wp2_with fail
      go_end0
      exact ⟨rfl, (H.out.grow _).drewN _⟩
  have k4b : (g.k == 4) = false := by rw [beq_eq_false_iff_ne]; exact k4
  by_cases k1 : g.k = 1
  · have e : addR g s T i = if preB g.t s i then T.set (i + g.t.size) true else T := by
      by_cases q : preB g.t s i = true
      · rw [if_pos q]
        have := pre_le q hi
        exact addR_one h.tl (by omega) (fun j _ => by unfold goB; rw [k1]; simp [q])
      · rw [if_neg q]
        exact addR_none h.tl (fun j _ => by unfold goB; rw [k1]; simp [q])
    rw [k1]
    have EQ := hide e
    have kp := rput_spec g.t s hs gt i ab hi T _ (h.grow (.cells #[.int .i64 1, .string g.t, .slice a g.al.length c] 66)).bo h.tl
    clear h hk k1 k2 k2b k3 k3b k4 k4b e
    go_enter Tryd.func70, Tryd.ntmps70
    go_wp2_with (go_at_call 96; refine Calls.mono kp ?_; rintro e w1 ⟨rfl, rfl⟩)
    go_end0
    exact ⟨rfl, by rw [EQ.out]; exact putW_rr (H.out.grow _) _ _⟩
  have k5 : g.k = 5 := by omega
  rw [addR_alts k5, k5]
  have gn := gw.n
  have GA := hide gw.a
  have HA := hide ha
  obtain ⟨al, hal⟩ : ∃ al, al = g.al := ⟨_, rfl⟩
  rw [← hal] at gn GA HA ⊢
  obtain ⟨n, hn⟩ : ∃ n, n = al.length := ⟨_, rfl⟩
  have HN := hide hn
  rw [← hn] at gn ⊢
  clear h hk k1 k2 k2b k3 k3b k4 k4b k5 hn hal ha gw
  go_enter Tryd.func70, Tryd.ntmps70
  go_wp2_with fail
  go_loopw [9] (fun t wr => ∃ q : Nat, q ≤ n ∧ t = .int .i64 (q : Int) ∧ Hid (Rr w0 wr ab s (altR s T i (al.take q))) ∧ Hid (wr.cell? ⟨W.heap.size, 2, none⟩ = some (.slice a n c))) (fun t _ => n - (intOf t).toNat)
  case atStart => exact ⟨0, by omega, rfl, hide (by rw [List.take_zero, altR_nil _ _ _ tl.out]; exact H.out.grow _), hide (by simp [go_sem])⟩
  case round =>
    obtain ⟨q, hq, rfl, R, C2⟩ := hrel
    have c2 := C2.out
    by_cases hlt : q < n
    · have ql : q < al.length := by have := HN.out; omega
      obtain ⟨b, o, rfl, LA⟩ := (HA.out.later R.out.below).resolve_left (by intro e; rw [e] at ql; simp at ql)
      have c0 := LA.cell q ql
      have lg := LA.lt
      have kp := rput_spec al[q] s hs (GA.out _ (List.getElem_mem _)) i ab hi (altR s T i (al.take q)) wr R.out.bo (altR_len _ _ _ _)
      have e : altR s T i (al.take (q + 1)) = if preB al[q] s i then (altR s T i (al.take q)).set (i + al[q].size) true else altR s T i (al.take q) := by
        rw [List.take_succ_eq_append_getElem ql]
        by_cases u : preB al[q] s i = true
        · rw [if_pos u]; exact altR_yes _ _ _ _ _ u hi
        · rw [if_neg u]; exact altR_no _ _ _ _ _ (by simpa using u)
      have R2 : Hid (Rr w0 (putW al[q] s i ab wr) ab s (altR s T i (al.take (q + 1)))) := by show Rr _ _ _ _ _; rw [e]; exact putW_rr R.out _ _
      have C3 : Hid ((putW al[q] s i ab wr).cell? ⟨W.heap.size, 2, none⟩ = some (.slice (some ⟨b, o, none⟩) n c)) := (putW_cell (by omega)).trans C2.out
      obtain ⟨x, hx⟩ : ∃ x, x = al[q] := ⟨_, rfl⟩
      rw [← hx] at c0 kp R2 C3
      clear LA e hx
      go_wp2_with (go_at_call 96; refine Calls.mono kp ?_; rintro e w1 ⟨rfl, rfl⟩)
      go_roundw
      case rel => exact ⟨q + 1, by omega, by go_num, R2, C3⟩
      case measure => simp [intOf]; omega
    · obtain rfl : q = n := by omega
      have F : Hid (al.take q = al) := by show _ = _; rw [HN.out, List.take_length]
      go_wp2_with fail
      go_end0
      exact ⟨rfl, by have := R.out; rw [F.out] at this; exact this⟩
end Go.Proofs.YteahbdhhcfoiiaaDoor
/- The reference of layer 3: Valid. -/
namespace Go.Proofs.YteahbdhhcfoiiaaDoor
set_option linter.unusedVariables false
set_option linter.unusedSimpArgs false
open Go.RowKit W
set_option maxRecDepth 100000 in
set_option maxHeartbeats 4000000 in
theorem rvalid_walk (s : ByteArray) (hs : s.size ≤ 200) (w : World) :
    Calls Tryd.prog 18 #[.string s] w fun e w' => e = .returned (.bool ((cutL 46 [] (lst s)).all nodeB && decide ((cutL 46 [] (lst s)).length ≤ 16))) ∧ Below w.heap.size w w' := by
  have kc := cut3_spec s (by omega)
  obtain ⟨T, hT⟩ : ∃ T, T = cutL 46 [] (lst s) := ⟨_, rfl⟩
  rw [← hT]
  have HT := hide hT
  obtain ⟨E, hE⟩ : ∃ E, E = T.all nodeB := ⟨_, rfl⟩
  rw [← hE]
  have HEE := hide hE
  clear hT hE
  go_enter Tryd.func18, Tryd.ntmps18
  go_wp2_with fail
  refine (kc _).mono ?_
  rintro e w1 ⟨v, ps, rfl, hps, own⟩
  clear kc
  have hlen : 0 < ps.length := by have := congrArg List.length hps; rw [List.length_map] at this; have := cutL_pos 46 (lst s) []; omega
  have hlen2 : ps.length ≤ 201 := by have := congrArg List.length hps; rw [List.length_map] at this; have := cutL_len 46 (lst s) []; rw [lst_len] at this; omega
  obtain ⟨g, cap, rfl, lie, hg⟩ := own.got hlen
  have bl := own.below
  have sz : ∀ j (h : j < ps.length), ps[j].size ≤ 140737488355328 := fun j h => by have := size_piece hps _ (List.getElem_mem h); omega
  rw [← HT.out] at hps
  have HL : Hid (T.length = ps.length) := by show _ = _; rw [← hps]; simp
  have HE : Hid ((ps.drop 0).all (fun p => nodeB (lst p)) = E) := by show _ = _; rw [HEE.out, ← hps, List.all_map]; rfl
  have SZ := hide sz
  have LI := hide lie
  have BL := hide bl
  clear hps own lie bl sz
  go_wp2_with fail
  go_loop [4] (fun i => ∃ k : Nat, k ≤ ps.length ∧ i = .int .i64 k ∧ Hid ((ps.drop k).all (fun p => nodeB (lst p)) = E)) (fun i => ps.length - (intOf i).toNat)
  case atStart => exact ⟨0, by omega, rfl, HE⟩
  case round =>
    obtain ⟨k, hk, rfl, hd⟩ := hrel
    by_cases hlt : k < ps.length
    · have c0 := LI.out.cell k hlt
      rw [Nat.zero_add] at c0
      have dr := hd.out
      rw [List.drop_eq_getElem_cons hlt, List.all_cons] at dr
      have kb := rbytes_spec ps[k] (SZ.out k hlt)
      obtain ⟨p, hp⟩ : ∃ p, p = ps[k] := ⟨_, rfl⟩
      rw [← hp] at dr kb c0
      have D := hide dr
      clear dr hp hd
      by_cases z : lst p = []
      · have F : Hid (E = false) := by have q := D.out; rw [z] at q; apply hide; simpa [nodeB] using q.symm
        have pe : p = ⟨#[]⟩ := lst_inj (z.trans rfl)
        subst pe
        clear z D kb
        go_wp2_with fail
        all_goals
          go_returns
          exact ⟨by rw [F.out]; rfl, BL.out⟩
      · have z1 : p.toList.isEmpty = false := by rw [ByteArray.toList_eq]; unfold lst at z; cases h : p.data.toList with | nil => exact absurd h z | cons _ _ => rfl
        have z2 : ¬ p.toList = [] := by rw [ByteArray.toList_eq]; exact z
        obtain ⟨t, ht⟩ : ∃ t, t = (lst p).all nB := ⟨_, rfl⟩
        rw [← ht] at kb
        have D2 : Hid ((t && (ps.drop (k + 1)).all (fun p => nodeB (lst p))) = E) := by
          have q := D.out
          unfold nodeB at q
          rw [ht]
          show _ = _
          rw [← q]
          cases h : lst p with
          | nil => exact absurd h z
          | cons a r => rfl
        clear D ht
        cases t
        · have F : Hid (E = false) := by have q := D2.out; apply hide; simpa using q.symm
          clear D2
          go_wp2_with (go_at_call 34; refine (kb _).mono ?_; rintro e w1 ⟨rfl, rfl⟩)
          all_goals
            go_returns
            exact ⟨by rw [F.out]; rfl, BL.out⟩
        · have F : Hid ((ps.drop (k + 1)).all (fun p => nodeB (lst p)) = E) := by have q := D2.out; apply hide; simpa using q
          clear D2
          go_wp2_with (go_at_call 34; refine (kb _).mono ?_; rintro e w1 ⟨rfl, rfl⟩)
          go_round
          case rel => exact ⟨k + 1, by omega, by go_num, F⟩
          case measure => simp [intOf]; omega
    · obtain rfl : k = ps.length := by omega
      have F : Hid (E = true) := by
        have := hd.out
        rw [List.drop_eq_nil_of_le (Nat.le_refl _)] at this
        exact this.symm
      clear hd
      go_wp2
      go_returns
      refine ⟨?_, BL.out⟩
      show Ending.returned (.bool (decide ((ps.length : Int) ≤ 16))) = _
      exact ret_bool (by rw [F.out, HL.out, Bool.true_and, decide_eq_decide]; omega)
theorem rvalid_spec (s : ByteArray) (w : World) :
    Calls Tryd.prog 18 #[.string s] w fun e w' => e = .returned (.bool (validN s.data.toList)) ∧ Below w.heap.size w w' := by
  by_cases h : s.size ≤ 200
  · have := rvalid_walk s h w
    rw [valid_cut, decide_eq_true (by simpa using h), Bool.true_and]
    exact this
  · have e : validN s.data.toList = false := by unfold validN; rw [decide_eq_false (by simpa using h)]; rfl
    rw [e]
    go_enter Tryd.func18, Tryd.ntmps18
    go_wp2
    go_returns
    exact ⟨rfl, Below.refl _ _⟩
end Go.Proofs.YteahbdhhcfoiiaaDoor
/- name: lists of texts held against one another; Node on both sides. -/
namespace Go.Proofs.YteahbdhhcfoiiaaDoor
set_option linter.unusedVariables false
set_option linter.unusedSimpArgs false
open Go.RowKit W
theorem map_lst_inj {xs ys : List ByteArray} (h : xs.map lst = ys.map lst) : xs = ys := by
  induction xs generalizing ys with
  | nil => cases ys with | nil => rfl | cons y ys => cases h
  | cons x xs ih => cases ys with
    | nil => cases h
    | cons y ys => rw [List.map_cons, List.map_cons] at h; injection h with h1 h2; rw [lst_inj h1, ih h2]
set_option maxRecDepth 100000 in
set_option maxHeartbeats 4000000 in
theorem same_texts (xs : List ByteArray) (a b : Option Addr) (c d : Nat) (w : World) (ha : IsTxts w a xs) (hb : IsTxts w b xs) (hn : xs.length ≤ 140737488355328) :
    Calls Tryd.prog 19 #[.slice a xs.length c, .slice b xs.length d] w fun e w' => e = .returned (.bool true) ∧ ∃ n, w' = w.drewN n := by
  have HA := hide ha
  have HB := hide hb
  obtain ⟨n, hnn⟩ : ∃ n, n = xs.length := ⟨_, rfl⟩
  have HN := hide hnn
  rw [← hnn] at hn ⊢
  clear ha hb hnn
  go_enter Tryd.func19, Tryd.ntmps19
  go_wp2_with fail
  go_loopw [5] (fun i wr => ∃ k : Nat, k ≤ n ∧ i = .int .i64 (k : Int) ∧ Hid (∃ m, wr = w.drewN m)) (fun i _ => n - (intOf i).toNat)
  case atStart => exact ⟨0, by omega, rfl, hide ⟨0, rfl⟩⟩
  case round =>
    obtain ⟨k, hk, rfl, M⟩ := hrel
    by_cases hlt : k < n
    · have kx : k < xs.length := by have := HN.out; omega
      obtain ⟨g, o, rfl, LA⟩ := HA.out.resolve_left (by intro e; rw [e] at kx; simp at kx)
      obtain ⟨g2, o2, rfl, LB⟩ := HB.out.resolve_left (by intro e; rw [e] at kx; simp at kx)
      obtain ⟨m, hm⟩ := M.out
      have c0 : wr.cell? ⟨g, o + k, none⟩ = some (.string xs[k]) := by rw [hm]; exact LA.cell k kx
      have c1 : wr.cell? ⟨g2, o2 + k, none⟩ = some (.string xs[k]) := by rw [hm]; exact LB.cell k kx
      obtain ⟨x, hx⟩ : ∃ x, x = xs[k] := ⟨_, rfl⟩
      rw [← hx] at c0 c1
      have ne := str_neq_same x
      clear hx hm LA LB
      go_wp2_with fail
      go_quiet (fail)
      go_wp2_with fail
      go_roundw
      case rel => exact ⟨k + 1, by omega, by go_num, by obtain ⟨m, rfl⟩ := M.out; exact hide ⟨_, World.drewN_drewN ..⟩⟩
      case measure => simp [intOf]; omega
    · obtain rfl : k = n := by omega
      go_wp2_with fail
      go_returns
      exact ⟨rfl, M.out⟩
def RNodesRes (w : World) (s : ByteArray) (e : Ending) (w' : World) : Prop :=
  Below w.heap.size w w' ∧ ∃ a c, e = .returned (.slice a (nodesL s).length c) ∧ IsTxts w' a (nodesL s)
set_option maxRecDepth 100000 in
set_option maxHeartbeats 4000000 in
theorem rnodes_spec (s : ByteArray) (w : World) : Calls Tryd.prog 21 #[.string s] w (RNodesRes w s) := by
  have kv := rvalid_spec s w
  rw [show s.data.toList = lst s from rfl] at kv
  obtain ⟨t, ht⟩ : ∃ t, validN (lst s) = t := ⟨_, rfl⟩
  rw [ht] at kv
  cases t
  · have N := hide (nodesL_no ht)
    clear ht
    go_enter Tryd.func21, Tryd.ntmps21
    go_wp2_with fail
    refine Calls.mono kv ?_
    rintro e w1 ⟨rfl, b1⟩
    have B1 := hide b1
    clear b1
    go_wp2_with fail
    go_returns
    exact ⟨B1.out, none, 0, by rw [N.out]; rfl, .inl N.out⟩
  · have sz := valid_size ht
    have kc := fun w => cut3_spec s (by omega) w
    have NY := hide (nodesL_yes ht)
    clear ht
    go_enter Tryd.func21, Tryd.ntmps21
    go_wp2_with fail
    refine Calls.mono kv ?_
    rintro e w1 ⟨rfl, b1⟩
    have B1 := hide b1
    clear b1
    go_wp2_with fail
    refine Calls.mono (kc _) ?_
    rintro e w2 ⟨v, ps, rfl, hps, own⟩
    have e1 : ps = nodesL s := map_lst_inj (hps.trans NY.out.symm)
    subst e1
    obtain ⟨a, c, rfl, ta⟩ := own.is
    have TA := hide ta
    have B2 := hide (B1.out.trans (own.below.mono B1.out.size))
    clear own hps ta
    go_wp2_with fail
    go_returns
    exact ⟨B2.out, _, _, rfl, TA.out⟩
/-- A name's i-th node, from the end if i is below 0. -/
def nodeAt (ns : List ByteArray) (i : Int) : ByteArray × Bool :=
  let j := if i < 0 then i + ns.length else i
  if 0 ≤ j ∧ j < ns.length then (ns.getD j.toNat ⟨#[]⟩, true) else (⟨#[]⟩, false)
set_option maxRecDepth 100000 in
set_option maxHeartbeats 4000000 in
theorem node_at_spec (s : ByteArray) (i : Int) (hi : IsHi i) (m : Int) (w : World) (gm : GM m w) : Calls Tryd.prog 15 #[.string s, .int .i64 i] w fun e w' =>
    e = .returned (.tuple #[.string (nodeAt (nodesL s) i).1, .bool (nodeAt (nodesL s) i).2]) ∧ Below w.heap.size w w' := by
  have k0 := nodes_spec s m w gm
  unfold NodesRes at k0
  obtain ⟨ns, hns⟩ : ∃ ns, ns = nodesL s := ⟨_, rfl⟩
  rw [← hns] at k0 ⊢
  have nl : ns.length ≤ 201 := by rw [hns]; exact nodes_len s
  obtain ⟨n, hn⟩ : ∃ n, n = ns.length := ⟨_, rfl⟩
  rw [← hn] at k0 nl
  obtain ⟨E, hE⟩ : ∃ E, nodeAt ns i = E := ⟨_, rfl⟩
  rw [hE]
  have HE := hide hE
  have HN := hide hn
  obtain ⟨i1, i2⟩ := hi
  clear hE hn hns gm
  have fin : ∀ j : Int, Hid (j = if i < 0 then i + (n : Int) else i) → (0 ≤ j ∧ j < (n : Int) → Hid (E = (ns.getD j.toNat ⟨#[]⟩, true))) ∧ (¬ (0 ≤ j ∧ j < (n : Int)) → Hid (E = (⟨#[]⟩, false))) := by
    intro j hj
    have := HE.out
    unfold nodeAt at this
    rw [← HN.out] at this
    simp only at this
    rw [← hj.out] at this
    exact ⟨fun q => by show _ = _; rw [← this, if_pos q], fun q => by show _ = _; rw [← this, if_neg q]⟩
  have FIN := hide fin
  clear fin
  by_cases y : i < 0
  · have e1 : IntKind.i64.wrap (i + (n : Int)) = i + (n : Int) := by rw [IntKind.wrap_i64]; omega
    obtain ⟨f1, f2⟩ := FIN.out (i + (n : Int)) (by show _ = _; rw [if_pos y])
    by_cases z : 0 ≤ i + (n : Int)
    · obtain ⟨j, hj⟩ : ∃ j : Nat, i + (n : Int) = j := ⟨(i + (n : Int)).toNat, by omega⟩
      have jn : j < n := by omega
      have F := f1 ⟨z, by omega⟩
      rw [show i + (n : Int) = (j : Int) by omega, Int.toNat_natCast] at F
      rw [hj] at e1
      clear f1 f2
      go_enter Tryd.func15, Tryd.ntmps15
      go_wp2_with fail
      refine Calls.mono k0 ?_
      rintro e w1 ⟨b1, a1, c1, rfl, ty, lc⟩
      have B1 := hide b1
      have jn2 : j < ns.length := by have := HN.out; omega
      obtain ⟨g, o, rfl, LT⟩ := ty.is.resolve_left (by intro e; rw [e] at jn2; simp at jn2)
      have c0 := LT.cell j jn2
      have ea : ns.getD j ⟨#[]⟩ = ns[j] := by simp [List.getD_eq_getElem?_getD, jn2]
      rw [← ea] at c0
      obtain ⟨x, hx⟩ : ∃ x, x = ns.getD j ⟨#[]⟩ := ⟨_, rfl⟩
      rw [← hx] at c0
      have HX := hide hx
      clear b1 ty lc k0 LT ea hx
      go_wp2_with fail
      go_returns
      exact ⟨by rw [F.out, HX.out]; rfl, B1.out⟩
    · have F := f2 (fun q => z q.1)
      clear f1 f2
      go_enter Tryd.func15, Tryd.ntmps15
      go_wp2_with fail
      refine Calls.mono k0 ?_
      rintro e w1 ⟨b1, a1, c1, rfl, ty, lc⟩
      have B1 := hide b1
      clear b1 ty lc k0
      go_wp2_with fail
      go_returns
      exact ⟨by rw [F.out]; rfl, B1.out⟩
  · obtain ⟨j, rfl⟩ : ∃ j : Nat, i = j := ⟨i.toNat, by omega⟩
    obtain ⟨f1, f2⟩ := FIN.out (j : Int) (by show _ = _; rw [if_neg y])
    clear i1 i2
    by_cases z : j < n
    · have F := f1 ⟨by omega, by omega⟩
      rw [Int.toNat_natCast] at F
      clear f1 f2
      go_enter Tryd.func15, Tryd.ntmps15
      go_wp2_with fail
      refine Calls.mono k0 ?_
      rintro e w1 ⟨b1, a1, c1, rfl, ty, lc⟩
      have B1 := hide b1
      have jn2 : j < ns.length := by have := HN.out; omega
      obtain ⟨g, o, rfl, LT⟩ := ty.is.resolve_left (by intro e; rw [e] at jn2; simp at jn2)
      have c0 := LT.cell j jn2
      have ea : ns.getD j ⟨#[]⟩ = ns[j] := by simp [List.getD_eq_getElem?_getD, jn2]
      rw [← ea] at c0
      obtain ⟨x, hx⟩ : ∃ x, x = ns.getD j ⟨#[]⟩ := ⟨_, rfl⟩
      rw [← hx] at c0
      have HX := hide hx
      clear b1 ty lc k0 LT ea hx
      go_wp2_with fail
      go_returns
      exact ⟨by rw [F.out, HX.out]; rfl, B1.out⟩
    · have F := f2 (fun q => z (by omega))
      clear f1 f2
      go_enter Tryd.func15, Tryd.ntmps15
      go_wp2_with fail
      refine Calls.mono k0 ?_
      rintro e w1 ⟨b1, a1, c1, rfl, ty, lc⟩
      have B1 := hide b1
      clear b1 ty lc k0
      go_wp2_with fail
      go_returns
      exact ⟨by rw [F.out]; rfl, B1.out⟩
set_option maxRecDepth 100000 in
set_option maxHeartbeats 4000000 in
theorem rnode_at_spec (s : ByteArray) (i : Int) (hi : IsHi i) (w : World) : Calls Tryd.prog 16 #[.string s, .int .i64 i] w fun e w' =>
    e = .returned (.tuple #[.string (nodeAt (nodesL s) i).1, .bool (nodeAt (nodesL s) i).2]) ∧ Below w.heap.size w w' := by
  have k0 := rnodes_spec s w
  unfold RNodesRes at k0
  obtain ⟨ns, hns⟩ : ∃ ns, ns = nodesL s := ⟨_, rfl⟩
  rw [← hns] at k0 ⊢
  have nl : ns.length ≤ 201 := by rw [hns]; exact nodes_len s
  obtain ⟨n, hn⟩ : ∃ n, n = ns.length := ⟨_, rfl⟩
  rw [← hn] at k0 nl
  obtain ⟨E, hE⟩ : ∃ E, nodeAt ns i = E := ⟨_, rfl⟩
  rw [hE]
  have HE := hide hE
  have HN := hide hn
  obtain ⟨i1, i2⟩ := hi
  clear hE hn hns
  have fin : ∀ j : Int, Hid (j = if i < 0 then i + (n : Int) else i) → (0 ≤ j ∧ j < (n : Int) → Hid (E = (ns.getD j.toNat ⟨#[]⟩, true))) ∧ (¬ (0 ≤ j ∧ j < (n : Int)) → Hid (E = (⟨#[]⟩, false))) := by
    intro j hj
    have := HE.out
    unfold nodeAt at this
    rw [← HN.out] at this
    simp only at this
    rw [← hj.out] at this
    exact ⟨fun q => by show _ = _; rw [← this, if_pos q], fun q => by show _ = _; rw [← this, if_neg q]⟩
  have FIN := hide fin
  clear fin
  by_cases y : i < 0
  · have e1 : IntKind.i64.wrap ((n : Int) + i) = (n : Int) + i := by rw [IntKind.wrap_i64]; omega
    obtain ⟨f1, f2⟩ := FIN.out (i + (n : Int)) (by show _ = _; rw [if_pos y])
    by_cases z : 0 ≤ i + (n : Int)
    · obtain ⟨j, hj⟩ : ∃ j : Nat, (n : Int) + i = j := ⟨(i + (n : Int)).toNat, by omega⟩
      have jn : j < n := by omega
      have F := f1 ⟨z, by omega⟩
      rw [show i + (n : Int) = (j : Int) by omega, Int.toNat_natCast] at F
      rw [hj] at e1
      have e2 : -(n : Int) ≤ i := by omega
      clear f1 f2
      go_enter Tryd.func16, Tryd.ntmps16
      go_wp2_with fail
      refine Calls.mono k0 ?_
      rintro e w1 ⟨b1, a1, c1, rfl, ty⟩
      have B1 := hide b1
      have jn2 : j < ns.length := by have := HN.out; omega
      obtain ⟨g, o, rfl, LT⟩ := ty.resolve_left (by intro e; rw [e] at jn2; simp at jn2)
      have c0 := LT.cell j jn2
      have ea : ns.getD j ⟨#[]⟩ = ns[j] := by simp [List.getD_eq_getElem?_getD, jn2]
      rw [← ea] at c0
      obtain ⟨x, hx⟩ : ∃ x, x = ns.getD j ⟨#[]⟩ := ⟨_, rfl⟩
      rw [← hx] at c0
      have HX := hide hx
      clear b1 ty k0 LT ea hx
      go_wp2_with fail
      go_returns
      exact ⟨by rw [F.out, HX.out]; rfl, B1.out⟩
    · have F := f2 (fun q => z q.1)
      have e2 : ¬ -(n : Int) ≤ i := by omega
      clear f1 f2
      go_enter Tryd.func16, Tryd.ntmps16
      go_wp2_with fail
      refine Calls.mono k0 ?_
      rintro e w1 ⟨b1, a1, c1, rfl, ty⟩
      have B1 := hide b1
      clear b1 ty k0
      go_wp2_with fail
      go_returns
      exact ⟨by rw [F.out]; rfl, B1.out⟩
  · obtain ⟨j, rfl⟩ : ∃ j : Nat, i = j := ⟨i.toNat, by omega⟩
    obtain ⟨f1, f2⟩ := FIN.out (j : Int) (by show _ = _; rw [if_neg y])
    clear i1 i2
    by_cases z : j < n
    · have F := f1 ⟨by omega, by omega⟩
      rw [Int.toNat_natCast] at F
      clear f1 f2
      go_enter Tryd.func16, Tryd.ntmps16
      go_wp2_with fail
      refine Calls.mono k0 ?_
      rintro e w1 ⟨b1, a1, c1, rfl, ty⟩
      have B1 := hide b1
      have jn2 : j < ns.length := by have := HN.out; omega
      obtain ⟨g, o, rfl, LT⟩ := ty.resolve_left (by intro e; rw [e] at jn2; simp at jn2)
      have c0 := LT.cell j jn2
      have ea : ns.getD j ⟨#[]⟩ = ns[j] := by simp [List.getD_eq_getElem?_getD, jn2]
      rw [← ea] at c0
      obtain ⟨x, hx⟩ : ∃ x, x = ns.getD j ⟨#[]⟩ := ⟨_, rfl⟩
      rw [← hx] at c0
      have HX := hide hx
      clear b1 ty k0 LT ea hx
      go_wp2_with fail
      go_returns
      exact ⟨by rw [F.out, HX.out]; rfl, B1.out⟩
    · have F := f2 (fun q => z (by omega))
      clear f1 f2
      go_enter Tryd.func16, Tryd.ntmps16
      go_wp2_with fail
      refine Calls.mono k0 ?_
      rintro e w1 ⟨b1, a1, c1, rfl, ty⟩
      have B1 := hide b1
      clear b1 ty k0
      go_wp2_with fail
      go_returns
      exact ⟨by rw [F.out]; rfl, B1.out⟩
end Go.Proofs.YteahbdhhcfoiiaaDoor
/- name: the reference's matches, Match. -/
namespace Go.Proofs.YteahbdhhcfoiiaaDoor
set_option linter.unusedVariables false
set_option linter.unusedSimpArgs false
open Go.RowKit W
theorem stand_k {g : Gl} (h : standB g = true) : 1 ≤ g.k ∧ g.k ≤ 5 := by
  unfold standB at h
  split at h
  · omega
  split at h
  · omega
  split at h
  · omega
  split at h
  · omega
  · cases h
theorem node_k {gs : List Gl} (h : nodeMay gs = true) : ∀ g ∈ gs, 1 ≤ g.k ∧ g.k ≤ 5 := by
  intro g hg
  unfold nodeMay at h
  rw [Bool.and_eq_true] at h
  obtain ⟨i, hi, rfl⟩ := List.getElem_of_mem hg
  have := List.all_eq_true.1 h.2 i (List.mem_range.2 hi)
  unfold placeB at this
  rw [List.getElem?_eq_getElem hi] at this
  simp only [Bool.and_eq_true] at this
  exact stand_k this.1
theorem may_k {p : List (List Gl)} (h : mayB p = true) : ∀ gs ∈ p, ∀ g ∈ gs, 1 ≤ g.k ∧ g.k ≤ 5 := by
  intro gs hg
  unfold mayB at h
  rw [Bool.and_eq_true] at h
  exact node_k (List.all_eq_true.1 h.2 gs hg)
theorem may_pos {p : List (List Gl)} (h : mayB p = true) : 1 ≤ p.length := by
  unfold mayB at h
  rw [Bool.and_eq_true, Bool.and_eq_true] at h
  simpa using h.1.1
set_option maxRecDepth 100000 in
set_option maxHeartbeats 8000000 in
theorem rmatches_spec (gs : List Gl) (gl : gs.length ≤ 140737488355328) (gw : ∀ g ∈ gs, GlW g) (gk : ∀ g ∈ gs, 1 ≤ g.k ∧ g.k ≤ 5) (s : ByteArray) (hs : s.size ≤ 200) (a : Option Addr) (c : Nat) (w : World) (ha : IsGs w a gs) :
    Calls Tryd.prog 50 #[.slice a gs.length c, .string s] w fun e w' => e = .returned (.bool (mNode gs s)) ∧ Below w.heap.size w w' := by
  have hmk : ∀ w : World, (Instr.makeSlice 93 (.int .i64 ((s.size : Int) + 1)) (.int .i64 ((s.size : Int) + 1))).run Tryd.prog w = .ok (.slice (some ⟨w.heap.size, 0, none⟩) (s.size + 1) (s.size + 1)) (w.alloc (.cells ((List.replicate (s.size + 1) false).map Value.bool).toArray 4)) := by
    intro w
    have := run_make_row' (P := Tryd.prog) 93 4 (.bool false) 1 Tryd.underlying93 info_bool rfl .i64 .i64 (s.size + 1) (by omega) (by omega) w
    rw [made_bools] at this
    rw [show ((s.size : Int) + 1) = ((s.size + 1 : Nat) : Int) by omega]
    exact this
  have HA := hide ha
  have GW := hide gw
  have GK := hide gk
  obtain ⟨m, hm⟩ : ∃ m, m = gs.length := ⟨_, rfl⟩
  have HM := hide hm
  rw [← hm] at gl ⊢
  clear ha gw gk hm
  go_enter Tryd.func50, Tryd.ntmps50
  go_upto_region 2 with (fail)
  refine abs_wp (fun W => Hid (Below w.heap.size w W) ∧ Hid (Bo W w.heap.size (List.replicate (s.size + 1) false))) ⟨hide ((Below.refl _ _).alloc (Nat.le_refl _) _), by show Bo _ _ _; unfold Bo; rw [bo_rep]; exact heap_alloc_new _ _⟩ ?_
  rintro W1 ⟨B1, O1⟩
  have p0 := O1.out.at 0 (by simp)
  have pf := O1.out.free 0
  have pl := blk_lt O1.out
  have S1 : Hid (Bo (W1.setCell ⟨w.heap.size, 0, none⟩ (.bool true)) w.heap.size (foldR s gs 0)) := by show Bo _ _ _; rw [foldR_zero, ← start_set]; exact O1.out.put 0
  go_wp2_with fail
  go_loopw [5, 6] (fun rv i wr => ∃ k rb : Nat, k ≤ m ∧ i = .int .i64 (k : Int) ∧ rv = .slice (some ⟨rb, 0, none⟩) (s.size + 1) (s.size + 1) ∧ w.heap.size ≤ rb ∧ Hid (Below w.heap.size w wr) ∧ Hid (Bo wr rb (foldR s gs k))) (fun _ i _ => m - (intOf i).toNat)
  case atStart => exact ⟨0, w.heap.size, by omega, rfl, rfl, Nat.le_refl _, hide (B1.out.setCell (by simp) _), S1⟩
  case round =>
    obtain ⟨k, rb, hk, rfl, rfl, hrb, B, O⟩ := hrel
    clear S1 p0 pf pl B1 O1
    by_cases hlt : k < m
    · have kg : k < gs.length := by have := HM.out; omega
      obtain ⟨g, o, rfl, LG⟩ := HA.out.resolve_left (by intro e; rw [e] at kg; simp at kg)
      have L1 := LG.later B.out
      have L1H := hide L1
      have gwk := GW.out gs[k] (List.getElem_mem _)
      have gkk := GK.out gs[k] (List.getElem_mem _)
      obtain ⟨R, hR⟩ : ∃ R, R = foldR s gs k := ⟨_, rfl⟩
      rw [← hR] at O
      have HR := hide hR
      have RL : Hid (R.length = s.size + 1) := by show _ = _; rw [hR, foldR_len s gs k (by omega)]
      have lo := blk_lt O.out
      obtain ⟨wo, rfl⟩ : ∃ wo, wo = wr := ⟨_, rfl⟩
      obtain ⟨x, hx⟩ : ∃ x, x = gs[k] := ⟨_, rfl⟩
      have HX := hide hx
      rw [← hx] at gwk gkk
      have GWK := hide gwk
      have GKK := hide gkk
      clear hR L1 LG hx gwk gkk
      go_wp2_with fail
      go_loopw [8] (fun t w4 => ∃ q : Nat, q ≤ s.size + 1 ∧ t = .int .i64 (q : Int) ∧ Hid (Rr wo w4 wo.heap.size s (partR x s R q))) (fun t _ => s.size + 1 - (intOf t).toNat)
      case atStart => exact ⟨0, by omega, rfl, hide ⟨(Below.refl _ _).alloc (Nat.le_refl _) _, by rw [partR_zero]; unfold Bo; rw [bo_rep]; exact heap_alloc_new _ _, partR_len _ _ _ _, Nat.le_refl _⟩⟩
      case round =>
        obtain ⟨q, hq, rfl, R4⟩ := hrel
        by_cases hlt2 : q < s.size + 1
        · have OB : Bo wr rb R := (R4.out.below.block rb lo).trans O.out
          have r0 := OB.at q (by rw [RL.out]; exact hlt2)
          obtain ⟨tt, htt⟩ : ∃ tt, R.getD q false = tt := ⟨_, rfl⟩
          rw [htt] at r0
          cases tt
          · have T5 : Hid (Rr wo wr wo.heap.size s (partR x s R (q + 1))) := by show Rr _ _ _ _ _; rw [partR_skip _ _ _ _ htt]; exact R4.out
            clear htt OB
            go_wp2_with fail
            go_roundw
            case rel => exact ⟨q + 1, by omega, by go_num, T5⟩
            case measure => simp [intOf]; omega
          · obtain ⟨c0, c1, a5, c5, c2, i5, _⟩ := (L1H.out.later R4.out.below).cell k kg
            obtain ⟨_, _, a6, c6, c7, i6, _⟩ := L1H.out.cell k kg
            have e6 : a6 = a5 ∧ c6 = c5 := by
              have := (R4.out.below.cell (p := ⟨g, o + k * 3 + 2, none⟩) L1H.out.lt).trans c7
              rw [c2] at this
              injection this with this
              injection this with h1 h2 h3
              exact ⟨h1.symm, h3.symm⟩
            obtain ⟨rfl, rfl⟩ := e6
            rw [← HX.out] at c0 c1 c2 i6
            have kh := rreach_spec R4.out x GWK.out a6 c6 i6 hs q (by omega) GKK.out
            rw [← partR_add _ _ _ _ htt] at kh
            unfold gV at kh
            have lg := (L1H.out.later R4.out.below).lt
            clear htt OB i5 i6 c7
            go_wp2_with (go_at_call 70; refine Calls.mono kh ?_; rintro e w5 ⟨rfl, t5⟩; have T5 := hide t5; clear t5)
            go_roundw
            case rel => exact ⟨q + 1, by omega, by go_num, T5⟩
            case measure => simp [intOf]; omega
        · obtain rfl : q = s.size + 1 := by omega
          have FR : Hid (foldR s gs (k + 1) = partR x s R (s.size + 1)) := by show _ = _; rw [partR_all, foldR_step s gs k kg, HR.out, HX.out]
          have BO : Hid (Bo wr wo.heap.size (foldR s gs (k + 1))) := by show Bo _ _ _; rw [FR.out]; exact R4.out.bo
          have BW := hide (B.out.trans (R4.out.below.mono B.out.size))
          have zb := B.out.size
          go_wp2_with fail
          go_roundw
          case rel => exact ⟨k + 1, wo.heap.size, by omega, by go_num, rfl, zb, BW, BO⟩
          case measure => simp [intOf]; omega
    · obtain rfl : k = m := by omega
      have F : Hid ((foldR s gs k).getD s.size false = mNode gs s) := by show _ = _; rw [HM.out]; exact foldR_all s gs
      have r0 := O.out.at s.size (by rw [foldR_len s gs k (by rw [HM.out]; exact Nat.le_refl _)]; omega)
      rw [F.out] at r0
      go_wp2_with fail
      go_returns
      exact ⟨rfl, B.out⟩
end Go.Proofs.YteahbdhhcfoiiaaDoor
/- name: the reference's Match. -/
namespace Go.Proofs.YteahbdhhcfoiiaaDoor
set_option linter.unusedVariables false
set_option linter.unusedSimpArgs false
open Go.RowKit W
set_option maxRecDepth 100000 in
set_option maxHeartbeats 8000000 in
theorem rmatch_spec (p : List (List Gl)) (pw : PtW p) (s : ByteArray) (a : Option Addr) (c : Nat) (w : World) (ha : IsPt w a p) :
    Calls Tryd.prog 31 #[.agg #[.slice a p.length c], .string s] w fun e w' => e = .returned (.bool (matB p s)) ∧ Below w.heap.size w w' := by
  obtain ⟨E, hE⟩ : ∃ E, matB p s = E := ⟨_, rfl⟩
  rw [hE]
  have HE := hide hE
  have HA := hide ha
  have PW := hide pw
  have pn := pw.n
  have NS := hide (nodes_size (s := s))
  have nl := nodes_len s
  obtain ⟨ns, hns⟩ : ∃ ns, ns = nodesL s := ⟨_, rfl⟩
  rw [← hns] at NS nl
  have HNS := hide hns
  have km := rmay_spec p pw a c
  have PK := hide (may_k (p := p))
  have PP := hide (may_pos (p := p))
  obtain ⟨n, hn⟩ : ∃ n, n = p.length := ⟨_, rfl⟩
  have HN := hide hn
  rw [← hn] at pn km PP ⊢
  have k0 := rnodes_spec s (w.alloc (.cells #[.slice a n c] 33))
  unfold RNodesRes at k0
  rw [← hns] at k0
  obtain ⟨z, hz⟩ : ∃ z, z = ns.length := ⟨_, rfl⟩
  have HZ := hide hz
  rw [← hz] at k0 nl
  clear hE ha pw hns hn hz
  go_enter Tryd.func31, Tryd.ntmps31
  go_wp2_with fail
  refine Calls.mono k0 ?_
  rintro e w1 ⟨b1, a1, c1, rfl, ty⟩
  have TY := hide ty
  have B1 : Hid (Below w.heap.size w w1) := ((Below.refl _ _).alloc (Nat.le_refl _) _).trans (b1.mono (by simp))
  have q0 : w1.cell? ⟨w.heap.size, 0, none⟩ = some (.slice a n c) := (b1.cell (p := ⟨w.heap.size, 0, none⟩) (by simp)).trans (by simp [go_sem])
  have ql : w.heap.size < w1.heap.size := Nat.lt_of_lt_of_le (by simp) b1.size
  clear b1 ty k0
  have kmay := km w1 (HA.out.later B1.out)
  obtain ⟨t, ht⟩ : ∃ t, mayB p = t := ⟨_, rfl⟩
  rw [ht] at kmay PK PP
  have HT := hide ht
  clear ht km
  cases t
  · have F : Hid (E = false) := by
      show _ = _
      have := HE.out; rw [← this]; unfold matB
      rw [HT.out]; simp
    go_wp2_with (go_at_call 47; refine Calls.mono kmay ?_; rintro e w2 ⟨rfl, b2⟩; have B2 := hide b2; clear b2)
    go_returns
    exact ⟨by rw [F.out]; rfl, B1.out.trans (B2.out.mono (by omega))⟩
  have n1 := PP.out rfl
  have PK2 := hide (PK.out rfl)
  by_cases y1 : z = n
  · subst y1
    have z0 : ((z : Int) == 0) = false := by rw [beq_eq_false_iff_ne]; omega
    have z00 : (z == 0) = false := by rw [beq_eq_false_iff_ne]; omega
    have H1 : Hid (E = (List.range p.length).all fun i => mNode (p.getD i []) (ns.getD i ⟨#[]⟩)) := by
      show _ = _
      have := HE.out; rw [← this]; unfold matB
      rw [← HNS.out, HT.out, ← HN.out, ← HZ.out]; simp
    go_wp2_with (go_at_call 47; refine Calls.mono kmay ?_; rintro e w2 ⟨rfl, b2⟩; have B2 : Hid (Below w.heap.size w w2) := B1.out.trans (b2.mono (by omega)); have q2 : w2.cell? ⟨w.heap.size, 0, none⟩ = some (.slice a z c) := (b2.cell (p := ⟨w.heap.size, 0, none⟩) ql).trans q0; have ql2 : w.heap.size < w2.heap.size := Nat.lt_of_lt_of_le ql b2.size; have TY2 := hide (TY.out.later b2); clear b2 q0)
    go_loopw [6] (fun i wr => ∃ k : Nat, k ≤ z ∧ i = .int .i64 (k : Int) ∧ Hid (Below w2.heap.size w2 wr) ∧ Hid (∀ j, j < k → mNode (p.getD j []) (ns.getD j ⟨#[]⟩) = true)) (fun i _ => z - (intOf i).toNat)
    case atStart => exact ⟨0, by omega, rfl, hide (Below.refl _ _), hide (fun j h => absurd h (Nat.not_lt_zero _))⟩
    case round =>
      obtain ⟨k, hk, rfl, B, D⟩ := hrel
      by_cases hlt : k < z
      · have kp : k < p.length := by have := HN.out; omega
        have kn : k < ns.length := by have := HZ.out; omega
        have BW := hide (B2.out.trans (B.out.mono B2.out.size))
        obtain ⟨g, o, rfl, LN⟩ := HA.out.resolve_left (by intro e; rw [e] at kp; simp at kp)
        obtain ⟨g2, o2, rfl, LT⟩ := TY2.out.resolve_left (by intro e; rw [e] at kn; simp at kn)
        have d0 := (LT.later B.out).cell k kn
        have d1 := (B.out.cell (p := ⟨w.heap.size, 0, none⟩) ql2).trans q2
        obtain ⟨b, cc, e0, e1, _⟩ := (LN.later BW.out).cell k kp
        have lg := (LN.later BW.out).lt
        have lg2 := (LT.later B.out).lt
        have kx := fun W (h : Below wr.heap.size wr W) => rmatches_spec p[k] (PW.out.m _ (List.getElem_mem _)) (PW.out.g _ (List.getElem_mem _)) (PK2.out _ (List.getElem_mem _)) ns[k] (NS.out _ (List.getElem_mem _)) b cc W (e1.later h)
        have ea : p.getD k [] = p[k] := by simp [List.getD_eq_getElem?_getD, kp]
        have eb : ns.getD k ⟨#[]⟩ = ns[k] := by simp [List.getD_eq_getElem?_getD, kn]
        rw [← ea, ← eb] at kx
        rw [← eb] at d0
        rw [← ea] at e0
        obtain ⟨x, hx⟩ : ∃ x, x = ns.getD k ⟨#[]⟩ := ⟨_, rfl⟩
        obtain ⟨y, hy⟩ : ∃ y, y = p.getD k [] := ⟨_, rfl⟩
        rw [← hx] at d0 kx
        rw [← hy] at e0 kx
        obtain ⟨t, ht⟩ : ∃ t, mNode y x = t := ⟨_, rfl⟩
        rw [ht] at kx
        have HT2 : Hid (mNode (p.getD k []) (ns.getD k ⟨#[]⟩) = t) := by show _ = _; rw [← hx, ← hy]; exact ht
        have zl := B.out.size
        have zl2 := B2.out.size
        have lw : w.heap.size < wr.heap.size := by omega
        clear ht hx hy ea eb e1 LN LT
        cases t
        · have F : Hid (E = false) := by
            show _ = _; rw [H1.out]; exact all_no (k := k) kp HT2.out
          go_wp2_with fail
          go_region_held3 (fun w' => w'.cell? ⟨w.heap.size, 0, none⟩ = some (.slice (some ⟨g, o, none⟩) z c) ∧ w'.cell? ⟨g, o + k, none⟩ = some (.slice b y.length cc) ∧ w'.cell? ⟨g2, o2 + k, none⟩ = some (.string x))
            (first | exact ⟨d1, e0, d0⟩ | exact Z3)
            (first | (go_at_call 50; (with_reducible refine Calls.mono (kx _ (by first | exact (Below.refl _ _).drew | exact below_drewN (Below.refl _ _) _)) ?_); rintro e w3 ⟨rfl, b3⟩; have B3 := hide (((Below.refl wr.heap.size wr).drew).trans (b3.mono (by simp))); have Z3 := And.intro ((B3.out.cell (p := ⟨w.heap.size, 0, none⟩) lw).trans d1) (And.intro ((B3.out.cell (p := ⟨g, o + k, none⟩) lg).trans e0) ((B3.out.cell (p := ⟨g2, o2 + k, none⟩) lg2).trans d0)); clear b3))
          all_goals
            go_wp2_with fail
            go_returns
            exact ⟨by rw [F.out]; rfl, BW.out.trans (B3.out.mono (by omega))⟩
        · have D2 : Hid (∀ j, j < k + 1 → mNode (p.getD j []) (ns.getD j ⟨#[]⟩) = true) := by
            intro j hj
            by_cases q : j < k
            · exact D.out j q
            · obtain rfl : j = k := by omega
              exact HT2.out
          go_wp2_with fail
          go_region_held3 (fun w' => w'.cell? ⟨w.heap.size, 0, none⟩ = some (.slice (some ⟨g, o, none⟩) z c) ∧ w'.cell? ⟨g, o + k, none⟩ = some (.slice b y.length cc) ∧ w'.cell? ⟨g2, o2 + k, none⟩ = some (.string x))
            (first | exact ⟨d1, e0, d0⟩ | exact Z3)
            (first | (go_at_call 50; (with_reducible refine Calls.mono (kx _ (by first | exact (Below.refl _ _).drew | exact below_drewN (Below.refl _ _) _)) ?_); rintro e w3 ⟨rfl, b3⟩; have B3 := hide (((Below.refl wr.heap.size wr).drew).trans (b3.mono (by simp))); have Z3 := And.intro ((B3.out.cell (p := ⟨w.heap.size, 0, none⟩) lw).trans d1) (And.intro ((B3.out.cell (p := ⟨g, o + k, none⟩) lg).trans e0) ((B3.out.cell (p := ⟨g2, o2 + k, none⟩) lg2).trans d0)); clear b3))
          all_goals
            go_wp2_with fail
            go_roundw
            case rel => exact ⟨k + 1, by omega, by go_num, hide (B.out.trans (B3.out.mono zl)), D2⟩
            case measure => simp [intOf]; omega
      · obtain rfl : k = z := by omega
        have F : Hid (E = true) := by
          show _ = _; rw [H1.out]; exact all_yes (fun i hi => D.out i (by have := HN.out; omega))
        have BW := hide (B2.out.trans (B.out.mono B2.out.size))
        go_wp2_with fail
        go_returns
        exact ⟨by rw [F.out]; rfl, BW.out⟩
  · have F : Hid (E = false) := by
      show _ = _
      have := HE.out; rw [← this]; unfold matB
      rw [← HNS.out, decide_eq_false (by rw [← HZ.out, ← HN.out]; exact y1)]; rfl
    have y2 : ((z : Int) == (n : Int)) = false := by rw [beq_eq_false_iff_ne]; omega
    have y3 : (z == n) = false := by rw [beq_eq_false_iff_ne]; omega
    go_wp2_with (go_at_call 47; refine Calls.mono kmay ?_; rintro e w2 ⟨rfl, b2⟩; have B2 := hide b2; have q2 : w2.cell? ⟨w.heap.size, 0, none⟩ = some (.slice a n c) := (b2.cell (p := ⟨w.heap.size, 0, none⟩) ql).trans q0; clear b2)
    go_returns
    exact ⟨by rw [F.out]; rfl, B1.out.trans (B2.out.mono (by omega))⟩
end Go.Proofs.YteahbdhhcfoiiaaDoor
/- A contract that leans on the world's shape and on what is laid: lifted. -/
namespace Go.Proofs.YteahbdhhcfoiiaaDoor
set_option linter.unusedVariables false
variable {H : Type} {enc : TypeId × Value → H}
theorem handed_shaped {a : Assume} {C : Checked} {os : Os} {f : FuncId} {fn : Func} {s : ChangeSpec} {conds : List PathCond} {apart fresh handsOn again : Bool} {X : World → Array Value → Prop}
    (hX : ∀ (w w' : World) (args : Array Value), w.heap = w'.heap → X w args → X w' args)
    (own : ownKnob C.prog.godebug = none) (started : os.Started) (noInit : C.prog.inits.idxOf? f = none) (hfn : C.prog.funcs[f]? = some fn)
    (witness : ∃ (w : World) (tape : Tape) (i : Input), w.os = os ∧ (w.forCall tape i).Shaped C.prog ∧ i.vars = [] ∧ Input.okWide C.prog (w.forCall tape i) .any w.heap.size f i ∧
      ((s.pre enc C.prog fn conds apart (w.forCall tape i).memory i.args ∧ X (w.forCall tape i).memory i.args) ∧ sizedMet enc C.prog fn (OpenSpec.ofChange s) apart (w.forCall tape i).memory i.args) ∧ a.holds C.prog (lone (Frame.enter C.prog f i.args .normal) [] (w.forCall tape i)))
    (contract : ∀ (W : World) (base : Nat) (args : Array Value) (ds gs : List (DataW H)) (before : List MemPlace),
      (∀ (j : Nat) t v, fn.params[j]? = some t → args[j]? = some v → Value.okWide C.prog W .any base t v) →
      DataW.Whole enc C.prog fn.params.toList s.vars apart W args.toList ds gs before →
      conds.all (PathCond.test C.prog ⟨fn.params.toList, ds, s.plain.varTypes C.prog, gs⟩) = true →
      (DataW.weightsEach C.prog (fn.params.toList ++ s.plain.varTypes C.prog) (ds ++ gs)).all (· ≤ reachBytes) = true → X W args → W.ShapedOpen C.prog →
      a.holds C.prog (lone (Frame.enter C.prog f args .normal) [] W) →
      Calls C.prog f args W fun e W' => ∃ v, e = .returned v ∧ s.post enc C.prog fn apart fresh handsOn again W args v W') :
    ReturnsInHanded a C os f .any (fun w args => (s.pre enc C.prog fn conds apart w args ∧ X w args) ∧ sizedMet enc C.prog fn (OpenSpec.ofChange s) apart w args) (s.post enc C.prog fn apart fresh handsOn again) := by
  refine returnsInHanded_of_calls own started noInit witness ?_
  intro w tape i _ hsh _ hok hpre hholds
  obtain ⟨_, _, _, fn', hfn', _, _, _, _, hval⟩ := hok
  obtain rfl : fn' = fn := Option.some.inj (hfn'.symm.trans hfn)
  obtain ⟨⟨⟨ds, gs, before, hw, hc⟩, hx⟩, hz⟩ := hpre
  refine (contract (w.forCall tape i) w.heap.size i.args ds gs before hval (DataW.Whole.of_heap (w' := w.forCall tape i) (by rfl) hw) hc (hz.weights hw) (hX _ _ _ (by rfl) hx) hsh hholds).mono fun e W' ⟨v, he, hp⟩ => ?_
  subst he
  exact ChangeSpec.post_blind hp
end Go.Proofs.YteahbdhhcfoiiaaDoor
/- NameNames: the law's walk. -/
namespace Go.Proofs.YteahbdhhcfoiiaaDoor
set_option linter.unusedVariables false
set_option linter.unusedSimpArgs false
open Go.RowKit W
theorem gm_at {W : World} (h : W.ShapedOpen Tryd.prog) : ∃ m, GM m W := Tryd.laysM146.s1_3 W h
set_option maxRecDepth 100000 in
set_option maxHeartbeats 8000000 in
theorem law_NameNames (s : ByteArray) (i : Int) (hs : s.size ≤ 140737488351232) (hi : (Lit.int .i64 i).wf = true) (W : World) (hsh : W.ShapedOpen Tryd.prog) :
    Calls Tryd.prog 3 #[.string s, .int .i64 i] W fun e w' => e = .returned (.bool true) ∧ Below W.heap.size W w' := by
  obtain ⟨mx, gm⟩ := gm_at hsh
  have hI := hi_of_wf hi
  have k1 := node_at_spec s i hI mx W gm
  have k2 := fun w => rnode_at_spec s i hI w
  have kv := fun w => valid_spec s w
  have kr := fun w => rvalid_spec s w
  have GMH := hide gm
  have NL := hide (nodes_len s)
  have ns := nodes_spec s mx
  have rs := rnodes_spec s
  unfold NodesRes at ns
  unfold RNodesRes at rs
  have ks := fun a b c d w ha hb => same_texts (nodesL s) a b c d w ha hb (by have := NL.out; omega)
  obtain ⟨N, hN⟩ : ∃ N, N = nodesL s := ⟨_, rfl⟩
  rw [← hN] at k1 k2 ns rs ks NL
  obtain ⟨⟨x, t⟩, hx⟩ : ∃ q, nodeAt N i = q := ⟨_, rfl⟩
  rw [hx] at k1 k2
  obtain ⟨v, hv⟩ : ∃ v, validN s.data.toList = v := ⟨_, rfl⟩
  rw [hv] at kv kr
  obtain ⟨n, hn⟩ : ∃ n, n = N.length := ⟨_, rfl⟩
  rw [← hn] at ns rs ks
  have st := str_eql_same x
  clear hsh hI hi gm hN hx hv hn
  go_enter Tryd.func3, Tryd.ntmps3
  go_wp2_with fail
  refine Calls.mono k1 ?_
  rintro e w1 ⟨rfl, b1⟩
  have B1 := hide b1
  clear b1 k1
  go_wp2_with fail
  refine Calls.mono (k2 _) ?_
  rintro e w2 ⟨rfl, b2⟩
  have B2 := hide (B1.out.trans (b2.mono B1.out.size))
  clear b2 k2
  go_wp2_with fail
  refine (kv _).mono ?_
  rintro e w' ⟨rfl, rfl⟩
  go_wp2_with fail
  refine Calls.mono (kr _) ?_
  rintro e w3 ⟨rfl, b3⟩
  have B3 := hide (B2.out.trans (b3.mono B2.out.size))
  clear b3 kr kv
  go_wp2_with fail
  all_goals
    refine Calls.mono (ns _ (GMH.out.later B3.out)) ?_
    rintro e w4 ⟨b4, a4, c4, rfl, ty4, lc4⟩
    have B4 := hide (B3.out.trans (b4.mono B3.out.size))
    have T4 := hide ty4.is
    clear b4 ty4 lc4
    go_wp2_with fail
    refine Calls.mono (rs _) ?_
    rintro e w5 ⟨b5, a5, c5, rfl, ty5⟩
    have B5 := hide (B4.out.trans (b5.mono B4.out.size))
    have T4b := hide (T4.out.later b5)
    have T5 := hide ty5
    clear b5 ty5
    go_wp2_with fail
    refine Calls.mono (ks _ _ _ _ _ T4b.out T5.out) ?_
    rintro e w6 ⟨rfl, n6, rfl⟩
    go_wp2_with fail
    have B6 := hide (below_drewN B5.out n6)
    refine Calls.mono (alive_spec mx _ (GMH.out.later B6.out)) ?_
    rintro e w7 ⟨rfl, b7⟩
    have B7 := hide (B6.out.trans (b7.mono B6.out.size))
    clear b7
    go_wp2_with fail
    go_returns
    exact ⟨rfl, B7.out⟩
end Go.Proofs.YteahbdhhcfoiiaaDoor
/- NameMatches: the law's walk. -/
namespace Go.Proofs.YteahbdhhcfoiiaaDoor
set_option linter.unusedVariables false
set_option linter.unusedSimpArgs false
open Go.RowKit W
/-- A pattern's box, and the world behind it. -/
structure Kp (W : World) (a : Option Addr) (n c : Nat) (w' : World) : Prop where
  cell : w'.cell? ⟨W.heap.size, 0, none⟩ = some (.slice a n c)
  below : Below W.heap.size W w'
  lt : W.heap.size < w'.heap.size
theorem Kp.drew {W : World} {a : Option Addr} {n c : Nat} {w' : World} (h : Kp W a n c w') : Kp W a n c w'.drew := ⟨h.cell, h.below.drew, h.lt⟩
theorem Kp.call {W : World} {a : Option Addr} {n c : Nat} {X Y : World} (h : Kp W a n c X) (b : Below X.heap.size X Y) : Kp W a n c Y :=
  ⟨(b.cell (p := ⟨W.heap.size, 0, none⟩) h.lt).trans h.cell, h.below.trans (b.mono h.below.size), Nat.lt_of_lt_of_le h.lt b.size⟩
set_option maxRecDepth 100000 in
set_option maxHeartbeats 8000000 in
theorem law_NameMatches (a : Option Addr) (c : Nat) (p : List (List Gl)) (s : ByteArray) (pw : PtW p) (hs : s.size ≤ 140737488351232) (W : World) (hsh : W.ShapedOpen Tryd.prog) (ha : IsPt W a p) :
    Calls Tryd.prog 7 #[.agg #[.slice a p.length c], .string s] W fun e w' => e = .returned (.bool true) ∧ Below W.heap.size W w' := by
  obtain ⟨mx, gm⟩ := gm_at hsh
  have k1 := fun w' (h : Kp W a p.length c w') => match_spec p pw s mx a c w' (ha.later h.below) (gm.later h.below)
  have k2 := fun w' (h : Kp W a p.length c w') => rmatch_spec p pw s a c w' (ha.later h.below)
  have k3 := fun w' (h : Kp W a p.length c w') => alive_spec mx w' (gm.later h.below)
  have pn := pw.n
  obtain ⟨t, ht⟩ : ∃ t, matB p s = t := ⟨_, rfl⟩
  rw [ht] at k1 k2
  obtain ⟨n, hn⟩ : ∃ n, n = p.length := ⟨_, rfl⟩
  rw [← hn] at k1 k2 k3 pn ⊢
  have K0 : Kp W a n c (W.alloc (.cells #[.slice a n c] 33)) := ⟨by simp [go_sem], (Below.refl _ _).alloc (Nat.le_refl _) _, by simp⟩
  clear ht hn gm hsh ha pw hs
  go_enter Tryd.func7, Tryd.ntmps7
  go_wp2_with fail
  cases t
  all_goals
    go_region_held3 (fun w' => w'.cell? ⟨W.heap.size, 0, none⟩ = some (.slice a n c) ∧ Kp W a n c w')
      ((refine (fun K => ⟨Kp.cell K, K⟩) (?_ : Kp W a n c _); (first | assumption | exact K0.drew)))
      (first
      | (go_at_call 30; (with_reducible refine Calls.mono (k1 _ (by first | assumption | exact K0.drew)) ?_); rintro e w5 ⟨rfl, b5⟩; have K5 := Kp.call (by first | assumption | exact K0.drew) b5; clear b5)
      | (go_at_call 31; (with_reducible refine Calls.mono (k2 _ (by first | assumption | exact K0.drew)) ?_); rintro e w6 ⟨rfl, b6⟩; have K6 := Kp.call (by first | assumption | exact K0.drew) b6; clear b6)
      | (go_at_call 22; (with_reducible refine Calls.mono (k3 _ (by first | assumption | exact K0.drew)) ?_); rintro e w7 ⟨rfl, b7⟩; have K7 := Kp.call (by first | assumption | exact K0.drew) b7; clear b7))
    all_goals
      go_wp2_with fail
      go_returns
      exact ⟨rfl, by first | exact K7.below | exact K6.below | exact K5.below⟩
end Go.Proofs.YteahbdhhcfoiiaaDoor
