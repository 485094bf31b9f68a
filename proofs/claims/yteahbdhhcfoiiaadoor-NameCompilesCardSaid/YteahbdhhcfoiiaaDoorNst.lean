/- name: lists of texts held against one another; Node on both sides. -/
import Derived.Test.YteahbdhhcfoiiaaDoorNmt
import Derived.Test.YteahbdhhcfoiiaaDoorStrq
import Derived.Test.YteahbdhhcfoiiaaDoorRvalidb
namespace Go.Proofs.YteahbdhhcfoiiaaDoor
set_option linter.unusedVariables false
set_option linter.unusedSimpArgs false
open Go.RowKit W
theorem map_lst_inj {xs ys : List ByteArray} (h : xs.map lst = ys.map lst) : xs = ys := by
  induction xs generalizing ys with
  | nil => cases ys with | nil => rfl | cons y ys => cases h
  | cons x xs ih => cases ys with
    | nil => cases h
    | cons y ys => rw [List.map_cons, List.map_cons] at h; injection h with h1 h2; rw [lst_inj h1, ih h2]
set_option maxRecDepth 100000 in
set_option maxHeartbeats 4000000 in
theorem same_texts (xs : List ByteArray) (a b : Option Addr) (c d : Nat) (w : World) (ha : IsTxts w a xs) (hb : IsTxts w b xs) (hn : xs.length ≤ 140737488355328) :
    Calls Tryd.prog 19 #[.slice a xs.length c, .slice b xs.length d] w fun e w' => e = .returned (.bool true) ∧ ∃ n, w' = w.drewN n := by
  have HA := hide ha
  have HB := hide hb
  obtain ⟨n, hnn⟩ : ∃ n, n = xs.length := ⟨_, rfl⟩
  have HN := hide hnn
  rw [← hnn] at hn ⊢
  clear ha hb hnn
  go_enter Tryd.func19, Tryd.ntmps19
  go_wp2_with fail
  go_loopw [5] (fun i wr => ∃ k : Nat, k ≤ n ∧ i = .int .i64 (k : Int) ∧ Hid (∃ m, wr = w.drewN m)) (fun i _ => n - (intOf i).toNat)
  case atStart => exact ⟨0, by omega, rfl, hide ⟨0, rfl⟩⟩
  case round =>
    obtain ⟨k, hk, rfl, M⟩ := hrel
    by_cases hlt : k < n
    · have kx : k < xs.length := by have := HN.out; omega
      obtain ⟨g, o, rfl, LA⟩ := HA.out.resolve_left (by intro e; rw [e] at kx; simp at kx)
      obtain ⟨g2, o2, rfl, LB⟩ := HB.out.resolve_left (by intro e; rw [e] at kx; simp at kx)
      obtain ⟨m, hm⟩ := M.out
      have c0 : wr.cell? ⟨g, o + k, none⟩ = some (.string xs[k]) := by rw [hm]; exact LA.cell k kx
      have c1 : wr.cell? ⟨g2, o2 + k, none⟩ = some (.string xs[k]) := by rw [hm]; exact LB.cell k kx
      obtain ⟨x, hx⟩ : ∃ x, x = xs[k] := ⟨_, rfl⟩
      rw [← hx] at c0 c1
      have ne := str_neq_same x
      clear hx hm LA LB
      go_wp2_with fail
      go_quiet (fail)
      go_wp2_with fail
      go_roundw
      case rel => exact ⟨k + 1, by omega, by go_num, by obtain ⟨m, rfl⟩ := M.out; exact hide ⟨_, World.drewN_drewN ..⟩⟩
      case measure => simp [intOf]; omega
    · obtain rfl : k = n := by omega
      go_wp2_with fail
      go_returns
      exact ⟨rfl, M.out⟩
def RNodesRes (w : World) (s : ByteArray) (e : Ending) (w' : World) : Prop :=
  Below w.heap.size w w' ∧ ∃ a c, e = .returned (.slice a (nodesL s).length c) ∧ IsTxts w' a (nodesL s)
set_option maxRecDepth 100000 in
set_option maxHeartbeats 4000000 in
theorem rnodes_spec (s : ByteArray) (w : World) : Calls Tryd.prog 21 #[.string s] w (RNodesRes w s) := by
  have kv := rvalid_spec s w
  rw [show s.data.toList = lst s from rfl] at kv
  obtain ⟨t, ht⟩ : ∃ t, validN (lst s) = t := ⟨_, rfl⟩
  rw [ht] at kv
  cases t
  · have N := hide (nodesL_no ht)
    clear ht
    go_enter Tryd.func21, Tryd.ntmps21
    go_wp2_with fail
    refine Calls.mono kv ?_
    rintro e w1 ⟨rfl, b1⟩
    have B1 := hide b1
    clear b1
    go_wp2_with fail
    go_returns
    exact ⟨B1.out, none, 0, by rw [N.out]; rfl, .inl N.out⟩
  · have sz := valid_size ht
    have kc := fun w => cut3_spec s (by omega) w
    have NY := hide (nodesL_yes ht)
    clear ht
    go_enter Tryd.func21, Tryd.ntmps21
    go_wp2_with fail
    refine Calls.mono kv ?_
    rintro e w1 ⟨rfl, b1⟩
    have B1 := hide b1
    clear b1
    go_wp2_with fail
    refine Calls.mono (kc _) ?_
    rintro e w2 ⟨v, ps, rfl, hps, own⟩
    have e1 : ps = nodesL s := map_lst_inj (hps.trans NY.out.symm)
    subst e1
    obtain ⟨a, c, rfl, ta⟩ := own.is
    have TA := hide ta
    have B2 := hide (B1.out.trans (own.below.mono B1.out.size))
    clear own hps ta
    go_wp2_with fail
    go_returns
    exact ⟨B2.out, _, _, rfl, TA.out⟩
/-- A name's i-th node, from the end if i is below 0. -/
def nodeAt (ns : List ByteArray) (i : Int) : ByteArray × Bool :=
  let j := if i < 0 then i + ns.length else i
  if 0 ≤ j ∧ j < ns.length then (ns.getD j.toNat ⟨#[]⟩, true) else (⟨#[]⟩, false)
set_option maxRecDepth 100000 in
set_option maxHeartbeats 4000000 in
theorem node_at_spec (s : ByteArray) (i : Int) (hi : IsHi i) (m : Int) (w : World) (gm : GM m w) : Calls Tryd.prog 15 #[.string s, .int .i64 i] w fun e w' =>
    e = .returned (.tuple #[.string (nodeAt (nodesL s) i).1, .bool (nodeAt (nodesL s) i).2]) ∧ Below w.heap.size w w' := by
  have k0 := nodes_spec s m w gm
  unfold NodesRes at k0
  obtain ⟨ns, hns⟩ : ∃ ns, ns = nodesL s := ⟨_, rfl⟩
  rw [← hns] at k0 ⊢
  have nl : ns.length ≤ 201 := by rw [hns]; exact nodes_len s
  obtain ⟨n, hn⟩ : ∃ n, n = ns.length := ⟨_, rfl⟩
  rw [← hn] at k0 nl
  obtain ⟨E, hE⟩ : ∃ E, nodeAt ns i = E := ⟨_, rfl⟩
  rw [hE]
  have HE := hide hE
  have HN := hide hn
  obtain ⟨i1, i2⟩ := hi
  clear hE hn hns gm
  have fin : ∀ j : Int, Hid (j = if i < 0 then i + (n : Int) else i) → (0 ≤ j ∧ j < (n : Int) → Hid (E = (ns.getD j.toNat ⟨#[]⟩, true))) ∧ (¬ (0 ≤ j ∧ j < (n : Int)) → Hid (E = (⟨#[]⟩, false))) := by
    intro j hj
    have := HE.out
    unfold nodeAt at this
    rw [← HN.out] at this
    simp only at this
    rw [← hj.out] at this
    exact ⟨fun q => by show _ = _; rw [← this, if_pos q], fun q => by show _ = _; rw [← this, if_neg q]⟩
  have FIN := hide fin
  clear fin
  by_cases y : i < 0
  · have e1 : IntKind.i64.wrap (i + (n : Int)) = i + (n : Int) := by rw [IntKind.wrap_i64]; omega
    obtain ⟨f1, f2⟩ := FIN.out (i + (n : Int)) (by show _ = _; rw [if_pos y])
    by_cases z : 0 ≤ i + (n : Int)
    · obtain ⟨j, hj⟩ : ∃ j : Nat, i + (n : Int) = j := ⟨(i + (n : Int)).toNat, by omega⟩
      have jn : j < n := by omega
      have F := f1 ⟨z, by omega⟩
      rw [show i + (n : Int) = (j : Int) by omega, Int.toNat_natCast] at F
      rw [hj] at e1
      clear f1 f2
      go_enter Tryd.func15, Tryd.ntmps15
      go_wp2_with fail
      refine Calls.mono k0 ?_
      rintro e w1 ⟨b1, a1, c1, rfl, ty, lc⟩
      have B1 := hide b1
      have jn2 : j < ns.length := by have := HN.out; omega
      obtain ⟨g, o, rfl, LT⟩ := ty.is.resolve_left (by intro e; rw [e] at jn2; simp at jn2)
      have c0 := LT.cell j jn2
      have ea : ns.getD j ⟨#[]⟩ = ns[j] := by simp [List.getD_eq_getElem?_getD, jn2]
      rw [← ea] at c0
      obtain ⟨x, hx⟩ : ∃ x, x = ns.getD j ⟨#[]⟩ := ⟨_, rfl⟩
      rw [← hx] at c0
      have HX := hide hx
      clear b1 ty lc k0 LT ea hx
      go_wp2_with fail
      go_returns
      exact ⟨by rw [F.out, HX.out]; rfl, B1.out⟩
    · have F := f2 (fun q => z q.1)
      clear f1 f2
      go_enter Tryd.func15, Tryd.ntmps15
      go_wp2_with fail
      refine Calls.mono k0 ?_
      rintro e w1 ⟨b1, a1, c1, rfl, ty, lc⟩
      have B1 := hide b1
      clear b1 ty lc k0
      go_wp2_with fail
      go_returns
      exact ⟨by rw [F.out]; rfl, B1.out⟩
  · obtain ⟨j, rfl⟩ : ∃ j : Nat, i = j := ⟨i.toNat, by omega⟩
    obtain ⟨f1, f2⟩ := FIN.out (j : Int) (by show _ = _; rw [if_neg y])
    clear i1 i2
    by_cases z : j < n
    · have F := f1 ⟨by omega, by omega⟩
      rw [Int.toNat_natCast] at F
      clear f1 f2
      go_enter Tryd.func15, Tryd.ntmps15
      go_wp2_with fail
      refine Calls.mono k0 ?_
      rintro e w1 ⟨b1, a1, c1, rfl, ty, lc⟩
      have B1 := hide b1
      have jn2 : j < ns.length := by have := HN.out; omega
      obtain ⟨g, o, rfl, LT⟩ := ty.is.resolve_left (by intro e; rw [e] at jn2; simp at jn2)
      have c0 := LT.cell j jn2
      have ea : ns.getD j ⟨#[]⟩ = ns[j] := by simp [List.getD_eq_getElem?_getD, jn2]
      rw [← ea] at c0
      obtain ⟨x, hx⟩ : ∃ x, x = ns.getD j ⟨#[]⟩ := ⟨_, rfl⟩
      rw [← hx] at c0
      have HX := hide hx
      clear b1 ty lc k0 LT ea hx
      go_wp2_with fail
      go_returns
      exact ⟨by rw [F.out, HX.out]; rfl, B1.out⟩
    · have F := f2 (fun q => z (by omega))
      clear f1 f2
      go_enter Tryd.func15, Tryd.ntmps15
      go_wp2_with fail
      refine Calls.mono k0 ?_
      rintro e w1 ⟨b1, a1, c1, rfl, ty, lc⟩
      have B1 := hide b1
      clear b1 ty lc k0
      go_wp2_with fail
      go_returns
      exact ⟨by rw [F.out]; rfl, B1.out⟩
set_option maxRecDepth 100000 in
set_option maxHeartbeats 4000000 in
theorem rnode_at_spec (s : ByteArray) (i : Int) (hi : IsHi i) (w : World) : Calls Tryd.prog 16 #[.string s, .int .i64 i] w fun e w' =>
    e = .returned (.tuple #[.string (nodeAt (nodesL s) i).1, .bool (nodeAt (nodesL s) i).2]) ∧ Below w.heap.size w w' := by
  have k0 := rnodes_spec s w
  unfold RNodesRes at k0
  obtain ⟨ns, hns⟩ : ∃ ns, ns = nodesL s := ⟨_, rfl⟩
  rw [← hns] at k0 ⊢
  have nl : ns.length ≤ 201 := by rw [hns]; exact nodes_len s
  obtain ⟨n, hn⟩ : ∃ n, n = ns.length := ⟨_, rfl⟩
  rw [← hn] at k0 nl
  obtain ⟨E, hE⟩ : ∃ E, nodeAt ns i = E := ⟨_, rfl⟩
  rw [hE]
  have HE := hide hE
  have HN := hide hn
  obtain ⟨i1, i2⟩ := hi
  clear hE hn hns
  have fin : ∀ j : Int, Hid (j = if i < 0 then i + (n : Int) else i) → (0 ≤ j ∧ j < (n : Int) → Hid (E = (ns.getD j.toNat ⟨#[]⟩, true))) ∧ (¬ (0 ≤ j ∧ j < (n : Int)) → Hid (E = (⟨#[]⟩, false))) := by
    intro j hj
    have := HE.out
    unfold nodeAt at this
    rw [← HN.out] at this
    simp only at this
    rw [← hj.out] at this
    exact ⟨fun q => by show _ = _; rw [← this, if_pos q], fun q => by show _ = _; rw [← this, if_neg q]⟩
  have FIN := hide fin
  clear fin
  by_cases y : i < 0
  · have e1 : IntKind.i64.wrap ((n : Int) + i) = (n : Int) + i := by rw [IntKind.wrap_i64]; omega
    obtain ⟨f1, f2⟩ := FIN.out (i + (n : Int)) (by show _ = _; rw [if_pos y])
    by_cases z : 0 ≤ i + (n : Int)
    · obtain ⟨j, hj⟩ : ∃ j : Nat, (n : Int) + i = j := ⟨(i + (n : Int)).toNat, by omega⟩
      have jn : j < n := by omega
      have F := f1 ⟨z, by omega⟩
      rw [show i + (n : Int) = (j : Int) by omega, Int.toNat_natCast] at F
      rw [hj] at e1
      have e2 : -(n : Int) ≤ i := by omega
      clear f1 f2
      go_enter Tryd.func16, Tryd.ntmps16
      go_wp2_with fail
      refine Calls.mono k0 ?_
      rintro e w1 ⟨b1, a1, c1, rfl, ty⟩
      have B1 := hide b1
      have jn2 : j < ns.length := by have := HN.out; omega
      obtain ⟨g, o, rfl, LT⟩ := ty.resolve_left (by intro e; rw [e] at jn2; simp at jn2)
      have c0 := LT.cell j jn2
      have ea : ns.getD j ⟨#[]⟩ = ns[j] := by simp [List.getD_eq_getElem?_getD, jn2]
      rw [← ea] at c0
      obtain ⟨x, hx⟩ : ∃ x, x = ns.getD j ⟨#[]⟩ := ⟨_, rfl⟩
      rw [← hx] at c0
      have HX := hide hx
      clear b1 ty k0 LT ea hx
      go_wp2_with fail
      go_returns
      exact ⟨by rw [F.out, HX.out]; rfl, B1.out⟩
    · have F := f2 (fun q => z q.1)
      have e2 : ¬ -(n : Int) ≤ i := by omega
      clear f1 f2
      go_enter Tryd.func16, Tryd.ntmps16
      go_wp2_with fail
      refine Calls.mono k0 ?_
      rintro e w1 ⟨b1, a1, c1, rfl, ty⟩
      have B1 := hide b1
      clear b1 ty k0
      go_wp2_with fail
      go_returns
      exact ⟨by rw [F.out]; rfl, B1.out⟩
  · obtain ⟨j, rfl⟩ : ∃ j : Nat, i = j := ⟨i.toNat, by omega⟩
    obtain ⟨f1, f2⟩ := FIN.out (j : Int) (by show _ = _; rw [if_neg y])
    clear i1 i2
    by_cases z : j < n
    · have F := f1 ⟨by omega, by omega⟩
      rw [Int.toNat_natCast] at F
      clear f1 f2
      go_enter Tryd.func16, Tryd.ntmps16
      go_wp2_with fail
      refine Calls.mono k0 ?_
      rintro e w1 ⟨b1, a1, c1, rfl, ty⟩
      have B1 := hide b1
      have jn2 : j < ns.length := by have := HN.out; omega
      obtain ⟨g, o, rfl, LT⟩ := ty.resolve_left (by intro e; rw [e] at jn2; simp at jn2)
      have c0 := LT.cell j jn2
      have ea : ns.getD j ⟨#[]⟩ = ns[j] := by simp [List.getD_eq_getElem?_getD, jn2]
      rw [← ea] at c0
      obtain ⟨x, hx⟩ : ∃ x, x = ns.getD j ⟨#[]⟩ := ⟨_, rfl⟩
      rw [← hx] at c0
      have HX := hide hx
      clear b1 ty k0 LT ea hx
      go_wp2_with fail
      go_returns
      exact ⟨by rw [F.out, HX.out]; rfl, B1.out⟩
    · have F := f2 (fun q => z (by omega))
      clear f1 f2
      go_enter Tryd.func16, Tryd.ntmps16
      go_wp2_with fail
      refine Calls.mono k0 ?_
      rintro e w1 ⟨b1, a1, c1, rfl, ty⟩
      have B1 := hide b1
      clear b1 ty k0
      go_wp2_with fail
      go_returns
      exact ⟨by rw [F.out]; rfl, B1.out⟩
end Go.Proofs.YteahbdhhcfoiiaaDoor
