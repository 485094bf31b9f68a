/- name: lists of texts held against one another; Node on both sides. -/
import Derived.Test.YtagahoelojfhcaaDoorNmt
import Derived.Test.YtagahoelojfhcaaDoorStrq
import Derived.Test.YtagahoelojfhcaaDoorRvalidb
namespace Go.Proofs.YtagahoelojfhcaaDoor
set_option linter.unusedVariables false
set_option linter.unusedSimpArgs false
open Go.RowKit W
theorem map_lst_inj {xs ys : List ByteArray} (h : xs.map lst = ys.map lst) : xs = ys := by
  induction xs generalizing ys with
  | nil => cases ys with | nil => rfl | cons y ys => cases h
  | cons x xs ih => cases ys with
    | nil => cases h
    | cons y ys => rw [List.map_cons, List.map_cons] at h; injection h with h1 h2; rw [lst_inj h1, ih h2]
set_option maxRecDepth 100000 in
set_option maxHeartbeats 4000000 in
theorem same_texts (xs : List ByteArray) (a b : Option Addr) (c d : Nat) (w : World) (ha : IsTxts w a xs) (hb : IsTxts w b xs) (hn : xs.length ≤ 140737488355328) :
    Calls Tryd.prog 5 #[.slice a xs.length c, .slice b xs.length d] w fun e w' => e = .returned (.bool true) ∧ ∃ n, w' = w.drewN n := by
  have HA := hide ha
  have HB := hide hb
  obtain ⟨n, hnn⟩ : ∃ n, n = xs.length := ⟨_, rfl⟩
  have HN := hide hnn
  rw [← hnn] at hn ⊢
  clear ha hb hnn
  go_enter Tryd.func5, Tryd.ntmps5
  go_wp2_with fail
  go_loopw [5] (fun i wr => ∃ k : Nat, k ≤ n ∧ i = .int .i64 (k : Int) ∧ Hid (∃ m, wr = w.drewN m)) (fun i _ => n - (intOf i).toNat)
  case atStart => exact ⟨0, by omega, rfl, hide ⟨0, rfl⟩⟩
  case round =>
    obtain ⟨k, hk, rfl, M⟩ := hrel
    by_cases hlt : k < n
    · have kx : k < xs.length := by have := HN.out; omega
      obtain ⟨g, o, rfl, LA⟩ := HA.out.resolve_left (by intro e; rw [e] at kx; simp at kx)
      obtain ⟨g2, o2, rfl, LB⟩ := HB.out.resolve_left (by intro e; rw [e] at kx; simp at kx)
      obtain ⟨m, hm⟩ := M.out
      have c0 : wr.cell? ⟨g, o + k, none⟩ = some (.string xs[k]) := by rw [hm]; exact LA.cell k kx
      have c1 : wr.cell? ⟨g2, o2 + k, none⟩ = some (.string xs[k]) := by rw [hm]; exact LB.cell k kx
      obtain ⟨x, hx⟩ : ∃ x, x = xs[k] := ⟨_, rfl⟩
      rw [← hx] at c0 c1
      have ne := str_neq_same x
      clear hx hm LA LB
      go_wp2_with fail
      go_quiet (fail)
      go_wp2_with fail
      go_roundw
      case rel => exact ⟨k + 1, by omega, by go_num, by obtain ⟨m, rfl⟩ := M.out; exact hide ⟨_, World.drewN_drewN ..⟩⟩
      case measure => simp [intOf]; omega
    · obtain rfl : k = n := by omega
      go_wp2_with fail
      go_returns
      exact ⟨rfl, M.out⟩
def RNodesRes (w : World) (s : ByteArray) (e : Ending) (w' : World) : Prop :=
  Below w.heap.size w w' ∧ ∃ a c, e = .returned (.slice a (nodesL s).length c) ∧ IsTxts w' a (nodesL s)
set_option maxRecDepth 100000 in
set_option maxHeartbeats 4000000 in
theorem rnodes_spec (s : ByteArray) (w : World) : Calls Tryd.prog 6 #[.string s] w (RNodesRes w s) := by
  have kv := rvalid_spec s w
  rw [show s.data.toList = lst s from rfl] at kv
  obtain ⟨t, ht⟩ : ∃ t, validN (lst s) = t := ⟨_, rfl⟩
  rw [ht] at kv
  cases t
  · have N := hide (nodesL_no ht)
    clear ht
    go_enter Tryd.func6, Tryd.ntmps6
    go_wp2_with fail
    refine Calls.mono kv ?_
    rintro e w1 ⟨rfl, b1⟩
    have B1 := hide b1
    clear b1
    go_wp2_with fail
    go_returns
    exact ⟨B1.out, none, 0, by rw [N.out]; rfl, .inl N.out⟩
  · have sz := valid_size ht
    have kc := fun w => cut3_spec s (by omega) w
    have NY := hide (nodesL_yes ht)
    clear ht
    go_enter Tryd.func6, Tryd.ntmps6
    go_wp2_with fail
    refine Calls.mono kv ?_
    rintro e w1 ⟨rfl, b1⟩
    have B1 := hide b1
    clear b1
    go_wp2_with fail
    refine Calls.mono (kc _) ?_
    rintro e w2 ⟨v, ps, rfl, hps, own⟩
    have e1 : ps = nodesL s := map_lst_inj (hps.trans NY.out.symm)
    subst e1
    obtain ⟨a, c, rfl, ta⟩ := own.is
    have TA := hide ta
    have B2 := hide (B1.out.trans (own.below.mono B1.out.size))
    clear own hps ta
    go_wp2_with fail
    go_returns
    exact ⟨B2.out, _, _, rfl, TA.out⟩
/-- A name's i-th node, from the end if i is below 0. -/
def nodeAt (ns : List ByteArray) (i : Int) : ByteArray × Bool :=
  let j := if i < 0 then i + ns.length else i
  if 0 ≤ j ∧ j < ns.length then (ns.getD j.toNat ⟨#[]⟩, true) else (⟨#[]⟩, false)
end Go.Proofs.YtagahoelojfhcaaDoor
