/- name: Match. -/
import Derived.Test.YtagahoelojfhcaaDoorNmn
import Derived.Test.YtagahoelojfhcaaDoorNsp
namespace Go.Proofs.YtagahoelojfhcaaDoor
set_option linter.unusedVariables false
set_option linter.unusedSimpArgs false
open Go.RowKit W
/-- P3.5. -/
def matB (p : List (List Gl)) (s : ByteArray) : Bool :=
  decide ((nodesL s).length = p.length) && (mayB p && (List.range p.length).all fun i => mNode (p.getD i []) ((nodesL s).getD i ⟨#[]⟩))
theorem nodes_size {s : ByteArray} : ∀ x ∈ nodesL s, x.size ≤ 200 := by
  intro x hx
  cases h : validN (lst s) with
  | true => have := size_piece (nodesL_yes h) x hx; have := valid_size h; omega
  | false => rw [nodesL_no h] at hx; cases hx
theorem nodes_len (s : ByteArray) : (nodesL s).length ≤ 201 := by
  cases h : validN (lst s) with
  | true => have := congrArg List.length (nodesL_yes h); rw [List.length_map] at this; have := cutL_len 46 (lst s) []; rw [lst_len] at this; have := valid_size h; omega
  | false => rw [nodesL_no h]; simp
set_option maxRecDepth 100000 in
set_option maxHeartbeats 8000000 in
theorem match_spec (p : List (List Gl)) (pw : PtW p) (s : ByteArray) (mx : Int) (a : Option Addr) (c : Nat) (w : World) (ha : IsPt w a p) (gm : GM mx w) :
    Calls Tryd.prog 17 #[.agg #[.slice a p.length c], .string s] w fun e w' => e = .returned (.bool (matB p s)) ∧ Below w.heap.size w w' := by
  obtain ⟨E, hE⟩ : ∃ E, matB p s = E := ⟨_, rfl⟩
  rw [hE]
  have HE := hide hE
  have HA := hide ha
  have PW := hide pw
  have pn := pw.n
  have NS := hide (nodes_size (s := s))
  have nl := nodes_len s
  obtain ⟨ns, hns⟩ : ∃ ns, ns = nodesL s := ⟨_, rfl⟩
  rw [← hns] at NS nl
  have HNS := hide hns
  obtain ⟨n, hn⟩ : ∃ n, n = p.length := ⟨_, rfl⟩
  have HN := hide hn
  rw [← hn] at pn ⊢
  have km := may_spec p pw a c
  rw [← hn] at km
  have k0 := nodes_spec s mx (w.alloc (.cells #[.slice a n c] 27)) (gm.later ((Below.refl _ _).alloc (Nat.le_refl _) _))
  unfold NodesRes at k0
  rw [← hns] at k0
  obtain ⟨z, hz⟩ : ∃ z, z = ns.length := ⟨_, rfl⟩
  have HZ := hide hz
  rw [← hz] at k0 nl
  clear hE ha pw hns hn gm hz
  go_enter Tryd.func17, Tryd.ntmps17
  go_wp2_with fail
  refine Calls.mono k0 ?_
  rintro e w1 ⟨b1, a1, c1, rfl, ty, lc⟩
  have TY := hide ty.is
  have B1 : Hid (Below w.heap.size w w1) := ((Below.refl _ _).alloc (Nat.le_refl _) _).trans (b1.mono (by simp))
  have q0 : w1.cell? ⟨w.heap.size, 0, none⟩ = some (.slice a n c) := (b1.cell (p := ⟨w.heap.size, 0, none⟩) (by simp)).trans (by simp [go_sem])
  have ql : w.heap.size < w1.heap.size := Nat.lt_of_lt_of_le (by simp) b1.size
  clear b1 ty lc k0
  by_cases y1 : z = n
  · subst y1
    have kmay := km w1 (HA.out.later B1.out)
    obtain ⟨t, ht⟩ : ∃ t, mayB p = t := ⟨_, rfl⟩
    rw [ht] at kmay
    have HT := hide ht
    clear ht km
    have H1 : Hid (E = (t && (List.range p.length).all fun i => mNode (p.getD i []) (ns.getD i ⟨#[]⟩))) := by
      show _ = _
      have := HE.out; rw [← this]; unfold matB
      rw [← HNS.out, HT.out, ← HN.out, ← HZ.out]; simp
    cases t
    · have F : Hid (E = false) := by show _ = _; rw [H1.out]; rfl
      go_wp2_with (go_at_call 25; refine Calls.mono kmay ?_; rintro e w2 ⟨rfl, b2⟩; have B2 := hide b2; clear b2)
      go_returns
      exact ⟨by rw [F.out]; rfl, B1.out.trans (B2.out.mono (by omega))⟩
    · go_wp2_with (go_at_call 25; refine Calls.mono kmay ?_; rintro e w2 ⟨rfl, b2⟩; have B2 : Hid (Below w.heap.size w w2) := B1.out.trans (b2.mono (by omega)); have q2 : w2.cell? ⟨w.heap.size, 0, none⟩ = some (.slice a z c) := (b2.cell (p := ⟨w.heap.size, 0, none⟩) ql).trans q0; have ql2 : w.heap.size < w2.heap.size := Nat.lt_of_lt_of_le ql b2.size; have TY2 := hide (TY.out.later b2); clear b2 q0)
      go_loopw [23] (fun i wr => ∃ k : Nat, k ≤ z ∧ i = .int .i64 (k : Int) ∧ Hid (Below w2.heap.size w2 wr) ∧ Hid (∀ j, j < k → mNode (p.getD j []) (ns.getD j ⟨#[]⟩) = true)) (fun i _ => z - (intOf i).toNat)
      case atStart => exact ⟨0, by omega, rfl, hide (Below.refl _ _), hide (fun j h => absurd h (Nat.not_lt_zero _))⟩
      case round =>
        obtain ⟨k, hk, rfl, B, D⟩ := hrel
        by_cases hlt : k < z
        · have kp : k < p.length := by have := HN.out; omega
          have kn : k < ns.length := by have := HZ.out; omega
          have BW := hide (B2.out.trans (B.out.mono B2.out.size))
          obtain ⟨g, o, rfl, LN⟩ := HA.out.resolve_left (by intro e; rw [e] at kp; simp at kp)
          obtain ⟨g2, o2, rfl, LT⟩ := TY2.out.resolve_left (by intro e; rw [e] at kn; simp at kn)
          have d0 := (LT.later B.out).cell k kn
          have d1 := (B.out.cell (p := ⟨w.heap.size, 0, none⟩) ql2).trans q2
          obtain ⟨b, cc, e0, e1, _⟩ := (LN.later BW.out).cell k kp
          have lg := (LN.later BW.out).lt
          have lg2 := (LT.later B.out).lt
          have kx := mnode_spec p[k] (PW.out.m _ (List.getElem_mem _)) (PW.out.g _ (List.getElem_mem _)) ns[k] (NS.out _ (List.getElem_mem _)) b cc wr e1
          have ea : p.getD k [] = p[k] := by simp [List.getD_eq_getElem?_getD, kp]
          have eb : ns.getD k ⟨#[]⟩ = ns[k] := by simp [List.getD_eq_getElem?_getD, kn]
          rw [← ea, ← eb] at kx
          rw [← eb] at d0
          rw [← ea] at e0
          obtain ⟨x, hx⟩ : ∃ x, x = ns.getD k ⟨#[]⟩ := ⟨_, rfl⟩
          obtain ⟨y, hy⟩ : ∃ y, y = p.getD k [] := ⟨_, rfl⟩
          rw [← hx] at d0 kx
          rw [← hy] at e0 kx
          obtain ⟨t, ht⟩ : ∃ t, mNode y x = t := ⟨_, rfl⟩
          rw [ht] at kx
          have HT2 : Hid (mNode (p.getD k []) (ns.getD k ⟨#[]⟩) = t) := by show _ = _; rw [← hx, ← hy]; exact ht
          have zl := B.out.size
          have zl2 := B2.out.size
          clear ht hx hy ea eb e1 LN LT
          cases t
          · have F : Hid (E = false) := by
              show _ = _; rw [H1.out, Bool.true_and]; exact all_no (k := k) kp HT2.out
            go_wp2_with (go_at_call 26; refine Calls.mono kx ?_; rintro e w3 ⟨rfl, b3⟩; have B3 := hide b3; clear b3)
            go_returns
            exact ⟨by rw [F.out]; rfl, BW.out.trans (B3.out.mono (by omega))⟩
          · have D2 : Hid (∀ j, j < k + 1 → mNode (p.getD j []) (ns.getD j ⟨#[]⟩) = true) := by
              intro j hj
              by_cases q : j < k
              · exact D.out j q
              · obtain rfl : j = k := by omega
                exact HT2.out
            go_wp2_with (go_at_call 26; refine Calls.mono kx ?_; rintro e w3 ⟨rfl, b3⟩; have B3 := hide b3; clear b3)
            go_roundw
            case rel => exact ⟨k + 1, by omega, by go_num, hide (B.out.trans (B3.out.mono zl)), D2⟩
            case measure => simp [intOf]; omega
        · obtain rfl : k = z := by omega
          have F : Hid (E = true) := by
            show _ = _; rw [H1.out, Bool.true_and]; exact all_yes (fun i hi => D.out i (by have := HN.out; omega))
          have BW := hide (B2.out.trans (B.out.mono B2.out.size))
          go_wp2_with fail
          go_returns
          exact ⟨by rw [F.out]; rfl, BW.out⟩
  · have F : Hid (E = false) := by
      show _ = _
      have := HE.out; rw [← this]; unfold matB
      rw [← HNS.out, decide_eq_false (by rw [← HZ.out, ← HN.out]; exact y1)]; rfl
    have y2 : ((z : Int) == (n : Int)) = false := by rw [beq_eq_false_iff_ne]; omega
    have y3 : (z == n) = false := by rw [beq_eq_false_iff_ne]; omega
    clear km
    go_wp2_with fail
    go_returns
    exact ⟨by rw [F.out]; rfl, B1.out⟩
end Go.Proofs.YtagahoelojfhcaaDoor
