/- NameNames: the law's walk. -/
import Derived.Test.YteahbdhhcfoiiaaDoorNal
import Derived.Test.YteahbdhhcfoiiaaDoorNst
import Derived.Test.YteahbdhhcfoiiaaDoorShp
namespace Go.Proofs.YteahbdhhcfoiiaaDoor
set_option linter.unusedVariables false
set_option linter.unusedSimpArgs false
open Go.RowKit W
theorem gm_at {W : World} (h : W.ShapedOpen Tryd.prog) : ∃ m, GM m W := Tryd.laysM146.s1_3 W h
set_option maxRecDepth 100000 in
set_option maxHeartbeats 8000000 in
theorem law_NameNames (s : ByteArray) (i : Int) (hs : s.size ≤ 140737488351232) (hi : (Lit.int .i64 i).wf = true) (W : World) (hsh : W.ShapedOpen Tryd.prog) :
    Calls Tryd.prog 3 #[.string s, .int .i64 i] W fun e w' => e = .returned (.bool true) ∧ Below W.heap.size W w' := by
  obtain ⟨mx, gm⟩ := gm_at hsh
  have hI := hi_of_wf hi
  have k1 := node_at_spec s i hI mx W gm
  have k2 := fun w => rnode_at_spec s i hI w
  have kv := fun w => valid_spec s w
  have kr := fun w => rvalid_spec s w
  have GMH := hide gm
  have NL := hide (nodes_len s)
  have ns := nodes_spec s mx
  have rs := rnodes_spec s
  unfold NodesRes at ns
  unfold RNodesRes at rs
  have ks := fun a b c d w ha hb => same_texts (nodesL s) a b c d w ha hb (by have := NL.out; omega)
  obtain ⟨N, hN⟩ : ∃ N, N = nodesL s := ⟨_, rfl⟩
  rw [← hN] at k1 k2 ns rs ks NL
  obtain ⟨⟨x, t⟩, hx⟩ : ∃ q, nodeAt N i = q := ⟨_, rfl⟩
  rw [hx] at k1 k2
  obtain ⟨v, hv⟩ : ∃ v, validN s.data.toList = v := ⟨_, rfl⟩
  rw [hv] at kv kr
  obtain ⟨n, hn⟩ : ∃ n, n = N.length := ⟨_, rfl⟩
  rw [← hn] at ns rs ks
  have st := str_eql_same x
  clear hsh hI hi gm hN hx hv hn
  go_enter Tryd.func3, Tryd.ntmps3
  go_wp2_with fail
  refine Calls.mono k1 ?_
  rintro e w1 ⟨rfl, b1⟩
  have B1 := hide b1
  clear b1 k1
  go_wp2_with fail
  refine Calls.mono (k2 _) ?_
  rintro e w2 ⟨rfl, b2⟩
  have B2 := hide (B1.out.trans (b2.mono B1.out.size))
  clear b2 k2
  go_wp2_with fail
  refine (kv _).mono ?_
  rintro e w' ⟨rfl, rfl⟩
  go_wp2_with fail
  refine Calls.mono (kr _) ?_
  rintro e w3 ⟨rfl, b3⟩
  have B3 := hide (B2.out.trans (b3.mono B2.out.size))
  clear b3 kr kv
  go_wp2_with fail
  all_goals
    refine Calls.mono (ns _ (GMH.out.later B3.out)) ?_
    rintro e w4 ⟨b4, a4, c4, rfl, ty4, lc4⟩
    have B4 := hide (B3.out.trans (b4.mono B3.out.size))
    have T4 := hide ty4.is
    clear b4 ty4 lc4
    go_wp2_with fail
    refine Calls.mono (rs _) ?_
    rintro e w5 ⟨b5, a5, c5, rfl, ty5⟩
    have B5 := hide (B4.out.trans (b5.mono B4.out.size))
    have T4b := hide (T4.out.later b5)
    have T5 := hide ty5
    clear b5 ty5
    go_wp2_with fail
    refine Calls.mono (ks _ _ _ _ _ T4b.out T5.out) ?_
    rintro e w6 ⟨rfl, n6, rfl⟩
    go_wp2_with fail
    have B6 := hide (below_drewN B5.out n6)
    refine Calls.mono (alive_spec mx _ (GMH.out.later B6.out)) ?_
    rintro e w7 ⟨rfl, b7⟩
    have B7 := hide (B6.out.trans (b7.mono B6.out.size))
    clear b7
    go_wp2_with fail
    go_returns
    exact ⟨rfl, B7.out⟩
end Go.Proofs.YteahbdhhcfoiiaaDoor
