/- SinkOrders: the frame of the statement (upto, card). -/
import Derived.Test.YtbahhlgcebgfeaaDoorTie
import Derived.Test.YtbahhlgcebgfeaaDoorCards
import Derived.Lay
import Derived.LaidMore
import Derived.SevenTiedAt
import Derived.Stop.Joined
import Derived.JoinedCond
import Derived.Test.YtbahhlgcebgfeaaDoorRows
import Derived.Test.YtbahhlgcebgfeaaDoorBulk
import Derived.Test.YtbahhlgcebgfeaaDoorSnk14
import Derived.Test.YtbahhlgcebgfeaaDoorSnk15
import Derived.WalkKit
import Derived.ProofKit
import Derived.OpenShut
import Derived.ChangeOld
import Derived.Below
import Derived.Lib.SmallJoins
import Derived.Deep.Fields
import Derived.SizedLaws
import Derived.Deep.DeepHandedRow
import Derived.Deep.DeepWitnessRowRef
namespace Go.Proofs.YtbahhlgcebgfeaaDoor.sinkOrders
open Go.ChangeShapes Go.WideShapes Go.ChangeAt Go.RowKit Go.Joins Go.Deep
set_option linter.unusedVariables false
theorem own : ownKnob Tryd.prog.godebug = none := by kernel_rfl
theorem laidOut : laidOutB Tryd.prog = true := by kernel_rfl
abbrev A0 : Array Value := #[.slice none 0 0, .agg #[.int .i64 0, .slice none 0 0], .agg #[.int .i64 0, .slice none 0 0]]
noncomputable abbrev WL (os : Os) : World := World.laidAll Tryd.prog os Rows.sinkOrdersUptoRow.laid
theorem laid_met (os : Os) : laidMet Tryd.prog Rows.sinkOrdersUptoRow.laid ((WL os).forCall (fun _ _ => 0) ⟨#[], A0, []⟩).memory := laidMet_laidAll _ (by kernel_rfl) (by kernel_rfl)
theorem reads (os : Os) {H : Type} (enc : TypeId × Value → H) : ∃ places, DataW.whole enc Tryd.prog ((WL os).forCall (fun _ _ => 0) ⟨#[], A0, []⟩).memory Tryd.f8.params.toList Rows.sinkOrdersSpec.vars false A0.toList 8 = some ([.nil, .agg [.lit (.int .i64 0), .nil], .agg [.lit (.int .i64 0), .nil]], [], places) :=
  ⟨[], by kernel_rfl⟩
set_option maxRecDepth 100000 in
theorem lifted (os : Os) (started : os.Started) (H : Type) (enc : TypeId × Value → H) (F : Stop.Interp) :
    ReturnsInHanded {} Tryd.checked os 8 .any ((Rows.OpenSpec.upto Rows.sinkOrdersSpec).preRow enc Tryd.prog Tryd.f8 Rows.sinkOrdersUptoRow.domain false Rows.sinkOrdersUptoRow.laid) (((Rows.OpenSpec.upto Rows.sinkOrdersSpec).at F).post enc Tryd.prog Tryd.f8 false true false false) := by
  obtain ⟨places, hx⟩ := reads os enc
  refine returnsInHanded_of_row (C := Tryd.checked) (s := Rows.OpenSpec.upto Rows.sinkOrdersSpec) own started (by kernel_rfl) Tryd.func8
    (witness_row_atRef (enc := enc) (C := Tryd.checked) false (WL os) A0 (World.laidAll_os _ _ _) (by kernel_rfl) (by kernel_rfl) (by kernel_rfl)
      (OpenSpec.preRow_of_cond 8 hx (by kernel_rfl) (fun k hk => by cases hk; kernel_rfl) (by kernel_rfl) (laid_met os))) ?_
  intro W base args ds gs before hval hW _ hcond _ hL _ _
  have hk := hcond _ rfl
  have hW' := hW
  obtain ⟨p, q, hA0, hV, rfl, hfz, hnd⟩ := hW
  have hA : DataW.TrodAll enc Tryd.prog W 0 (fun _ => true) true Tryd.f8.params.toList args.toList ds p := hA0
  rw [Tryd.params8] at hA hval
  obtain ⟨v0, vs0, d0, ds0, p0, q0, hargs, rfl, rfl, h0, r0⟩ := trodAll_cons hA
  obtain ⟨v1, vs1, d1, ds1, p1, q1, rfl, rfl, rfl, h1, r1⟩ := trodAll_cons r0
  obtain ⟨v2, vs2, d2, ds2, p2, q2, rfl, rfl, rfl, h2, r2⟩ := trodAll_cons r1
  obtain ⟨rfl, rfl, rfl⟩ := trodAll_nil r2
  obtain rfl : args = #[v0, v1, v2] := by cases args; simp_all
  obtain ⟨rfl, rfl⟩ := trodVars_none hV
  obtain ⟨s0, n0, c0, rfl⟩ := okWide_slice Tryd.underlying22 (hval 0 22 v0 rfl rfl)
  have k0 := h0
  have lt0 : ∀ x ∈ p0, x.block < W.heap.size := by obtain ⟨m, hm⟩ := k0; exact DataW.trod_lt m _ _ _ hm
  obtain ⟨P, rfl, hc0, hn0, hp0, hd0⟩ : ∃ P, n0 = List.length P ∧ P.length ≤ c0 ∧ (s0 = none → P.length = 0 ∧ c0 = 0) ∧ Go.Proofs.YtbahhlgcebgfeaaDoor.IsCh W s0 P ∧ (P = [] ∨ ∃ el sp, d0 = .slice el sp ∧ el.length = P.length) := by obtain ⟨m, hm⟩ := k0; exact isCh_of hm
  have bP : P.length ≤ 1048576 := by
    rcases hd0 with e | ⟨el, sp, e, el2⟩
    · rw [e]; simp
    · rw [← el2]; exact bulk_slice hk (by rw [← e]; simp)
  have k1 := h1
  have lt1 : ∀ x ∈ p1, x.block < W.heap.size := by obtain ⟨m, hm⟩ := k1; exact DataW.trod_lt m _ _ _ hm
  obtain ⟨x1, f1, y1, z1, m1, rfl, rfl, rfl, hy1, hz1⟩ := open_agg2 Tryd.underlying32 (by kernel_rfl) (by kernel_rfl : Tryd.prog.cellsOf 32 = 2) (hval 1 32 v1 rfl rfl) h1
  obtain ⟨a1, ea1, ed1, wa1⟩ := DataW.trod_int Tryd.underlying2 hy1
  simp at ea1
  subst ea1
  obtain ⟨b1, cb1, l1, eb1, hc1, hn1, hx1, hd1⟩ := isBytes_of Tryd.underlying30 Tryd.underlying5 (by kernel_rfl) hz1
  subst eb1
  have k2 := h2
  have lt2 : ∀ x ∈ p2, x.block < W.heap.size := by obtain ⟨m, hm⟩ := k2; exact DataW.trod_lt m _ _ _ hm
  obtain ⟨x2, f2, y2, z2, m2, rfl, rfl, rfl, hy2, hz2⟩ := open_agg2 Tryd.underlying32 (by kernel_rfl) (by kernel_rfl : Tryd.prog.cellsOf 32 = 2) (hval 2 32 v2 rfl rfl) h2
  obtain ⟨a2, ea2, ed2, wa2⟩ := DataW.trod_int Tryd.underlying2 hy2
  simp at ea2
  subst ea2
  obtain ⟨b2, cb2, l2, eb2, hc2, hn2, hx2, hd2⟩ := isBytes_of Tryd.underlying30 Tryd.underlying5 (by kernel_rfl) hz2
  subst eb2
  have q1 : l1.length ≤ 1048576 := by
    rcases hd1 with e | ⟨el, sp, e, el2⟩
    · rw [e]; simp
    · rw [← el2]; exact bulk_inner (sp := sp) (bulk_part (ps := [y1.1, z1.1]) (Nat.le_trans (bulk_mem (by simp)) (bulk_le hk)) (by rw [← e]; simp))
  have q2 : l2.length ≤ 1048576 := by
    rcases hd2 with e | ⟨el, sp, e, el2⟩
    · rw [e]; simp
    · rw [← el2]; exact bulk_inner (sp := sp) (bulk_part (ps := [y2.1, z2.1]) (Nat.le_trans (bulk_mem (by simp)) (bulk_le hk)) (by rw [← e]; simp))
  obtain ⟨ea, he⟩ := err_cell hL
  clear hA0 hk hcond
  refine (sink_orders he hp0 hn0 bP hx1 hx2 hc1 hc2 q1 q2).mono fun e W' ⟨he', bel⟩ => ?_
  subst he'
  exact ⟨_, rfl, _, _, _, [], _, [], hW', trodAll_mk1 (shut_bool Tryd.underlying4 _), (trodAll_cons_mk (Below.trod laidOut (by kernel_rfl) (of_decide_eq_true (by kernel_rfl)) k0 bel lt0) (trodAll_cons_mk (Below.trod laidOut (by kernel_rfl) (of_decide_eq_true (by kernel_rfl)) k1 bel lt1) (trodAll_cons_mk (Below.trod laidOut (by kernel_rfl) (of_decide_eq_true (by kernel_rfl)) k2 bel lt2) trodAll_mk0))), rfl, bel.frame _, fun h => by cases h⟩
theorem over : Rows.SinkOrdersUptoSaid :=
  OpenClaim.holds_of_cond 8 Tryd.f8 rfl rfl rfl rfl rfl rfl rfl ⟨rfl, rfl, rfl, rfl, rfl⟩ rfl rfl rfl rfl rfl (by kernel_rfl) Tryd.func8 (by kernel_rfl)
    (of_decide_eq_true (by kernel_rfl)) (by unfold Func.isWrapper; first | (rw [if_pos (by decide +kernel)]; kernel_rfl) | (rw [if_neg (by decide +kernel)]; exact ⟨rfl, rfl⟩))
    (fun os started H enc _ F => by rw [OpenClaim.pre_eq_preRow]; exact lifted os started H enc F)
theorem card_over : Rows.SinkOrdersUptoCardSaid :=
  Claim7.holds_tied_plain_at .later [] [.sentinel] true (true, "0e7432c2f7dc2f871313339061022ef5dee69a7d47e83665319126425cc5310d") true over (fun _ h => by cases h) (by kernel_rfl) (fun _ h => by cases h) sinkOrdersUpto_row_tie rfl ⟨rfl, rfl⟩ (by kernel_rfl) rfl
    (fun f fn hf hfn => by
      obtain rfl : f = 8 := Option.some.inj ((show Tryd.prog.funcNamed "tumbler/tumblerlaw18.SinkOrders" = some 8 by kernel_rfl).symm.trans hf) |>.symm
      obtain rfl : fn = Tryd.f8 := (Option.some.inj (Tryd.func8.symm.trans hfn)).symm
      exact ⟨by kernel_rfl, fun j t ht => by
        rw [Tryd.params8] at ht
        have hm : t ∈ [22, 32] := by
          have := Array.mem_of_getElem? ht
          simp at this ⊢
          omega
        have hall : ([22, 32].all fun u => !Tryd.prog.wantsStandIn u) = true := by kernel_rfl
        exact (show Tryd.prog.wantsStandIn t = false by simpa using List.all_eq_true.1 hall t hm)⟩)
    (by kernel_rfl)
end Go.Proofs.YtbahhlgcebgfeaaDoor.sinkOrders
namespace Go.Proofs.YtbahhlgcebgfeaaDoor
theorem sinkOrders_holds : Rows.SinkOrdersUptoCardSaid := sinkOrders.card_over
#print axioms sinkOrders_holds
end Go.Proofs.YtbahhlgcebgfeaaDoor
