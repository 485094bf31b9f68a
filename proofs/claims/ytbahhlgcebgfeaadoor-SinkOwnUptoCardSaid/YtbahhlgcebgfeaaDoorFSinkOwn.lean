/- SinkOwn: the frame of the statement (upto, card). -/
import Derived.Test.YtbahhlgcebgfeaaDoorTie
import Derived.Test.YtbahhlgcebgfeaaDoorCards
import Derived.Lay
import Derived.LaidMore
import Derived.SevenTiedAt
import Derived.Stop.Joined
import Derived.JoinedCond
import Derived.Test.YtbahhlgcebgfeaaDoorRows
import Derived.Test.YtbahhlgcebgfeaaDoorBulk
import Derived.Test.YtbahhlgcebgfeaaDoorSnk34
import Derived.Test.YtbahhlgcebgfeaaDoorSnk15
import Derived.Test.YtbahhlgcebgfeaaDoorPieces
import Derived.WalkKit
import Derived.ProofKit
import Derived.OpenShut
import Derived.ChangeOld
import Derived.Below
import Derived.Lib.SmallJoins
import Derived.Deep.Fields
import Derived.SizedLaws
import Derived.Deep.DeepHandedRow
import Derived.Deep.DeepWitnessRowRef
namespace Go.Proofs.YtbahhlgcebgfeaaDoor.sinkOwn
open Go.ChangeShapes Go.WideShapes Go.ChangeAt Go.RowKit Go.Joins Go.Deep
set_option linter.unusedVariables false
theorem own : ownKnob Tryd.prog.godebug = none := by kernel_rfl
theorem laidOut : laidOutB Tryd.prog = true := by kernel_rfl
abbrev A0 : Array Value := #[.slice none 0 0, .slice none 0 0]
noncomputable abbrev WL (os : Os) : World := World.laidAll Tryd.prog os Rows.sinkOwnUptoRow.laid
theorem laid_met (os : Os) : laidMet Tryd.prog Rows.sinkOwnUptoRow.laid ((WL os).forCall (fun _ _ => 0) ⟨#[], A0, []⟩).memory := laidMet_laidAll _ (by kernel_rfl) (by kernel_rfl)
theorem reads (os : Os) {H : Type} (enc : TypeId × Value → H) : ∃ places, DataW.whole enc Tryd.prog ((WL os).forCall (fun _ _ => 0) ⟨#[], A0, []⟩).memory Tryd.f9.params.toList Rows.sinkOwnSpec.vars false A0.toList 8 = some ([.nil, .nil], [], places) :=
  ⟨[], by kernel_rfl⟩
set_option maxRecDepth 100000 in
theorem lifted (os : Os) (started : os.Started) (H : Type) (enc : TypeId × Value → H) (F : Stop.Interp) :
    ReturnsInHanded {} Tryd.checked os 9 .any ((Rows.OpenSpec.upto Rows.sinkOwnSpec).preRow enc Tryd.prog Tryd.f9 Rows.sinkOwnUptoRow.domain false Rows.sinkOwnUptoRow.laid) (((Rows.OpenSpec.upto Rows.sinkOwnSpec).at F).post enc Tryd.prog Tryd.f9 false true false false) := by
  obtain ⟨places, hx⟩ := reads os enc
  refine returnsInHanded_of_row (C := Tryd.checked) (s := Rows.OpenSpec.upto Rows.sinkOwnSpec) own started (by kernel_rfl) Tryd.func9
    (witness_row_atRef (enc := enc) (C := Tryd.checked) false (WL os) A0 (World.laidAll_os _ _ _) (by kernel_rfl) (by kernel_rfl) (by kernel_rfl)
      (OpenSpec.preRow_of_cond 8 hx (by kernel_rfl) (fun k hk => by cases hk; kernel_rfl) (by kernel_rfl) (laid_met os))) ?_
  intro W base args ds gs before hval hW _ hcond _ hL _ _
  have hk := hcond _ rfl
  have hW' := hW
  obtain ⟨p, q, hA0, hV, rfl, hfz, hnd⟩ := hW
  have hA : DataW.TrodAll enc Tryd.prog W 0 (fun _ => true) true Tryd.f9.params.toList args.toList ds p := hA0
  rw [Tryd.params9] at hA hval
  obtain ⟨v0, vs0, d0, ds0, p0, q0, hargs, rfl, rfl, h0, r0⟩ := trodAll_cons hA
  obtain ⟨v1, vs1, d1, ds1, p1, q1, rfl, rfl, rfl, h1, r1⟩ := trodAll_cons r0
  obtain ⟨rfl, rfl, rfl⟩ := trodAll_nil r1
  obtain rfl : args = #[v0, v1] := by cases args; simp_all
  obtain ⟨rfl, rfl⟩ := trodVars_none hV
  obtain ⟨s0, n0, c0, rfl⟩ := okWide_slice Tryd.underlying22 (hval 0 22 v0 rfl rfl)
  have k0 := h0
  have lt0 : ∀ x ∈ p0, x.block < W.heap.size := by obtain ⟨m, hm⟩ := k0; exact DataW.trod_lt m _ _ _ hm
  obtain ⟨P0, rfl, hc0, hn0, hp0, hd0⟩ : ∃ P, n0 = List.length P ∧ P.length ≤ c0 ∧ (s0 = none → P.length = 0 ∧ c0 = 0) ∧ Go.Proofs.YtbahhlgcebgfeaaDoor.IsCh W s0 P ∧ (P = [] ∨ ∃ el sp, d0 = .slice el sp ∧ el.length = P.length) := by obtain ⟨m, hm⟩ := k0; exact isCh_of hm
  have b0 : P0.length ≤ 1048576 := by
    rcases hd0 with e | ⟨el, sp, e, el2⟩
    · rw [e]; simp
    · rw [← el2]; exact bulk_slice hk (by rw [← e]; simp)
  obtain ⟨s1, n1, c1, rfl⟩ := okWide_slice Tryd.underlying48 (hval 1 48 v1 rfl rfl)
  have k1 := h1
  have lt1 : ∀ x ∈ p1, x.block < W.heap.size := by obtain ⟨m, hm⟩ := k1; exact DataW.trod_lt m _ _ _ hm
  obtain ⟨a1, q1, l1, e1, hx1, hd1⟩ : ∃ a c ls, Value.slice s1 n1 c1 = .slice a (List.length ls) c ∧ Go.Proofs.YtbahhlgcebgfeaaDoor.IsPieces W a ls ∧ (ls = [] ∨ ∃ el sp, d1 = .slice el sp ∧ el.length = ls.length ∧ ∀ l ∈ ls, l = [] ∨ ∃ e2 s2, DataW.slice e2 s2 ∈ el ∧ e2.length = l.length) := by obtain ⟨m, hm⟩ := k1; exact Go.Proofs.YtbahhlgcebgfeaaDoor.isPieces_of Tryd.underlying48 (by kernel_rfl) Tryd.underlying30 Tryd.underlying5 (by kernel_rfl) (y := (d1, p1)) hm
  simp only [Value.slice.injEq] at e1
  obtain ⟨rfl, rfl, rfl⟩ := e1
  have b1 : l1.length ≤ 1048576 := by
    rcases hd1 with e | ⟨el, sp, e, el2, _⟩
    · rw [e]; simp
    · rw [← el2]; exact bulk_slice hk (by rw [← e]; simp)
  have g1 : ∀ l ∈ l1, l.length ≤ 1048576 := by
    rcases hd1 with e | ⟨el, sp, e, _, ea⟩
    · rw [e]; simp
    · intro l hl
      rcases ea l hl with g | ⟨e2, s2, h1, h2⟩
      · rw [g]; simp
      · rw [← h2]; exact bulk_inner (bulk_elem hk (by rw [← e]; simp) h1)
  obtain ⟨ea, he⟩ := err_cell hL
  clear hA0 hk hcond
  refine (sink_own he hp0 hn0 b0 hx1 b1 g1).mono fun e W' ⟨he', bel⟩ => ?_
  subst he'
  exact ⟨_, rfl, _, _, _, [], _, [], hW', trodAll_mk1 (shut_bool Tryd.underlying4 _), (trodAll_cons_mk (Below.trod laidOut (by kernel_rfl) (of_decide_eq_true (by kernel_rfl)) k0 bel lt0) (trodAll_cons_mk (Below.trod laidOut (by kernel_rfl) (of_decide_eq_true (by kernel_rfl)) k1 bel lt1) trodAll_mk0)), rfl, bel.frame _, fun h => by cases h⟩
theorem over : Rows.SinkOwnUptoSaid :=
  OpenClaim.holds_of_cond 9 Tryd.f9 rfl rfl rfl rfl rfl rfl rfl ⟨rfl, rfl, rfl, rfl, rfl⟩ rfl rfl rfl rfl rfl (by kernel_rfl) Tryd.func9 (by kernel_rfl)
    (of_decide_eq_true (by kernel_rfl)) (by unfold Func.isWrapper; first | (rw [if_pos (by decide +kernel)]; kernel_rfl) | (rw [if_neg (by decide +kernel)]; exact ⟨rfl, rfl⟩))
    (fun os started H enc _ F => by rw [OpenClaim.pre_eq_preRow]; exact lifted os started H enc F)
theorem card_over : Rows.SinkOwnUptoCardSaid :=
  Claim7.holds_tied_plain_at .later [] [.sentinel] true (true, "0e7432c2f7dc2f871313339061022ef5dee69a7d47e83665319126425cc5310d") true over (fun _ h => by cases h) (by kernel_rfl) (fun _ h => by cases h) sinkOwnUpto_row_tie rfl ⟨rfl, rfl⟩ (by kernel_rfl) rfl
    (fun f fn hf hfn => by
      obtain rfl : f = 9 := Option.some.inj ((show Tryd.prog.funcNamed "tumbler/tumblerlaw18.SinkOwn" = some 9 by kernel_rfl).symm.trans hf) |>.symm
      obtain rfl : fn = Tryd.f9 := (Option.some.inj (Tryd.func9.symm.trans hfn)).symm
      exact ⟨by kernel_rfl, fun j t ht => by
        rw [Tryd.params9] at ht
        have hm : t ∈ [22, 48] := by
          have := Array.mem_of_getElem? ht
          simp at this ⊢
          omega
        have hall : ([22, 48].all fun u => !Tryd.prog.wantsStandIn u) = true := by kernel_rfl
        exact (show Tryd.prog.wantsStandIn t = false by simpa using List.all_eq_true.1 hall t hm)⟩)
    (by kernel_rfl)
end Go.Proofs.YtbahhlgcebgfeaaDoor.sinkOwn
namespace Go.Proofs.YtbahhlgcebgfeaaDoor
theorem sinkOwn_holds : Rows.SinkOwnUptoCardSaid := sinkOwn.card_over
#print axioms sinkOwn_holds
end Go.Proofs.YtbahhlgcebgfeaaDoor
