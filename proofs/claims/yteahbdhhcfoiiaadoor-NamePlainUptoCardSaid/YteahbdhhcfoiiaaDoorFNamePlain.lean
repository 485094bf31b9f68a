/-
  NamePlain: for every input the law returns true, and each argument reads afterwards as it read before. No condition on the input.
-/
import Derived.JoinedCond
import Derived.Deep.DeepHandedRow
import Derived.Deep.DeepWitnessRowRef
import Derived.Test.YteahbdhhcfoiiaaDoorG06
import Derived.Test.YteahbdhhcfoiiaaDoorTie
import Derived.Test.YteahbdhhcfoiiaaDoorCards
import Derived.Lay
import Derived.LaidMore
import Derived.SevenTiedAt
import Derived.Stop.Joined
import Derived.Test.YteahbdhhcfoiiaaDoorRows
import Derived.Test.YteahbdhhcfoiiaaDoorQNamePlain
import Derived.WalkKit
import Derived.ProofKit
import Derived.OpenShut
import Derived.ShutString
import Derived.ChangeOld
import Derived.Below
import Derived.Lib.SmallJoins
import Derived.Deep.Fields
import Derived.SizedLaws
namespace Go.Proofs.YteahbdhhcfoiiaaDoor.namePlain
open Go.ChangeShapes Go.WideShapes Go.ChangeAt Go.RowKit Go.Joins Go.Deep
open Go.ChangeMaps (open_string shut_string)
set_option linter.unusedVariables false
theorem own : ownKnob Tryd.prog.godebug = none := by kernel_rfl
theorem laidOut : laidOutB Tryd.prog = true := by kernel_rfl
abbrev A0 : Array Value := #[.agg #[.slice none 0 0]]
noncomputable abbrev WL (os : Os) : World := World.laidAll Tryd.prog os Rows.namePlainUptoRow.laid
theorem laid_met (os : Os) : laidMet Tryd.prog Rows.namePlainUptoRow.laid ((WL os).forCall (fun _ _ => 0) ⟨#[], A0, []⟩).memory := laidMet_laidAll _ (by kernel_rfl) (by kernel_rfl)
theorem reads (os : Os) {H : Type} (enc : TypeId × Value → H) : ∃ places, DataW.whole enc Tryd.prog ((WL os).forCall (fun _ _ => 0) ⟨#[], A0, []⟩).memory Tryd.f8.params.toList Rows.namePlainSpec.vars false A0.toList 8 = some ([.agg [.nil]], [], places) :=
  ⟨[], by kernel_rfl⟩
set_option maxRecDepth 100000 in
theorem lifted (os : Os) (started : os.Started) (H : Type) (enc : TypeId × Value → H) (F : Stop.Interp) :
    ReturnsInHanded {} Tryd.checked os 8 .any ((Rows.OpenSpec.upto Rows.namePlainSpec).preRow enc Tryd.prog Tryd.f8 Rows.namePlainUptoRow.domain false Rows.namePlainUptoRow.laid) (((Rows.OpenSpec.upto Rows.namePlainSpec).at F).post enc Tryd.prog Tryd.f8 false true false false) := by
  obtain ⟨places, hx⟩ := reads os enc
  refine returnsInHanded_of_row (C := Tryd.checked) (s := Rows.OpenSpec.upto Rows.namePlainSpec) own started (by kernel_rfl) Tryd.func8
    (witness_row_atRef (enc := enc) (C := Tryd.checked) false (WL os) A0 (World.laidAll_os _ _ _) (by kernel_rfl) (by kernel_rfl) (by kernel_rfl)
      (OpenSpec.preRow_of_cond 8 hx (by kernel_rfl) (fun k hk => by cases hk; kernel_rfl) (by kernel_rfl) (laid_met os))) ?_
  intro W base args ds gs before hval0 hW hcnd hcond hsz0 hL hsh _
  have hk := hcond _ rfl
  clear hcnd
  clear hL
  have hsz : (DataW.weightsEach Tryd.prog (Tryd.f8.params.toList ++ Rows.namePlainSpec.plain.varTypes Tryd.prog) (ds ++ gs)).all (· ≤ reachBytes) = true := hsz0
  clear hsz0
  have hval : ∀ (j : Nat) t v, Tryd.f8.params[j]? = some t → args[j]? = some v → Value.okWide Tryd.prog W .any base t v := hval0
  have hW' := hW
  obtain ⟨p, q, hA0, hV, rfl, hfz, hnd⟩ := hW
  have hA : DataW.TrodAll enc Tryd.prog W 0 (fun _ => true) true Tryd.f8.params.toList args.toList ds p := hA0
  rw [Tryd.params8] at hA hval hsz
  obtain ⟨v0, vs0, d0, ds0, p0, q0, hargs, rfl, rfl, h0, r0⟩ := trodAll_cons hA
  obtain ⟨rfl, rfl, rfl⟩ := trodAll_nil r0
  obtain rfl : args = #[v0] := by cases args; simp_all
  obtain ⟨rfl, rfl⟩ := trodVars_none hV
  have k0 := h0
  have lt0 : ∀ x ∈ p0, x.block < W.heap.size := by obtain ⟨m, hm⟩ := k0; exact DataW.trod_lt m _ _ _ hm
  obtain ⟨cs0, rfl, hz0⟩ := okWide_struct Tryd.underlying33 (hval 0 33 v0 rfl rfl)
  obtain ⟨fuel0, hf0⟩ := h0
  obtain ⟨s0, c0, l0, e0, lc0, hx0, wp0, bu0⟩ := Go.Proofs.YteahbdhhcfoiiaaDoor.rd_pat2 hf0
  obtain rfl : cs0 = #[.slice s0 l0.length c0] := by cases cs0; simpa [Value.cells] using e0
  have pw0 := wp0 (Go.Proofs.YteahbdhhcfoiiaaDoor.wt_of hsz (j := 0) (t := 33) rfl (by simp))
  have bw0 : Go.Proofs.YteahbdhhcfoiiaaDoor.patW l0 ≤ 4398046511104 := by
    have h1 := Go.Proofs.YteahbdhhcfoiiaaDoor.bulk_le hk
    have h2 : Rows.uptoBulk d0 ≤ 1048576 := Nat.le_trans (Go.Proofs.YteahbdhhcfoiiaaDoor.bulk_mem (by simp)) h1
    have h3 : Go.Proofs.YteahbdhhcfoiiaaDoor.patW l0 ≤ Rows.uptoBulk d0 := bu0
    omega
  clear hA0 hval0 hsz
  refine (Go.Proofs.YteahbdhhcfoiiaaDoor.law_NamePlain s0 c0 l0 pw0 bw0 W hsh hx0).mono fun e W' ⟨he, bel⟩ => ?_
  subst he
  exact ⟨_, rfl, _, _, _, [], _, [], hW', trodAll_mk1 (shut_bool Tryd.underlying4 _), (trodAll_cons_mk (Below.trod laidOut (by kernel_rfl) (of_decide_eq_true (by kernel_rfl)) k0 bel lt0) trodAll_mk0), rfl, bel.frame _, fun h => by cases h⟩
theorem over : Rows.namePlainUptoRow.holds Tryd.pinned (Rows.OpenSpec.upto Rows.namePlainSpec) :=
  OpenClaim.holds_of_cond 8 Tryd.f8 rfl rfl rfl rfl rfl rfl rfl ⟨rfl, rfl, rfl, rfl, rfl⟩ rfl rfl rfl rfl rfl (by kernel_rfl) Tryd.func8 (by kernel_rfl)
    (of_decide_eq_true (by kernel_rfl)) (by unfold Func.isWrapper; first | (rw [if_pos (by decide +kernel)]; kernel_rfl) | (rw [if_neg (by decide +kernel)]; exact ⟨rfl, rfl⟩))
    (fun os started H enc _ F => by rw [OpenClaim.pre_eq_preRow]; exact lifted os started H enc F)
theorem card_over : Claim7.holds Tryd.pinned (.plain (Rows.OpenSpec.upto Rows.namePlainSpec)) Rows.namePlainUptoCard :=
  Claim7.holds_tied_plain_at .later [] [.data, .pinned] true (true, "8977b7de2982af9174a8169210f0ef33ac48ebc04cff2ad46995dd75ba26efec") false over (fun _ h => by cases h) (by kernel_rfl) (fun _ h => by cases h) namePlainUpto_row_tie rfl ⟨rfl, rfl⟩ (by kernel_rfl) rfl
    (fun f fn hf hfn => by
      obtain rfl : f = 8 := Option.some.inj ((show Tryd.prog.funcNamed "tumbler/tumblerlaw03.NamePlain" = some 8 by kernel_rfl).symm.trans hf) |>.symm
      obtain rfl : fn = Tryd.f8 := (Option.some.inj (Tryd.func8.symm.trans hfn)).symm
      exact ⟨by kernel_rfl, fun j t ht => by
        rw [Tryd.params8] at ht
        have hm : t ∈ [33] := by
          have := Array.mem_of_getElem? ht
          simp at this ⊢
          omega
        have hall : ([33].all fun u => !Tryd.prog.wantsStandIn u) = true := by kernel_rfl
        exact (show Tryd.prog.wantsStandIn t = false by simpa using List.all_eq_true.1 hall t hm)⟩)
    (by kernel_rfl)
end Go.Proofs.YteahbdhhcfoiiaaDoor.namePlain
namespace Go.Proofs.YteahbdhhcfoiiaaDoor
theorem namePlain_holds : Rows.NamePlainUptoCardSaid := namePlain.card_over
#print axioms namePlain_holds
end Go.Proofs.YteahbdhhcfoiiaaDoor
