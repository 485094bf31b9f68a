/-
  NameJoins: for every input the law returns true, and each argument reads afterwards as it read before. No condition on the input.
-/
import Derived.Test.YteahbdhhcfoiiaaDoorTie
import Derived.Test.YteahbdhhcfoiiaaDoorCards
import Derived.Lay
import Derived.LaidMore
import Derived.SevenTiedAt
import Derived.Stop.Joined
import Derived.Test.YteahbdhhcfoiiaaDoorRows
import Derived.Test.YteahbdhhcfoiiaaDoorLawnk
import Derived.WalkKit
import Derived.ProofKit
import Derived.OpenShut
import Derived.ShutString
import Derived.ChangeOld
import Derived.Below
import Derived.Lib.SmallJoins
import Derived.Deep.Fields
import Derived.SizedLaws
namespace Go.Proofs.YteahbdhhcfoiiaaDoor.nameJoins
open Go.ChangeShapes Go.WideShapes Go.ChangeAt Go.RowKit Go.Joins Go.Deep
open Go.ChangeMaps (open_string shut_string)
set_option linter.unusedVariables false
theorem own : ownKnob Tryd.prog.godebug = none := by kernel_rfl
theorem laidOut : laidOutB Tryd.prog = true := by kernel_rfl
set_option maxRecDepth 100000 in
theorem lifted (os : Os) (started : os.Started) (H : Type) (enc : TypeId × Value → H) :
    ReturnsInHanded {} Tryd.checked os 11 .any (fun w args => (Rows.nameJoinsSpec.pre enc Tryd.prog Tryd.f11 Rows.nameJoinsRow.domain false w args ∧ laidMetH Tryd.prog Rows.nameJoinsRow.laid w) ∧ sizedMet enc Tryd.prog Tryd.f11 (OpenSpec.ofChange Rows.nameJoinsSpec) false w args)
      (Rows.nameJoinsSpec.post enc Tryd.prog Tryd.f11 false true false false) := by
  refine Go.Proofs.YteahbdhhcfoiiaaDoor.handed_shaped (C := Tryd.checked) (X := fun w _ => laidMetH Tryd.prog Rows.nameJoinsRow.laid w) (fun _ _ _ hh h => h.of_heap hh) own started (by kernel_rfl) Tryd.func11
    (ChangeSpec.witness_shaped (enc := enc) (C := Tryd.checked) (os := os) (X := fun w _ => laidMetH Tryd.prog Rows.nameJoinsRow.laid w) false (World.laidAll Tryd.prog os Rows.nameJoinsRow.laid) #[.slice none 0 0] 8 (World.laidAll_os _ _ _)
      (World.shaped_of_ZipB (by kernel_rfl) (by kernel_rfl)) (by kernel_rfl) (by kernel_rfl) (by kernel_rfl)
      (by rw [MakeChecks.laidMetH_plain _ _ _ (by kernel_rfl)]; exact laidMet_laidAll _ (by kernel_rfl) (by kernel_rfl))) ?_
  intro W base args ds gs before hval0 hW hcnd hsz0 hL hsh _
  clear hcnd
  clear hL
  have hsz : (DataW.weightsEach Tryd.prog (Tryd.f11.params.toList ++ Rows.nameJoinsSpec.plain.varTypes Tryd.prog) (ds ++ gs)).all (· ≤ reachBytes) = true := hsz0
  clear hsz0
  have hval : ∀ (j : Nat) t v, Tryd.f11.params[j]? = some t → args[j]? = some v → Value.okWide Tryd.prog W .any base t v := hval0
  have hW' := hW
  obtain ⟨p, q, hA0, hV, rfl, hfz, hnd⟩ := hW
  have hA : DataW.TrodAll enc Tryd.prog W 0 (fun _ => true) true Tryd.f11.params.toList args.toList ds p := hA0
  rw [Tryd.params11] at hA hval hsz
  obtain ⟨v0, vs0, d0, ds0, p0, q0, hargs, rfl, rfl, h0, r0⟩ := trodAll_cons hA
  obtain ⟨rfl, rfl, rfl⟩ := trodAll_nil r0
  obtain rfl : args = #[v0] := by cases args; simp_all
  obtain ⟨rfl, rfl⟩ := trodVars_none hV
  obtain ⟨s0, n0, c0, rfl⟩ := okWide_slice Tryd.underlying26 (hval 0 26 v0 rfl rfl)
  have k0 := h0
  have lt0 : ∀ x ∈ p0, x.block < W.heap.size := by obtain ⟨m, hm⟩ := k0; exact DataW.trod_lt m _ _ _ hm
  obtain ⟨a0, q0, l0, e0, hx0, hd0⟩ : ∃ a c ps, Value.slice s0 n0 c0 = .slice a (List.length ps) c ∧ Go.Proofs.YteahbdhhcfoiiaaDoor.IsTxts W a ps ∧ (ps = [] ∨ ∃ sp, d0 = .slice (strs ps) sp) := by obtain ⟨m, hm⟩ := k0; exact Go.Proofs.YteahbdhhcfoiiaaDoor.isTxts_of Tryd.underlying26 Tryd.underlying9 (by kernel_rfl) (y := (d0, p0)) hm
  simp only [Value.slice.injEq] at e0
  obtain ⟨rfl, rfl, rfl⟩ := e0
  have wt0 : l0 = [] ∨ ∃ sp : List (DataW H), Go.Proofs.YteahbdhhcfoiiaaDoor.Wt Tryd.prog 26 (.slice (strs l0) sp) := by
    rcases hd0 with e | ⟨sp, e⟩
    · exact .inl e
    · exact .inr ⟨sp, Go.Proofs.YteahbdhhcfoiiaaDoor.wt_of hsz (j := 0) (t := 26) rfl (by simp; exact e)⟩
  have b0 : l0.length ≤ 8796093022208 := by
    rcases wt0 with e | ⟨sp, e⟩
    · rw [e]; simp
    · have h1 := Go.Proofs.YteahbdhhcfoiiaaDoor.wt_len e Tryd.underlying26
      rw [(by kernel_rfl : Tryd.prog.bytesOf 9 = 16), show (strs (H := H) l0).length = l0.length by simp [strs]] at h1
      have h2 : reachBytes ≤ 140737488351232 := by decide
      omega
  have g0 : ∀ q ∈ l0, q.size ≤ 140737488351232 := by
    rcases wt0 with e | ⟨sp, e⟩
    · rw [e]; simp
    · intro q hq
      have h1 := Go.Proofs.YteahbdhhcfoiiaaDoor.wt_text (Go.Proofs.YteahbdhhcfoiiaaDoor.wt_elem e Tryd.underlying26 (d := .lit (.string q.data.toList)) (List.mem_map_of_mem (f := fun s : ByteArray => (.lit (.string s.data.toList) : DataW H)) hq))
      simpa using h1
  clear hA0 hval0 hsz
  refine (Go.Proofs.YteahbdhhcfoiiaaDoor.law_NameJoins s0 c0 l0 g0 b0 W hsh hx0).mono fun e W' ⟨he, bel⟩ => ?_
  subst he
  exact ⟨_, rfl, _, _, _, [], _, [], hW', trodAll_mk1 (shut_bool Tryd.underlying4 _), (trodAll_cons_mk (Below.trod laidOut (by kernel_rfl) (of_decide_eq_true (by kernel_rfl)) k0 bel lt0) trodAll_mk0), rfl, bel.frame _, fun h => by cases h⟩
theorem over : Rows.nameJoinsRow.holds Tryd.pinned (OpenSpec.ofChange Rows.nameJoinsSpec) :=
  OpenClaim.holds_of_wide 11 Tryd.f11 rfl rfl rfl rfl rfl rfl rfl ⟨rfl, rfl, rfl, rfl, rfl⟩ rfl rfl rfl rfl rfl (by kernel_rfl) Tryd.func11 (by kernel_rfl)
    (of_decide_eq_true (by kernel_rfl)) (by unfold Func.isWrapper; first | (rw [if_pos (by decide +kernel)]; kernel_rfl) | (rw [if_neg (by decide +kernel)]; exact ⟨rfl, rfl⟩))
    (fun os started H enc _ => lifted os started H enc)
theorem card_over : Claim7.holds Tryd.pinned (.plain (OpenSpec.ofChange Rows.nameJoinsSpec)) Rows.nameJoinsCard :=
  Claim7.holds_tied_plain_at .later [] [.data, .pinned] true (true, "8977b7de2982af9174a8169210f0ef33ac48ebc04cff2ad46995dd75ba26efec") false over (fun _ h => by cases h) (by kernel_rfl) (fun _ h => by cases h) nameJoins_row_tie rfl ⟨rfl, rfl⟩ (by kernel_rfl) rfl
    (fun f fn hf hfn => by
      obtain rfl : f = 11 := Option.some.inj ((show Tryd.prog.funcNamed "tumbler/tumblerlaw03.NameJoins" = some 11 by kernel_rfl).symm.trans hf) |>.symm
      obtain rfl : fn = Tryd.f11 := (Option.some.inj (Tryd.func11.symm.trans hfn)).symm
      exact ⟨by kernel_rfl, fun j t ht => by
        rw [Tryd.params11] at ht
        have hm : t ∈ [26] := by simpa using Array.mem_of_getElem? ht
        have hall : ([26].all fun u => !Tryd.prog.wantsStandIn u) = true := by kernel_rfl
        exact (show Tryd.prog.wantsStandIn t = false by simpa using List.all_eq_true.1 hall t hm)⟩)
    (by kernel_rfl)
end Go.Proofs.YteahbdhhcfoiiaaDoor.nameJoins
namespace Go.Proofs.YteahbdhhcfoiiaaDoor
theorem nameJoins_holds : Rows.NameJoinsCardSaid := nameJoins.card_over
#print axioms nameJoins_holds
end Go.Proofs.YteahbdhhcfoiiaaDoor
