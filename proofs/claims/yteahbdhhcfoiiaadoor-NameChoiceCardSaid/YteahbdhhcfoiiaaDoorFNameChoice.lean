/-
  NameChoice: for every input the law returns true, and each argument reads afterwards as it read before. No condition on the input.
-/
import Derived.Test.YteahbdhhcfoiiaaDoorTie
import Derived.Test.YteahbdhhcfoiiaaDoorCards
import Derived.Lay
import Derived.LaidMore
import Derived.SevenTiedAt
import Derived.Stop.Joined
import Derived.Test.YteahbdhhcfoiiaaDoorRows
import Derived.Test.YteahbdhhcfoiiaaDoorQNameChoice
import Derived.WalkKit
import Derived.ProofKit
import Derived.OpenShut
import Derived.ShutString
import Derived.ChangeOld
import Derived.Below
import Derived.Lib.SmallJoins
import Derived.Deep.Fields
import Derived.SizedLaws
namespace Go.Proofs.YteahbdhhcfoiiaaDoor.nameChoice
open Go.ChangeShapes Go.WideShapes Go.ChangeAt Go.RowKit Go.Joins Go.Deep
open Go.ChangeMaps (open_string shut_string)
set_option linter.unusedVariables false
theorem own : ownKnob Tryd.prog.godebug = none := by kernel_rfl
theorem laidOut : laidOutB Tryd.prog = true := by kernel_rfl
set_option maxRecDepth 100000 in
theorem lifted (os : Os) (started : os.Started) (H : Type) (enc : TypeId × Value → H) :
    ReturnsInHanded {} Tryd.checked os 13 .any (fun w args => (Rows.nameChoiceSpec.pre enc Tryd.prog Tryd.f13 Rows.nameChoiceRow.domain false w args ∧ laidMetH Tryd.prog Rows.nameChoiceRow.laid w) ∧ sizedMet enc Tryd.prog Tryd.f13 (OpenSpec.ofChange Rows.nameChoiceSpec) false w args)
      (Rows.nameChoiceSpec.post enc Tryd.prog Tryd.f13 false true false false) := by
  refine Go.Proofs.YteahbdhhcfoiiaaDoor.handed_shaped (C := Tryd.checked) (X := fun w _ => laidMetH Tryd.prog Rows.nameChoiceRow.laid w) (fun _ _ _ hh h => h.of_heap hh) own started (by kernel_rfl) Tryd.func13
    (ChangeSpec.witness_shaped (enc := enc) (C := Tryd.checked) (os := os) (X := fun w _ => laidMetH Tryd.prog Rows.nameChoiceRow.laid w) false (World.laidAll Tryd.prog os Rows.nameChoiceRow.laid) #[.string ByteArray.empty, .slice none 0 0, .string ByteArray.empty, .string ByteArray.empty] 8 (World.laidAll_os _ _ _)
      (World.shaped_of_ZipB (by kernel_rfl) (by kernel_rfl)) (by kernel_rfl) (by kernel_rfl) (by kernel_rfl)
      (by rw [MakeChecks.laidMetH_plain _ _ _ (by kernel_rfl)]; exact laidMet_laidAll _ (by kernel_rfl) (by kernel_rfl))) ?_
  intro W base args ds gs before hval0 hW hcnd hsz0 hL hsh _
  clear hcnd
  clear hL
  have hsz : (DataW.weightsEach Tryd.prog (Tryd.f13.params.toList ++ Rows.nameChoiceSpec.plain.varTypes Tryd.prog) (ds ++ gs)).all (· ≤ reachBytes) = true := hsz0
  clear hsz0
  have hval : ∀ (j : Nat) t v, Tryd.f13.params[j]? = some t → args[j]? = some v → Value.okWide Tryd.prog W .any base t v := hval0
  have hW' := hW
  obtain ⟨p, q, hA0, hV, rfl, hfz, hnd⟩ := hW
  have hA : DataW.TrodAll enc Tryd.prog W 0 (fun _ => true) true Tryd.f13.params.toList args.toList ds p := hA0
  rw [Tryd.params13] at hA hval hsz
  obtain ⟨v0, vs0, d0, ds0, p0, q0, hargs, rfl, rfl, h0, r0⟩ := trodAll_cons hA
  obtain ⟨v1, vs1, d1, ds1, p1, q1, rfl, rfl, rfl, h1, r1⟩ := trodAll_cons r0
  obtain ⟨v2, vs2, d2, ds2, p2, q2, rfl, rfl, rfl, h2, r2⟩ := trodAll_cons r1
  obtain ⟨v3, vs3, d3, ds3, p3, q3, rfl, rfl, rfl, h3, r3⟩ := trodAll_cons r2
  obtain ⟨rfl, rfl, rfl⟩ := trodAll_nil r3
  obtain rfl : args = #[v0, v1, v2, v3] := by cases args; simp_all
  obtain ⟨rfl, rfl⟩ := trodVars_none hV
  obtain ⟨a0, rfl, rfl, rfl, w0⟩ := open_string Tryd.underlying9 (hval 0 9 v0 rfl rfl) h0
  obtain ⟨s1, n1, c1, rfl⟩ := okWide_slice Tryd.underlying26 (hval 1 26 v1 rfl rfl)
  have k1 := h1
  have lt1 : ∀ x ∈ p1, x.block < W.heap.size := by obtain ⟨m, hm⟩ := k1; exact DataW.trod_lt m _ _ _ hm
  obtain ⟨a1, q1, l1, e1, hx1, hd1⟩ : ∃ a c ps, Value.slice s1 n1 c1 = .slice a (List.length ps) c ∧ Go.Proofs.YteahbdhhcfoiiaaDoor.IsTxts W a ps ∧ (ps = [] ∨ ∃ sp, d1 = .slice (strs ps) sp) := by obtain ⟨m, hm⟩ := k1; exact Go.Proofs.YteahbdhhcfoiiaaDoor.isTxts_of Tryd.underlying26 Tryd.underlying9 (by kernel_rfl) (y := (d1, p1)) hm
  simp only [Value.slice.injEq] at e1
  obtain ⟨rfl, rfl, rfl⟩ := e1
  obtain ⟨a2, rfl, rfl, rfl, w2⟩ := open_string Tryd.underlying9 (hval 2 9 v2 rfl rfl) h2
  obtain ⟨a3, rfl, rfl, rfl, w3⟩ := open_string Tryd.underlying9 (hval 3 9 v3 rfl rfl) h3
  have s0 : a0.size ≤ 140737488351232 := by
    have h1 := sized_string hsz (j := 0) (t := 9) rfl rfl
    have h2 : reachBytes ≤ 140737488351232 := by decide
    rw [show a0.data.toList.length = a0.size by simp] at h1
    omega
  have s2 : a2.size ≤ 140737488351232 := by
    have h1 := sized_string hsz (j := 2) (t := 9) rfl rfl
    have h2 : reachBytes ≤ 140737488351232 := by decide
    rw [show a2.data.toList.length = a2.size by simp] at h1
    omega
  have s3 : a3.size ≤ 140737488351232 := by
    have h1 := sized_string hsz (j := 3) (t := 9) rfl rfl
    have h2 : reachBytes ≤ 140737488351232 := by decide
    rw [show a3.data.toList.length = a3.size by simp] at h1
    omega
  have wt1 : l1 = [] ∨ ∃ sp : List (DataW H), Go.Proofs.YteahbdhhcfoiiaaDoor.Wt Tryd.prog 26 (.slice (strs l1) sp) := by
    rcases hd1 with e | ⟨sp, e⟩
    · exact .inl e
    · exact .inr ⟨sp, Go.Proofs.YteahbdhhcfoiiaaDoor.wt_of hsz (j := 1) (t := 26) rfl (by simp; exact e)⟩
  have b1 : l1.length ≤ 8796093022208 := by
    rcases wt1 with e | ⟨sp, e⟩
    · rw [e]; simp
    · have h1 := Go.Proofs.YteahbdhhcfoiiaaDoor.wt_len e Tryd.underlying26
      rw [(by kernel_rfl : Tryd.prog.bytesOf 9 = 16), show (strs (H := H) l1).length = l1.length by simp [strs]] at h1
      have h2 : reachBytes ≤ 140737488351232 := by decide
      omega
  have g1 : ∀ q ∈ l1, q.size ≤ 140737488351232 := by
    rcases wt1 with e | ⟨sp, e⟩
    · rw [e]; simp
    · intro q hq
      have h1 := Go.Proofs.YteahbdhhcfoiiaaDoor.wt_text (Go.Proofs.YteahbdhhcfoiiaaDoor.wt_elem e Tryd.underlying26 (d := .lit (.string q.data.toList)) (List.mem_map_of_mem (f := fun s : ByteArray => (.lit (.string s.data.toList) : DataW H)) hq))
      simpa using h1
  clear hA0 hval0 hsz
  refine (Go.Proofs.YteahbdhhcfoiiaaDoor.law_NameChoice a0 s1 c1 l1 a2 a3 (by omega) g1 b1 (by omega) (by omega) W hsh hx1).mono fun e W' ⟨he, bel⟩ => ?_
  subst he
  exact ⟨_, rfl, _, _, _, [], _, [], hW', trodAll_mk1 (shut_bool Tryd.underlying4 _), (trodAll_cons_mk (shut_string Tryd.underlying9 w0) (trodAll_cons_mk (Below.trod laidOut (by kernel_rfl) (of_decide_eq_true (by kernel_rfl)) k1 bel lt1) (trodAll_cons_mk (shut_string Tryd.underlying9 w2) (trodAll_cons_mk (shut_string Tryd.underlying9 w3) trodAll_mk0)))), rfl, bel.frame _, fun h => by cases h⟩
theorem over : Rows.nameChoiceRow.holds Tryd.pinned (OpenSpec.ofChange Rows.nameChoiceSpec) :=
  OpenClaim.holds_of_wide 13 Tryd.f13 rfl rfl rfl rfl rfl rfl rfl ⟨rfl, rfl, rfl, rfl, rfl⟩ rfl rfl rfl rfl rfl (by kernel_rfl) Tryd.func13 (by kernel_rfl)
    (of_decide_eq_true (by kernel_rfl)) (by unfold Func.isWrapper; first | (rw [if_pos (by decide +kernel)]; kernel_rfl) | (rw [if_neg (by decide +kernel)]; exact ⟨rfl, rfl⟩))
    (fun os started H enc _ => lifted os started H enc)
theorem card_over : Claim7.holds Tryd.pinned (.plain (OpenSpec.ofChange Rows.nameChoiceSpec)) Rows.nameChoiceCard :=
  Claim7.holds_tied_plain_at .later [] [.data, .pinned] true (true, "8977b7de2982af9174a8169210f0ef33ac48ebc04cff2ad46995dd75ba26efec") false over (fun _ h => by cases h) (by kernel_rfl) (fun _ h => by cases h) nameChoice_row_tie rfl ⟨rfl, rfl⟩ (by kernel_rfl) rfl
    (fun f fn hf hfn => by
      obtain rfl : f = 13 := Option.some.inj ((show Tryd.prog.funcNamed "tumbler/tumblerlaw03.NameChoice" = some 13 by kernel_rfl).symm.trans hf) |>.symm
      obtain rfl : fn = Tryd.f13 := (Option.some.inj (Tryd.func13.symm.trans hfn)).symm
      exact ⟨by kernel_rfl, fun j t ht => by
        rw [Tryd.params13] at ht
        have hm : t ∈ [9, 26, 9, 9] := by simpa using Array.mem_of_getElem? ht
        have hall : ([9, 26, 9, 9].all fun u => !Tryd.prog.wantsStandIn u) = true := by kernel_rfl
        exact (show Tryd.prog.wantsStandIn t = false by simpa using List.all_eq_true.1 hall t hm)⟩)
    (by kernel_rfl)
end Go.Proofs.YteahbdhhcfoiiaaDoor.nameChoice
namespace Go.Proofs.YteahbdhhcfoiiaaDoor
theorem nameChoice_holds : Rows.NameChoiceCardSaid := nameChoice.card_over
#print axioms nameChoice_holds
end Go.Proofs.YteahbdhhcfoiiaaDoor
