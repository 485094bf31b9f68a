/-
  TimerWithin: for every input the law returns true, and each argument reads afterwards as it read before. No condition on the input.
-/
import Derived.Test.YtebiddmadmmfpaaRows
import Derived.Test.YtebiddmadmmfpaaQTimerWithin
import Derived.WalkKit
import Derived.ProofKit
import Derived.OpenShut
import Derived.ShutString
import Derived.ChangeOld
import Derived.Below
import Derived.Lib.SmallJoins
import Derived.Deep.Fields
import Derived.SizedLaws
namespace Go.Proofs.Ytebiddmadmmfpaa.timerWithin
open Go.ChangeShapes Go.WideShapes Go.ChangeAt Go.RowKit Go.Joins Go.Deep
open Go.ChangeMaps (open_string shut_string)
set_option linter.unusedVariables false
theorem own : ownKnob Try.prog.godebug = none := by kernel_rfl
theorem laidOut : laidOutB Try.prog = true := by kernel_rfl
set_option maxRecDepth 100000 in
theorem lifted (os : Os) (started : os.Started) (H : Type) (enc : TypeId × Value → H) :
    ReturnsInHanded {} Try.checked os 9 .any (Rows.timerWithinSpec.pre6 enc Try.prog Try.f9 Rows.timerWithinRow.domain false) (Rows.timerWithinSpec.post enc Try.prog Try.f9 false true false false) := by
  refine returnsInHanded_of_change_sized (C := Try.checked) own started (by kernel_rfl) Try.func9
    (ChangeSpec.witness6 (enc := enc) (C := Try.checked) false ⟨#[], #[.slice none 0 0], []⟩ 8 (by kernel_rfl) (by kernel_rfl) (by kernel_rfl) (by kernel_rfl)) ?_
  intro W base args ds gs before hval0 hW hcnd hsz0 _
  have hsz : (DataW.weightsEach Try.prog (Try.f9.params.toList ++ Rows.timerWithinSpec.plain.varTypes Try.prog) (ds ++ gs)).all (· ≤ reachBytes) = true := hsz0
  clear hsz0
  have hval : ∀ (j : Nat) t v, Try.f9.params[j]? = some t → args[j]? = some v → Value.okWide Try.prog W .any base t v := hval0
  have hW' := hW
  obtain ⟨p, q, hA0, hV, rfl, hfz, hnd⟩ := hW
  have hA : DataW.TrodAll enc Try.prog W 0 (fun _ => true) true Try.f9.params.toList args.toList ds p := hA0
  rw [Try.params9] at hA hval hsz
  obtain ⟨v0, vs0, d0, ds0, p0, q0, hargs, rfl, rfl, h0, r0⟩ := trodAll_cons hA
  obtain ⟨rfl, rfl, rfl⟩ := trodAll_nil r0
  obtain rfl : args = #[v0] := by cases args; simp_all
  obtain ⟨rfl, rfl⟩ := trodVars_none hV
  obtain ⟨s0, n0, c0, rfl⟩ := okWide_slice Try.underlying29 (hval 0 29 v0 rfl rfl)
  have k0 := h0
  have lt0 : ∀ x ∈ p0, x.block < W.heap.size := by obtain ⟨m, hm⟩ := k0; exact DataW.trod_lt m _ _ _ hm
  obtain ⟨a0, q0, x0, e0, hc0, hm0, hn0, hx0, wx0, hd0⟩ : ∃ a c xs, Value.slice s0 n0 c0 = .slice a (List.length xs) c ∧ xs.length ≤ c ∧ c ≤ 9223372036854775807 ∧ (a = none → xs.length = 0 ∧ c = 0) ∧ Go.Proofs.Ytebiddmadmmfpaa.IsInts .i64 W a xs ∧ (∀ x ∈ xs, (Lit.int .i64 x).wf = true) ∧ (xs = [] ∨ ∃ el sp, d0 = .slice el sp ∧ el.length = xs.length) := by obtain ⟨m, hm⟩ := k0; exact Go.Proofs.Ytebiddmadmmfpaa.isIntu_of Try.underlying29 Try.underlying2 (by kernel_rfl) (y := (d0, p0)) hm
  simp only [Value.slice.injEq] at e0
  obtain ⟨rfl, rfl, rfl⟩ := e0
  have b0 : x0.length ≤ 17592186044416 := by
    rcases hd0 with e | ⟨el, sp, e, el2⟩
    · rw [e]; simp
    · have h1 := sized_slice hsz (j := 0) (t := 29) (e := 2) (elems := el) (spare := sp) rfl (by simp; exact e) Try.underlying29
      rw [(by kernel_rfl : Try.prog.bytesOf 2 = 8)] at h1
      have h2 : reachBytes ≤ 140737488351232 := by decide
      omega
  clear hA0 hval0 hsz
  refine (Go.Proofs.Ytebiddmadmmfpaa.law_TimerWithin s0 c0 x0 wx0 b0 hc0 hm0 hn0 W hx0).mono fun e W' ⟨he, bel⟩ => ?_
  subst he
  exact ⟨_, rfl, _, _, _, [], _, [], hW', trodAll_mk1 (shut_bool Try.underlying4 _), (trodAll_cons_mk (Below.trod laidOut (by kernel_rfl) (of_decide_eq_true (by kernel_rfl)) k0 bel lt0) trodAll_mk0), rfl, bel.frame _, fun h => by cases h⟩
theorem over : Rows.timerWithinRow.holds Try.pinned (OpenSpec.ofChange Rows.timerWithinSpec) :=
  OpenClaim.holds_of_wide 9 Try.f9 rfl rfl rfl rfl rfl rfl rfl ⟨rfl, rfl, rfl, rfl, rfl⟩ rfl rfl rfl rfl rfl (by kernel_rfl) Try.func9 (by kernel_rfl)
    (of_decide_eq_true (by kernel_rfl)) (by unfold Func.isWrapper; first | (rw [if_pos (by decide +kernel)]; kernel_rfl) | (rw [if_neg (by decide +kernel)]; exact ⟨rfl, rfl⟩))
    (fun os started H enc _ => lifted os started H enc)
end Go.Proofs.Ytebiddmadmmfpaa.timerWithin
namespace Go.Proofs.Ytebiddmadmmfpaa
theorem timerWithin_holds : Rows.TimerWithinSaid := timerWithin.over
#print axioms timerWithin_holds
end Go.Proofs.Ytebiddmadmmfpaa
