/-
  WireStreams: for every input the law returns true, and each argument reads afterwards as it read before. No condition on the input.
-/
import Derived.Test.YthaphijkfedihaaRows
import Derived.Test.YthaphijkfedihaaLawsk
import Derived.WalkKit
import Derived.ProofKit
import Derived.OpenShut
import Derived.ShutString
import Derived.ChangeOld
import Derived.Below
import Derived.Lib.SmallJoins
import Derived.Deep.Fields
import Derived.SizedLaws
import Derived.JoinedCond
import Derived.Test.YthaphijkfedihaaBulk
namespace Go.Proofs.Ythaphijkfedihaa.wireStreams
open Go.ChangeShapes Go.WideShapes Go.ChangeAt Go.RowKit Go.Joins Go.Deep
open Go.ChangeMaps (open_string shut_string)
set_option linter.unusedVariables false
theorem own : ownKnob Try.prog.godebug = none := by kernel_rfl
theorem laidOut : laidOutB Try.prog = true := by kernel_rfl
set_option maxRecDepth 100000 in
theorem lifted (os : Os) (started : os.Started) (H : Type) (enc : TypeId × Value → H) (F : Stop.Interp) :
    ReturnsInHanded {} Try.checked os 4 .any ((Rows.OpenSpec.upto Rows.wireStreamsSpec).pre6 enc Try.prog Try.f4 Rows.wireStreamsUptoRow.domain false) (((Rows.OpenSpec.upto Rows.wireStreamsSpec).at F).post enc Try.prog Try.f4 false true false false) := by
  refine returnsInHanded_of_cond (C := Try.checked) (s := Rows.OpenSpec.upto Rows.wireStreamsSpec) (k := Rows.uptoSmall) rfl own started (by kernel_rfl) Try.func4
    (OpenSpec.witness (enc := enc) (C := Try.checked) (s := Rows.OpenSpec.upto Rows.wireStreamsSpec) (k := Rows.uptoSmall) rfl false ⟨#[], #[.int .i64 0, .slice none 0 0, .slice none 0 0], []⟩ 8 (by kernel_rfl) (by kernel_rfl) (by kernel_rfl)
      (x := ([.lit (.int .i64 0), .nil, .nil], [], [])) (by kernel_rfl) rfl (by kernel_rfl)) ?_
  intro W base args ds gs before hval0 hW _ hk _
  have hval : ∀ (j : Nat) t v, Try.f4.params[j]? = some t → args[j]? = some v → Value.okWide Try.prog W .any base t v := hval0
  have hW' := hW
  obtain ⟨p, q, hA0, hV, rfl, hfz, hnd⟩ := hW
  have hA : DataW.TrodAll enc Try.prog W 0 (fun _ => true) true Try.f4.params.toList args.toList ds p := hA0
  rw [Try.params4] at hA hval
  obtain ⟨v0, vs0, d0, ds0, p0, q0, hargs, rfl, rfl, h0, r0⟩ := trodAll_cons hA
  obtain ⟨v1, vs1, d1, ds1, p1, q1, rfl, rfl, rfl, h1, r1⟩ := trodAll_cons r0
  obtain ⟨v2, vs2, d2, ds2, p2, q2, rfl, rfl, rfl, h2, r2⟩ := trodAll_cons r1
  obtain ⟨rfl, rfl, rfl⟩ := trodAll_nil r2
  obtain rfl : args = #[v0, v1, v2] := by cases args; simp_all
  obtain ⟨rfl, rfl⟩ := trodVars_none hV
  obtain ⟨a0, rfl, rfl, rfl, w0⟩ := open_int Try.underlying3 (hval 0 3 v0 rfl rfl) h0
  obtain ⟨s1, n1, c1, rfl⟩ := okWide_slice Try.underlying44 (hval 1 44 v1 rfl rfl)
  have k1 := h1
  have lt1 : ∀ x ∈ p1, x.block < W.heap.size := by obtain ⟨m, hm⟩ := k1; exact DataW.trod_lt m _ _ _ hm
  obtain ⟨a1, q1, l1, e1, hx1, hd1⟩ : ∃ a c ls, Value.slice s1 n1 c1 = .slice a (List.length ls) c ∧ Go.Proofs.Ythaphijkfedihaa.IsPieces W a ls ∧ (ls = [] ∨ ∃ el sp, d1 = .slice el sp ∧ el.length = ls.length ∧ ∀ l ∈ ls, l = [] ∨ ∃ e2 s2, DataW.slice e2 s2 ∈ el ∧ e2.length = l.length) := by obtain ⟨m, hm⟩ := k1; exact Go.Proofs.Ythaphijkfedihaa.isPieces_of Try.underlying44 (by kernel_rfl) Try.underlying35 Try.underlying5 (by kernel_rfl) (y := (d1, p1)) hm
  simp only [Value.slice.injEq] at e1
  obtain ⟨rfl, rfl, rfl⟩ := e1
  have b1 : l1.length ≤ 1048576 := by
    rcases hd1 with e | ⟨el, sp, e, el2, _⟩
    · rw [e]; simp
    · rw [← el2]; exact Go.Proofs.Ythaphijkfedihaa.bulk_slice hk (by rw [← e]; simp)
  have g1 : ∀ l ∈ l1, l.length ≤ 1048576 := by
    rcases hd1 with e | ⟨el, sp, e, _, ea⟩
    · rw [e]; simp
    · intro l hl
      rcases ea l hl with g | ⟨e2, s2, h1, h2⟩
      · rw [g]; simp
      · rw [← h2]; exact Go.Proofs.Ythaphijkfedihaa.bulk_inner (Go.Proofs.Ythaphijkfedihaa.bulk_elem hk (by rw [← e]; simp) h1)
  obtain ⟨s2, n2, c2, rfl⟩ := okWide_slice Try.underlying45 (hval 2 45 v2 rfl rfl)
  have k2 := h2
  have lt2 : ∀ x ∈ p2, x.block < W.heap.size := by obtain ⟨m, hm⟩ := k2; exact DataW.trod_lt m _ _ _ hm
  obtain ⟨a2, q2, l2, e2, hx2, hd2⟩ : ∃ a c bs, Value.slice s2 n2 c2 = .slice a (List.length bs) c ∧ Go.Proofs.Ythaphijkfedihaa.IsBools W a bs ∧ (bs = [] ∨ ∃ el sp, d2 = .slice el sp ∧ el.length = bs.length) := by obtain ⟨m, hm⟩ := k2; exact Go.Proofs.Ythaphijkfedihaa.isBools_of Try.underlying45 (by kernel_rfl) Try.underlying4 (y := (d2, p2)) hm
  simp only [Value.slice.injEq] at e2
  obtain ⟨rfl, rfl, rfl⟩ := e2
  have b2 : l2.length ≤ 1048576 := by
    rcases hd2 with e | ⟨el, sp, e, el2⟩
    · rw [e]; simp
    · rw [← el2]; exact Go.Proofs.Ythaphijkfedihaa.bulk_slice hk (by rw [← e]; simp)
  clear hA0 hval0
  refine (Go.Proofs.Ythaphijkfedihaa.law_WireStreams a0 s1 c1 l1 s2 c2 l2 w0 g1 b1 b2 W hx1 hx2).mono fun e W' ⟨he, bel⟩ => ?_
  subst he
  exact ⟨_, rfl, _, _, _, [], _, [], hW', trodAll_mk1 (shut_bool Try.underlying4 _), (trodAll_cons_mk (shut_int Try.underlying3 w0) (trodAll_cons_mk (Below.trod laidOut (by kernel_rfl) (of_decide_eq_true (by kernel_rfl)) k1 bel lt1) (trodAll_cons_mk (Below.trod laidOut (by kernel_rfl) (of_decide_eq_true (by kernel_rfl)) k2 bel lt2) trodAll_mk0))), rfl, bel.frame _, fun h => by cases h⟩
theorem over : Rows.wireStreamsUptoRow.holds Try.pinned (Rows.OpenSpec.upto Rows.wireStreamsSpec) :=
  OpenClaim.holds_of_cond 4 Try.f4 rfl rfl rfl rfl rfl rfl rfl ⟨rfl, rfl, rfl, rfl, rfl⟩ rfl rfl rfl rfl rfl (by kernel_rfl) Try.func4 (by kernel_rfl)
    (of_decide_eq_true (by kernel_rfl)) (by unfold Func.isWrapper; first | (rw [if_pos (by decide +kernel)]; kernel_rfl) | (rw [if_neg (by decide +kernel)]; exact ⟨rfl, rfl⟩))
    (fun os started H enc _ F => lifted os started H enc F)
end Go.Proofs.Ythaphijkfedihaa.wireStreams
namespace Go.Proofs.Ythaphijkfedihaa
theorem wireStreams_holds : Rows.WireStreamsUptoSaid := wireStreams.over
#print axioms wireStreams_holds
end Go.Proofs.Ythaphijkfedihaa
