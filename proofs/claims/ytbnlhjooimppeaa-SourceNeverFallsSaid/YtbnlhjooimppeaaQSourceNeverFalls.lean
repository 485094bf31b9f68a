/- Texts that belong together: Lawsn FSourceNeverFalls. -/
import Derived.Test.YtbnlhjooimppeaaG04
import Derived.Deep.CutRange
import Derived.Test.YtbnlhjooimppeaaRows
import Derived.Test.YtbnlhjooimppeaaG03
import Derived.WalkKit
import Derived.ProofKit
import Derived.OpenShut
import Derived.ShutString
import Derived.ChangeOld
import Derived.Below
import Derived.SizedLaws
import Derived.Deep.SlicePairs
set_option linter.unusedSimpArgs false
set_option linter.unusedVariables false
/- source: SourceNeverFalls. -/
namespace Go.Proofs.Ytbnlhjooimppeaa
set_option linter.unusedVariables false
set_option linter.unusedSimpArgs false
open Go.RowKit W Go.Maps
set_option maxRecDepth 100000 in
set_option maxHeartbeats 8000000 in
theorem law_SourceNeverFalls (late : Int) (a : Option Addr) (n c : Nat) (L : List Oq) (hn : L.length = n ∧ n ≤ 140737488355328) (hsz : ∀ o ∈ L, o.nm.size ≤ maxLen) (W : World) (hI : IsOq W a L) :
    Calls Try.prog 9 #[.int .i64 late, .slice a n c] W fun e w' => e = .returned (.bool true) ∧ Below W.heap.size W w' := by
  obtain ⟨hl, hb⟩ := hn
  have ka := alive11_spec
  have HL := hide hl
  have HS := hide hsz
  have HI := hide hI
  clear hl hsz hI
  by_cases hs : 0 ≤ late ∧ late ≤ 1099511627775
  · obtain ⟨hs1, hs2⟩ := hs
    have kn := tnew_ok 1024 (by decide) (by decide) late 100 ((secB_iff _).2 ⟨hs1, hs2⟩) (by decide) (by decide) W
    rw [show ((1024 : Nat) : Int) = 1024 from rfl] at kn
    have d1 : decide (late < 0) = false := by rw [decide_eq_false_iff_not]; omega
    have d2 : decide (1099511627775 < late) = false := by rw [decide_eq_false_iff_not]; omega
    go_enter Try.func9, Try.ntmps9
    go_wp2_with (go_at_call 31; refine kn.mono ?_; rintro e w1 ⟨b, rfl, t1, b1⟩)
    have N1 : Hid (NF W b 1024 late 100 w1 (.slice none 0 0) (.slice none 0 0) [] [] [] 0) := ⟨t1, b1, rfl⟩
    have km := tmark t1
    clear kn t1 b1
    go_wp2_with (go_at_call 35; refine km.mono ?_; rintro e w' ⟨rfl, rfl⟩)
    clear km
    go_loopw [7] (fun s7 wr => ∃ (i : Nat) (v1 v2 : Value) (A : List Sr) (r1 r2 : List En) (mark : Int), s7 = .int .i64 (i : Int) ∧ i ≤ n ∧ Hid (NF W b 1024 late 100 wr v1 v2 A r1 r2 mark)) (fun s7 _ => n - (intOf s7).toNat)
    case atStart => exact ⟨0, _, _, [], [], [], 0, rfl, by omega, N1⟩
    case round =>
      obtain ⟨i, v1, v2, A, r1, r2, mark, rfl, hi, N⟩ := hrel
      by_cases hlt : i < n
      · have e1 : decide ((i : Int) < (n : Int)) = true := by rw [decide_eq_true_eq]; omega
        have e2 : decide (i < n) = true := by rw [decide_eq_true_eq]; omega
        have il : i < L.length := by have := HL.out; omega
        obtain ⟨g, o, rfl, gl, x0, x1, x2, x3⟩ := (HI.out.later (N.out.bl)).at_ il
        have xs : L[i].nm.size ≤ maxLen := HS.out _ (List.getElem_mem il)
        obtain ⟨⟨kd, nm, t, now⟩, hq⟩ : ∃ q, q = L[i] := ⟨_, rfl⟩
        rw [← hq] at x0 x1 x2 x3 xs
        dsimp only at x0 x1 x2 x3 xs
        have km := tmark N.out.tm
        have zW : W.heap.size ≤ wr.heap.size := N.out.bl.size
        clear hq
        go_upto_if 57 with (go_at_call 35; refine km.mono ?_; rintro e w' ⟨rfl, rfl⟩)
        go_cut [] from 57 to 139 (fun w2 => ∃ v1' v2' A' r1' r2' mark', Hid (NF W b 1024 late 100 w2 v1' v2' A' r1' r2' mark') ∧ Hid (mark' = markS A' late mark))
        case first =>
          by_cases hk : kd = 2
          · subst hk
            have kt := ttick_spec N.out.tm zW now
            have hm : (if secB now then markS (stayS A 100 now) late mark else mark) = markS (if secB now then stayS A 100 now else A) late mark := by
              split
              · rfl
              · exact N.out.mkI.symm
            rw [hm] at kt
            generalize (if secB now then stayS A 100 now else A) = A' at kt
            generalize (if secB now then goneN A 100 now else []) = G at kt
            obtain ⟨mk, hmk⟩ : ∃ mk, mk = markS A' late mark := ⟨_, rfl⟩
            rw [← hmk] at kt
            have HMK := hide hmk
            clear hm hmk
            go_wp2_with (go_at_call 38; refine kt.mono ?_; rintro e w2 ⟨v1', v2', r1', r2', s, rfl, o2, t2, c2, _, _⟩)
            go_meet
            case rel => exact ⟨v1', v2', A', r1', r2', mk, hide (N.out.next t2 c2 HMK.out), HMK⟩
          · have kb : (kd == 2) = false := by simpa using hk
            obtain ⟨A', hA'⟩ : ∃ A', A' = heA 1024 A nm t now := ⟨_, rfl⟩
            obtain ⟨mk, hmk⟩ : ∃ mk, mk = markS A' late mark := ⟨_, rfl⟩
            have HMK := hide hmk
            have kh : ∀ W', Below wr.heap.size wr W' → Calls Try.prog 39 #[.pointer (some ⟨b.tb, 0, none⟩), .string nm, .int .i64 t, .int .i64 now] W' (HearP W.heap.size W' b 1024 late 100 v1 v2 A' mk (heC 1024 A nm t now)) := fun W' q => by
              have k := thear_spec (N.out.tm.later q) (Nat.le_trans zW q.size) nm xs t now
              rw [heM_eq N.out.mkI, ← hA', ← hmk] at k
              exact k
            generalize heC 1024 A nm t now = C at kh
            clear hmk hk hA'
            go_wp2_with fail
            go_region_with (go_at_call 39; (with_reducible refine Calls.mono (kh _ (by first | exact Below.refl _ _ | exact (Below.refl _ _).drew | exact below_drewN (Below.refl _ _) _)) ?_); rintro e w2 ⟨v1', v2', r1', r2', rfl, t2, c2, _, _⟩; have N2 := hide ((N.out.below (by first | exact Below.refl _ _ | exact (Below.refl _ _).drew | exact below_drewN (Below.refl _ _) _)).next t2 c2 HMK.out); clear t2 c2)
            all_goals
              go_wp2_with fail
              go_meet
              case rel => exact ⟨v1', v2', A', r1', r2', mk, N2, HMK⟩
        rename World => w2
        obtain ⟨v1', v2', A', r1', r2', mk, N2, HMK⟩ := hcut
        have km2 := tmark N2.out.tm
        have kl := tall_is N2.out.tm
        obtain ⟨m, hm⟩ : ∃ m, m = A'.length := ⟨_, rfl⟩
        have HM := hide hm
        have lA : m ≤ 1024 := by have := N2.out.tm.mem.qa1.le; have := N2.out.tm.pl.lim; have := N2.out.tm.pl.s1.len; omega
        rw [← hm] at kl
        clear hm km x0 x1 x2 x3 gl zW
        go_wp2_with (first
          | (go_at_call 35; refine km2.mono ?_; rintro e w' ⟨rfl, rfl⟩)
          | (go_at_call 37; refine kl.mono ?_; rintro e w3 ⟨aS, cS, rfl, hS, b3⟩; have HSS := hide hS; have N3 := hide (N2.out.below b3); clear hS b3))
        go_loopw [11, 12] (fun s11 s12 wr3 => ∃ (x : Int) (k : Nat), s11 = .int .i64 x ∧ s12 = .int .i64 (k : Int) ∧ k ≤ m ∧ Hid (LeastT A' k x) ∧ w3 = wr3) (fun _ s12 _ => m - (intOf s12).toNat)
        case atStart => exact ⟨-1, 0, rfl, rfl, by omega, hide (.inl ⟨rfl, rfl⟩), (by first | rfl | trivial)⟩
        case round =>
          obtain ⟨x, k, rfl, rfl, hk, LT, rfl⟩ := hrel
          by_cases hkm : k < m
          · have f1 : decide ((k : Int) < (m : Int)) = true := by rw [decide_eq_true_eq]; omega
            have f2 : decide (k < m) = true := by rw [decide_eq_true_eq]; omega
            have kl2 : k < A'.length := by have := HM.out; omega
            obtain ⟨g2, o2, rfl, gl2, _, y1, _⟩ := HSS.out.at_ kl2
            obtain ⟨y, hy⟩ : ∃ y, y = A'[k].2.1 := ⟨_, rfl⟩
            have y0 : 0 ≤ y := by rw [hy]; exact (N3.out.tm.pl.sec _ (List.getElem_mem kl2)).1.1
            rw [← hy] at y1
            have HY := hide hy
            clear hy
            by_cases c1 : x < 0
            · have f3 := decide_eq_true c1
              have T1 : Hid (LeastT A' (k + 1) y) := by
                have := HY.out
                rcases LT.out.take kl2 (.inl c1) with q | ⟨q1, q2, q3⟩
                · rw [this]; exact q
                · rcases LT.out with ⟨e, _⟩ | ⟨_, _, j, hj, _, e⟩
                  · omega
                  · have := (N3.out.tm.pl.sec _ (List.getElem_mem hj)).1.1
                    omega
              go_wp2_with fail
              go_roundw
              case rel => exact ⟨y, k + 1, rfl, by go_num, by omega, T1, (by first | rfl | trivial)⟩
              case measure => (first | (simp [intOf]; done) | (simp [intOf]; omega))
            · have f3 := decide_eq_false c1
              by_cases c2 : y < x
              · have f4 := decide_eq_true c2
                have T1 : Hid (LeastT A' (k + 1) y) := by
                  have := HY.out
                  rcases LT.out.take kl2 (.inr (by rw [← this]; exact c2)) with q | ⟨q1, q2, q3⟩
                  · rw [this]; exact q
                  · omega
                go_wp2_with fail
                go_roundw
                case rel => exact ⟨y, k + 1, rfl, by go_num, by omega, T1, (by first | rfl | trivial)⟩
                case measure => (first | (simp [intOf]; done) | (simp [intOf]; omega))
              · have f4 := decide_eq_false c2
                have T1 : Hid (LeastT A' (k + 1) x) := LT.out.pass kl2 c1 (by have := HY.out; rw [← this]; exact c2)
                go_wp2_with fail
                go_roundw
                case rel => exact ⟨x, k + 1, rfl, by go_num, by omega, T1, (by first | rfl | trivial)⟩
                case measure => (first | (simp [intOf]; done) | (simp [intOf]; omega))
          · obtain rfl : k = m := by omega
            have f1 : decide ((k : Int) < (k : Int)) = false := by rw [decide_eq_false_iff_not]; omega
            have f2 : decide (k < k) = false := by rw [decide_eq_false_iff_not]; omega
            by_cases k0 : k = 0
            · subst k0
              have em : mk = mark := by
                have e : A' = [] := List.eq_nil_of_length_eq_zero HM.out.symm
                rw [HMK.out, e]; rfl
              subst em
              have f3 : decide (mk < mk) = false := by rw [decide_eq_false_iff_not]; omega
              go_wp2_with fail
              go_roundw
              case rel => exact ⟨i + 1, v1', v2', A', r1', r2', mk, by go_num, by omega, N3⟩
              case measure => (first | (simp [intOf]; done) | (simp [intOf]; omega))
            · have kp : 0 < A'.length := by have := HM.out; omega
              have le : leastS A' = some x := (HM.out ▸ LT.out : LeastT A' A'.length x).least kp
              obtain ⟨g1, g2, g3⟩ := markS_facts (late := late) (mark := mark) le
              rw [← HMK.out] at g1 g2 g3
              have xb : 0 ≤ x ∧ x ≤ 1099511627775 := by
                obtain ⟨_, t, ht, e⟩ := leastS_spec le
                rw [e]; exact (N3.out.tm.pl.sec t ht).1
              have wrp : IntKind.i64.wrap (x - late) = x - late := by rw [IntKind.wrap_i64]; omega
              have f3 : decide (mk < mark) = false := by rw [decide_eq_false_iff_not]; omega
              have f5 : ((k : Int) == 0) = false := by rw [beq_eq_false_iff_ne]; omega
              have f6 : (k == 0) = false := by rw [beq_eq_false_iff_ne]; omega
              have f7 : decide ((0 : Int) < (k : Int)) = true := by rw [decide_eq_true_eq]; omega
              have f8 : decide (0 < k) = true := by rw [decide_eq_true_eq]; omega
              have f9 : decide (mk < x - late) = false := by rw [decide_eq_false_iff_not]; omega
              by_cases c1 : mark < mk
              · have f4 := decide_eq_true c1
                have e := g3 c1
                have f10 : (mk == x - late) = true := by simpa using e
                have f11 : (mk != x - late) = false := by simpa using e
                clear le e g3 g2
                go_wp2_with fail
                go_roundw
                case rel => exact ⟨i + 1, v1', v2', A', r1', r2', mk, by go_num, by omega, N3⟩
                case measure => (first | (simp [intOf]; done) | (simp [intOf]; omega))
              · have f4 := decide_eq_false c1
                clear le g3 g2
                go_wp2_with fail
                go_roundw
                case rel => exact ⟨i + 1, v1', v2', A', r1', r2', mk, by go_num, by omega, N3⟩
                case measure => (first | (simp [intOf]; done) | (simp [intOf]; omega))
      · obtain rfl : i = n := by omega
        have e1 : decide ((i : Int) < (i : Int)) = false := by rw [decide_eq_false_iff_not]; omega
        have e2 : decide (i < i) = false := by rw [decide_eq_false_iff_not]; omega
        go_wp2_with (go_at_call 33; refine (ka _).mono ?_; rintro e w3 ⟨rfl, b3⟩)
        go_returns
        exact ⟨rfl, N.out.bl.trans (b3.mono N.out.bl.size)⟩
  · have kn := tnew_bad 1024 late 100 (fun q => hs ((secB_iff _).1 q.2.2.1)) W
    by_cases h1 : late < 0
    · have d1 := decide_eq_true h1
      go_enter Try.func9, Try.ntmps9
      go_wp2_with (first
        | (go_at_call 31; refine kn.mono ?_; rintro e w1 ⟨rfl, rfl⟩)
        | (go_at_call 33; refine (ka _).mono ?_; rintro e w3 ⟨rfl, b3⟩))
      go_returns
      exact ⟨rfl, b3⟩
    · have d1 := decide_eq_false h1
      have d2 : decide (1099511627775 < late) = true := by rw [decide_eq_true_eq]; omega
      go_enter Try.func9, Try.ntmps9
      go_wp2_with (first
        | (go_at_call 31; refine kn.mono ?_; rintro e w1 ⟨rfl, rfl⟩)
        | (go_at_call 33; refine (ka _).mono ?_; rintro e w3 ⟨rfl, b3⟩))
      go_returns
      exact ⟨rfl, b3⟩
end Go.Proofs.Ytbnlhjooimppeaa
/-
  SourceNeverFalls: for every input the law returns true, and each argument reads afterwards as it read before. No condition on the input.
-/
namespace Go.Proofs.Ytbnlhjooimppeaa.sourceNeverFalls
open Go.ChangeShapes Go.WideShapes Go.ChangeAt Go.RowKit Go.Deep W
open Go.ChangeMaps (open_string shut_string)
set_option linter.unusedVariables false
theorem own : ownKnob Try.prog.godebug = none := by kernel_rfl
theorem laidOut : laidOutB Try.prog = true := by kernel_rfl
set_option maxRecDepth 100000 in
theorem lifted (os : Os) (started : os.Started) (H : Type) (enc : TypeId × Value → H) :
    ReturnsInHanded {} Try.checked os 9 .any (Rows.sourceNeverFallsSpec.pre6 enc Try.prog Try.f9 Rows.sourceNeverFallsRow.domain false) (Rows.sourceNeverFallsSpec.post enc Try.prog Try.f9 false true false false) := by
  refine returnsInHanded_of_change_sized (C := Try.checked) own started (by kernel_rfl) Try.func9
    (ChangeSpec.witness6 (enc := enc) (C := Try.checked) false ⟨#[], #[.int .i64 0, .slice none 0 0], []⟩ 8 (by kernel_rfl) (by kernel_rfl) (by kernel_rfl) (by kernel_rfl)) ?_
  intro W base args ds gs before hval0 hW hcnd hsz0 _
  have hsz : (DataW.weightsEach Try.prog (Try.f9.params.toList ++ Rows.sourceNeverFallsSpec.plain.varTypes Try.prog) (ds ++ gs)).all (· ≤ reachBytes) = true := hsz0
  clear hsz0
  have hval : ∀ (j : Nat) t v, Try.f9.params[j]? = some t → args[j]? = some v → Value.okWide Try.prog W .any base t v := hval0
  have hW' := hW
  obtain ⟨p, q, hA0, hV, rfl, hfz, hnd⟩ := hW
  have hA : DataW.TrodAll enc Try.prog W 0 (fun _ => true) true Try.f9.params.toList args.toList ds p := hA0
  rw [Try.params9] at hA hval hsz
  obtain ⟨v0, vs0, d0, ds0, p0, q0, hargs, rfl, rfl, h0, r0⟩ := trodAll_cons hA
  obtain ⟨v1, vs1, d1, ds1, p1, q1, rfl, rfl, rfl, h1, r1⟩ := trodAll_cons r0
  obtain ⟨rfl, rfl, rfl⟩ := trodAll_nil r1
  obtain rfl : args = #[v0, v1] := by cases args; simp_all
  obtain ⟨rfl, rfl⟩ := trodVars_none hV
  obtain ⟨a0, rfl, rfl, rfl, w0⟩ := open_int Try.underlying2 (hval 0 2 v0 rfl rfl) h0
  have k1 := h1
  have lt1 : ∀ x ∈ p1, x.block < W.heap.size := by obtain ⟨m, hm⟩ := k1; exact DataW.trod_lt m _ _ _ hm
  obtain ⟨s1, n1, c1, rfl⟩ := okWide_slice Try.underlying61 (hval 1 61 v1 rfl rfl)
  obtain ⟨fuel1, hf1⟩ := h1
  obtain ⟨L1, hl1, hL1, hz1, hd1⟩ := Go.Proofs.Ytbnlhjooimppeaa.rd_oqs (by simpa [Value.cells] using hf1)
  have hn1 : L1.length = n1 ∧ n1 ≤ 140737488355328 := by
    refine ⟨hl1, ?_⟩
    rcases hd1 with e | ⟨el, spd, e, el2⟩
    · omega
    · have h1 := sized_slice hsz (j := 1) (t := 61) (e := 73) (elems := el) (spare := spd) rfl (by simp; exact e) Try.underlying61
      have rl : reachBytes ≤ 140737488355328 := by decide
      rw [(by kernel_rfl : Try.prog.bytesOf 73 = 40)] at h1
      omega
  clear hA0 hval0 hsz
  refine (Go.Proofs.Ytbnlhjooimppeaa.law_SourceNeverFalls a0 s1 n1 c1 L1 hn1 hz1 W hL1).mono fun e W' ⟨he, bel⟩ => ?_
  subst he
  exact ⟨_, rfl, _, _, _, [], _, [], hW', trodAll_mk1 (shut_bool Try.underlying4 _), (trodAll_cons_mk (shut_int Try.underlying2 w0) (trodAll_cons_mk (Below.trod laidOut (by kernel_rfl) (of_decide_eq_true (by kernel_rfl)) k1 bel lt1) trodAll_mk0)), rfl, bel.frame _, fun h => by cases h⟩
theorem over : Rows.sourceNeverFallsRow.holds Try.pinned (OpenSpec.ofChange Rows.sourceNeverFallsSpec) :=
  OpenClaim.holds_of_wide 9 Try.f9 rfl rfl rfl rfl rfl rfl rfl ⟨rfl, rfl, rfl, rfl, rfl⟩ rfl rfl rfl rfl rfl (by kernel_rfl) Try.func9 (by kernel_rfl)
    (of_decide_eq_true (by kernel_rfl)) (by unfold Func.isWrapper; first | (rw [if_pos (by decide +kernel)]; kernel_rfl) | (rw [if_neg (by decide +kernel)]; exact ⟨rfl, rfl⟩))
    (fun os started H enc _ => lifted os started H enc)
end Go.Proofs.Ytbnlhjooimppeaa.sourceNeverFalls
namespace Go.Proofs.Ytbnlhjooimppeaa
theorem sourceNeverFalls_holds : Rows.SourceNeverFallsSaid := sourceNeverFalls.over
#print axioms sourceNeverFalls_holds
end Go.Proofs.Ytbnlhjooimppeaa
