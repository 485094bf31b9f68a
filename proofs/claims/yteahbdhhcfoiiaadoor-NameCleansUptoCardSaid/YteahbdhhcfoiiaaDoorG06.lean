/- Texts that belong together: Nth Nti Ntj Szl Nrp Bulk Nrq. -/
import Derived.Test.YteahbdhhcfoiiaaDoorG04
import Derived.Test.YteahbdhhcfoiiaaDoorG05
import Derived.Test.YteahbdhhcfoiiaaDoorG02
import Derived.Test.YteahbdhhcfoiiaaDoorG01
import Derived.SizedLaws
import Derived.Deep.Slices
import Derived.ChangeArms
import Derived.ChangeAlike
import Derived.Test.YteahbdhhcfoiiaaDoorRows
set_option linter.unusedSimpArgs false
set_option linter.unusedVariables false
/- name: the reference's Text. -/
namespace Go.Proofs.YteahbdhhcfoiiaaDoor
set_option linter.unusedVariables false
set_option linter.unusedSimpArgs false
open Go.RowKit W
/-- P3.4. -/
def textA (p : List (List Gl)) : ByteArray × Int := if mayB p = true then (if (patT p).length ≤ 400 then (⟨(patT p).toArray⟩, 0) else (⟨#[]⟩, 2)) else (⟨#[]⟩, 31)
theorem front_step (p : List (List Gl)) (k : Nat) (h : k < p.length) : (frontT p k).length ≤ (frontT p (k + 1)).length := by
  rw [preT_more p k h]
  unfold preT
  split
  · rename_i e; subst e; simp [frontT_zero]
  · simp
theorem front_le (p : List (List Gl)) (d k : Nat) (h : k + d = p.length) : (frontT p k).length ≤ (patT p).length := by
  induction d generalizing k with
  | zero => rw [show k = p.length by omega, frontT_all]; exact Nat.le_refl _
  | succ d ih => exact Nat.le_trans (front_step p k (by omega)) (ih (k + 1) (by omega))
theorem nodeT_part (gs : List Gl) (q : Nat) : (nodeT (gs.take q)).length ≤ (nodeT gs).length := by
  have : nodeT gs = nodeT (gs.take q) ++ nodeT (gs.drop q) := by unfold nodeT; rw [← List.flatMap_append, List.take_append_drop]
  rw [this, List.length_append]; omega
theorem parts_le (p : List (List Gl)) (k : Nat) (h : k < p.length) (gs : List Gl) (hg : gs = p[k]) (q : Nat) : (preT p k ++ nodeT (gs.take q)).length ≤ (patT p).length := by
  have h1 := front_le p (p.length - (k + 1)) (k + 1) (by omega)
  have h2 := nodeT_part gs q
  rw [preT_more p k h, ← hg] at h1
  rw [List.length_append] at h1 ⊢; omega
theorem may_node (p : List (List Gl)) (hm : mayB p = true) {gs : List Gl} (h : gs ∈ p) : gs.length ≠ 0 := by
  unfold mayB at hm
  simp only [Bool.and_eq_true] at hm
  have h1 := List.all_eq_true.1 hm.2 gs h
  unfold nodeMay at h1
  simp only [Bool.and_eq_true, decide_eq_true_eq] at h1
  exact h1.1
theorem may_len (p : List (List Gl)) (hm : mayB p = true) : 1 ≤ p.length ∧ p.length ≤ 16 := by
  unfold mayB at hm
  simp only [Bool.and_eq_true, decide_eq_true_eq] at hm
  exact hm.1
set_option maxRecDepth 100000 in
set_option maxHeartbeats 8000000 in
theorem rtext2_spec (p : List (List Gl)) (pw : PtW p) (hw : patW p ≤ 4398046511104) (a : Option Addr) (c : Nat) (w : World) (ha : IsPt w a p) :
    Calls Tryd.prog 29 #[.agg #[.slice a p.length c]] w fun e w' => e = .returned (.tuple #[.string (textA p).1, .int .i64 (textA p).2]) ∧ Below w.heap.size w w' := by
  have HA := hide ha
  have km := fun w' (u : Below w.heap.size w w') => rmay_spec p pw a c w' (ha.later u)
  have pn := pw.n
  obtain ⟨t0, ht0⟩ : ∃ t, mayB p = t := ⟨_, rfl⟩
  rw [ht0] at km
  obtain ⟨n, hnn⟩ : ∃ n, n = p.length := ⟨_, rfl⟩
  have HN := hide hnn
  have K0 : Hid (Kp w a n c (w.alloc (.cells #[.slice a n c] 33))) := ⟨by simp [go_sem], (Below.refl _ _).alloc (Nat.le_refl _) _, by simp⟩
  rw [← hnn] at pn km ⊢
  clear ha hnn
  cases t0
  · have F : Hid (textA p = (⟨#[]⟩, 31)) := by show _ = _; unfold textA; rw [ht0]; rfl
    clear ht0
    go_enter Tryd.func29, Tryd.ntmps29
    go_wp2_with fail
    refine Calls.mono (km _ K0.out.below) ?_
    rintro e w5 ⟨rfl, b5⟩
    have K5 := hide (K0.out.call b5)
    clear b5 km
    go_wp2_with fail
    go_returns
    exact ⟨by rw [F.out]; rfl, K5.out.below⟩
  · have HM := hide ht0
    clear ht0
    go_enter Tryd.func29, Tryd.ntmps29
    go_wp2_with fail
    refine Calls.mono (km _ K0.out.below) ?_
    rintro e w5 ⟨rfl, b5⟩
    have K5 := hide (K0.out.call b5)
    clear b5 km K0
    go_wp2_with fail
    go_loopw [4, 5] (fun tv iv wr => ∃ (t : ByteArray) (k : Nat), k ≤ n ∧ tv = .string t ∧ iv = .int .i64 (k : Int) ∧ Hid (lst t = frontT p k) ∧ t.size ≤ 400 ∧ Hid (Kp w a n c wr)) (fun _ iv _ => n - (intOf iv).toNat)
    case atStart => exact ⟨⟨#[]⟩, 0, by omega, rfl, rfl, hide rfl, Nat.zero_le _, K5⟩
    case round =>
      obtain ⟨t, k, hk, rfl, rfl, EQ, tz, KP⟩ := hrel
      have z0 := KP.out.cell
      have zl := KP.out.lt
      by_cases hlt : k < n
      · have kp : k < p.length := by have := HN.out; omega
        obtain ⟨g, o, rfl, LN⟩ := HA.out.resolve_left (by intro e; rw [e] at kp; simp at kp)
        obtain ⟨b, cc, n0w, n1, n2⟩ := LN.cell k kp
        have lng := LN.lt
        have mem := List.getElem_mem kp
        have HG := hide n1
        have PM := hide (preT_more p k kp)
        obtain ⟨gs, hgs⟩ : ∃ gs, gs = p[k] := ⟨_, rfl⟩
        rw [← hgs] at n0w HG n2 mem PM
        have MEM := hide mem
        have HGS := hide hgs
        have gm := pw.m gs mem
        have HNE := hide (may_node p HM.out mem)
        obtain ⟨m, hm⟩ : ∃ m, m = gs.length := ⟨_, rfl⟩
        have HM2 := hide hm
        rw [← hm] at n0w gm HNE
        clear hgs hm n1 LN n2 mem
        have n0 := (KP.out.below.cell (p := ⟨g, o + k, none⟩) lng).trans n0w
        by_cases k0 : k = 0
        · have d0 : decide ((0 : Int) < (k : Int)) = false := by rw [decide_eq_false_iff_not]; omega
          have d1 : decide (0 < k) = false := by rw [decide_eq_false_iff_not]; omega
          have TP : Hid (lst t = preT p k) := by show _ = _; rw [EQ.out]; unfold preT; rw [if_pos k0, k0]; rfl
          have KQ := KP
          have TZ : t.size ≤ 401 := by omega
          have K0 := hide k0
          clear k0
          obtain ⟨wo, rfl⟩ : ∃ wo, wo = wr := ⟨_, rfl⟩
          go_wp2_with fail
          go_loopw [4, 6] (fun tv iv w2 => ∃ (t : ByteArray) (q : Nat), q ≤ m ∧ tv = .string t ∧ iv = .int .i64 (q : Int) ∧ Hid (lst t = preT p k ++ nodeT (gs.take q)) ∧ t.size ≤ 401 ∧ Hid (q ≠ 0 → t.size ≤ 400) ∧ Hid (Kp w (some ⟨g, o, none⟩) n c w2)) (fun _ iv _ => m - (intOf iv).toNat)
          case atStart => exact ⟨_, 0, by omega, rfl, rfl, hide (by rw [List.take_zero, TP.out]; simp [nodeT]), TZ, hide (fun h => absurd rfl h), KQ⟩
          case round =>
            obtain ⟨t, q, hq, rfl, rfl, EQ, tz, TZ2, KP⟩ := hrel
            have z0 := KP.out.cell
            have zl := KP.out.lt
            have n0 := (KP.out.below.cell (p := ⟨g, o + k, none⟩) lng).trans n0w
            by_cases hql : q < m
            · have qg : q < gs.length := by have := HM2.out; omega
              obtain ⟨g2, o2, rfl, LG⟩ := HG.out.resolve_left (by intro e; rw [e] at qg; simp at qg)
              have lg := LG.lt
              obtain ⟨c0, c1, b5, c5, c2, x2, x3⟩ := LG.cell q qg
              have c0 := (KP.out.below.cell (p := ⟨g2, o2 + q * 3, none⟩) lg).trans c0
              have c1 := (KP.out.below.cell (p := ⟨g2, o2 + q * 3 + 1, none⟩) lg).trans c1
              have c2 := (KP.out.below.cell (p := ⟨g2, o2 + q * 3 + 2, none⟩) lg).trans c2
              have x2 := x2.later (KP.out.below)
              have xm : gs[q] ∈ gs := List.getElem_mem _
              have XS := stand_of p HM.out MEM.out xm
              have xw := globW_le p gs gs[q] MEM.out xm
              have GL := globT_len gs[q]
              have GT0 : lst (t ++ (⟨(globT gs[q]).toArray⟩ : ByteArray)) = preT p k ++ nodeT (gs.take (q + 1)) := by rw [lst_app2, EQ.out, lst_mk, nodeT_take gs q qg, List.append_assoc]
              have PL := parts_le p k kp gs HGS.out (q + 1)
              have kg := fun v (u : Below wr.heap.size wr v) => rglobText_spec gs[q] XS (by omega) b5 c5 v (x2.later u)
              obtain ⟨x, hx⟩ : ∃ x, x = gs[q] := ⟨_, rfl⟩
              rw [← hx] at c0 c1 c2 kg GT0 GL xw
              obtain ⟨y, hy⟩ : ∃ y, y = (⟨(globT x).toArray⟩ : ByteArray) := ⟨_, rfl⟩
              have ys : y.size ≤ 4398046511104 := by rw [hy]; show (globT x).toArray.size ≤ _; simp; omega
              rw [← hy] at kg GT0
              have sz := congrArg List.length GT0
              rw [lst_len, ByteArray.size_append] at sz
              have GT := hide GT0
              unfold gV at kg
              clear hx xm GT0 x2 x3 XS hy GL
              by_cases tb : t.size + y.size ≤ 400
              · have d5 : decide ((400 : Int) < ((t ++ y).size : Int)) = false := by rw [decide_eq_false_iff_not, ByteArray.size_append]; omega
                have d6 : (t ++ y).size = t.size + y.size := ByteArray.size_append
                clear sz PL
                go_wp2_with fail
                refine Calls.mono (kg _ (Below.refl _ _)) ?_
                rintro e w5 ⟨rfl, b5'⟩
                have K5 := hide (KP.out.call b5')
                clear b5' kg
                go_wp2_with fail
                go_roundw
                case rel => exact ⟨t ++ y, q + 1, by omega, rfl, by go_num, GT, by rw [ByteArray.size_append]; omega, hide (fun _ => by rw [ByteArray.size_append]; omega), K5⟩
                case measure => simp [intOf]; omega
              · have F : Hid (textA p = (⟨#[]⟩, 2)) := by show _ = _; unfold textA; rw [HM.out, if_pos rfl, if_neg (by omega)]
                have d6 : (t ++ y).size = t.size + y.size := ByteArray.size_append
                clear sz PL
                go_wp2_with fail
                refine Calls.mono (kg _ (Below.refl _ _)) ?_
                rintro e w5 ⟨rfl, b5'⟩
                have K5 := hide (KP.out.call b5')
                clear b5' kg
                go_wp2_with fail
                go_returns
                exact ⟨by rw [F.out]; rfl, K5.out.below⟩
            · obtain rfl : q = m := by omega
              have F : Hid (lst t = frontT p (k + 1)) := by show _ = _; rw [EQ.out, PM.out, HM2.out, List.take_length]
              have tz4 := TZ2.out (by have := HNE.out; omega)
              go_wp2_with fail
              go_roundw
              case rel => exact ⟨t, k + 1, by omega, rfl, by go_num, F, tz4, KP⟩
              case measure => simp [intOf]; omega
        · have d0 : decide ((0 : Int) < (k : Int)) = true := by rw [decide_eq_true_eq]; omega
          have d1 : decide (0 < k) = true := by rw [decide_eq_true_eq]; omega
          have s46 : (⟨#[46]⟩ : ByteArray).size = 1 := rfl
          have TP : Hid (lst (t ++ ⟨#[46]⟩) = preT p k) := by show _ = _; rw [lst_app2, EQ.out]; unfold preT; rw [if_neg k0]; rfl
          have KQ := KP
          have TZ : (t ++ ⟨#[46]⟩).size ≤ 401 := by rw [ByteArray.size_append, s46]; omega
          obtain ⟨wo, rfl⟩ : ∃ wo, wo = wr := ⟨_, rfl⟩
          go_wp2_with fail
          go_loopw [4, 6] (fun tv iv w2 => ∃ (t : ByteArray) (q : Nat), q ≤ m ∧ tv = .string t ∧ iv = .int .i64 (q : Int) ∧ Hid (lst t = preT p k ++ nodeT (gs.take q)) ∧ t.size ≤ 401 ∧ Hid (q ≠ 0 → t.size ≤ 400) ∧ Hid (Kp w (some ⟨g, o, none⟩) n c w2)) (fun _ iv _ => m - (intOf iv).toNat)
          case atStart => exact ⟨_, 0, by omega, rfl, rfl, hide (by rw [List.take_zero, TP.out]; simp [nodeT]), TZ, hide (fun h => absurd rfl h), KQ⟩
          case round =>
            obtain ⟨t, q, hq, rfl, rfl, EQ, tz, TZ2, KP⟩ := hrel
            have z0 := KP.out.cell
            have zl := KP.out.lt
            have n0 := (KP.out.below.cell (p := ⟨g, o + k, none⟩) lng).trans n0w
            by_cases hql : q < m
            · have qg : q < gs.length := by have := HM2.out; omega
              obtain ⟨g2, o2, rfl, LG⟩ := HG.out.resolve_left (by intro e; rw [e] at qg; simp at qg)
              have lg := LG.lt
              obtain ⟨c0, c1, b5, c5, c2, x2, x3⟩ := LG.cell q qg
              have c0 := (KP.out.below.cell (p := ⟨g2, o2 + q * 3, none⟩) lg).trans c0
              have c1 := (KP.out.below.cell (p := ⟨g2, o2 + q * 3 + 1, none⟩) lg).trans c1
              have c2 := (KP.out.below.cell (p := ⟨g2, o2 + q * 3 + 2, none⟩) lg).trans c2
              have x2 := x2.later (KP.out.below)
              have xm : gs[q] ∈ gs := List.getElem_mem _
              have XS := stand_of p HM.out MEM.out xm
              have xw := globW_le p gs gs[q] MEM.out xm
              have GL := globT_len gs[q]
              have GT0 : lst (t ++ (⟨(globT gs[q]).toArray⟩ : ByteArray)) = preT p k ++ nodeT (gs.take (q + 1)) := by rw [lst_app2, EQ.out, lst_mk, nodeT_take gs q qg, List.append_assoc]
              have PL := parts_le p k kp gs HGS.out (q + 1)
              have kg := fun v (u : Below wr.heap.size wr v) => rglobText_spec gs[q] XS (by omega) b5 c5 v (x2.later u)
              obtain ⟨x, hx⟩ : ∃ x, x = gs[q] := ⟨_, rfl⟩
              rw [← hx] at c0 c1 c2 kg GT0 GL xw
              obtain ⟨y, hy⟩ : ∃ y, y = (⟨(globT x).toArray⟩ : ByteArray) := ⟨_, rfl⟩
              have ys : y.size ≤ 4398046511104 := by rw [hy]; show (globT x).toArray.size ≤ _; simp; omega
              rw [← hy] at kg GT0
              have sz := congrArg List.length GT0
              rw [lst_len, ByteArray.size_append] at sz
              have GT := hide GT0
              unfold gV at kg
              clear hx xm GT0 x2 x3 XS hy GL
              by_cases tb : t.size + y.size ≤ 400
              · have d5 : decide ((400 : Int) < ((t ++ y).size : Int)) = false := by rw [decide_eq_false_iff_not, ByteArray.size_append]; omega
                have d6 : (t ++ y).size = t.size + y.size := ByteArray.size_append
                clear sz PL
                go_wp2_with fail
                refine Calls.mono (kg _ (Below.refl _ _)) ?_
                rintro e w5 ⟨rfl, b5'⟩
                have K5 := hide (KP.out.call b5')
                clear b5' kg
                go_wp2_with fail
                go_roundw
                case rel => exact ⟨t ++ y, q + 1, by omega, rfl, by go_num, GT, by rw [ByteArray.size_append]; omega, hide (fun _ => by rw [ByteArray.size_append]; omega), K5⟩
                case measure => simp [intOf]; omega
              · have F : Hid (textA p = (⟨#[]⟩, 2)) := by show _ = _; unfold textA; rw [HM.out, if_pos rfl, if_neg (by omega)]
                have d6 : (t ++ y).size = t.size + y.size := ByteArray.size_append
                clear sz PL
                go_wp2_with fail
                refine Calls.mono (kg _ (Below.refl _ _)) ?_
                rintro e w5 ⟨rfl, b5'⟩
                have K5 := hide (KP.out.call b5')
                clear b5' kg
                go_wp2_with fail
                go_returns
                exact ⟨by rw [F.out]; rfl, K5.out.below⟩
            · obtain rfl : q = m := by omega
              have F : Hid (lst t = frontT p (k + 1)) := by show _ = _; rw [EQ.out, PM.out, HM2.out, List.take_length]
              have tz4 := TZ2.out (by have := HNE.out; omega)
              go_wp2_with fail
              go_roundw
              case rel => exact ⟨t, k + 1, by omega, rfl, by go_num, F, tz4, KP⟩
              case measure => simp [intOf]; omega
      · obtain rfl : k = n := by omega
        have F : Hid (textA p = (t, 0)) := by
          show _ = _
          have h := EQ.out
          rw [HN.out, frontT_all] at h
          unfold textA; rw [HM.out, if_pos rfl, if_pos (by rw [← h, lst_len]; exact tz), ← h, mk_lst]
        go_wp2_with fail
        go_returns
        exact ⟨by rw [F.out]; rfl, KP.out.below⟩
end Go.Proofs.YteahbdhhcfoiiaaDoor
/- name: Text, Plain. -/
namespace Go.Proofs.YteahbdhhcfoiiaaDoor
set_option linter.unusedVariables false
set_option linter.unusedSimpArgs false
open Go.RowKit W
set_option maxRecDepth 100000 in
set_option maxHeartbeats 8000000 in
theorem ptext_spec (p : List (List Gl)) (pw : PtW p) (hw : patW p ≤ 4398046511104) (a : Option Addr) (c : Nat) (w : World) (ha : IsPt w a p) :
    Calls Tryd.prog 28 #[.agg #[.slice a p.length c]] w fun e w' => e = .returned (.tuple #[.string (textA p).1, .int .i64 (textA p).2]) ∧ Below w.heap.size w w' := by
  have km := fun w' (u : Below w.heap.size w w') => may_spec p pw a c w' (ha.later u)
  have pn := pw.n
  have PL := patT_len p
  have K0 : Hid (Kp w a p.length c (w.alloc (.cells #[.slice a p.length c] 33))) := ⟨by simp [go_sem], (Below.refl _ _).alloc (Nat.le_refl _) _, by simp⟩
  obtain ⟨t0, ht0⟩ : ∃ t, mayB p = t := ⟨_, rfl⟩
  rw [ht0] at km
  cases t0
  · have F : Hid (textA p = (⟨#[]⟩, 31)) := by show _ = _; unfold textA; rw [ht0]; rfl
    obtain ⟨n, hnn⟩ : ∃ n, n = p.length := ⟨_, rfl⟩
    rw [← hnn] at pn km K0 ⊢
    clear ht0 hnn PL ha
    go_enter Tryd.func28, Tryd.ntmps28
    go_wp2_with fail
    refine Calls.mono (km _ K0.out.below) ?_
    rintro e w5 ⟨rfl, b5⟩
    have K5 := hide (K0.out.call b5)
    clear b5 km
    go_wp2_with fail
    go_returns
    exact ⟨by rw [F.out]; rfl, K5.out.below⟩
  · have kw := fun w' (u : Below w.heap.size w w') => written_spec p ht0 hw pn a c w' (ha.later u)
    obtain ⟨y, hy⟩ : ∃ y, y = (⟨(patT p).toArray⟩ : ByteArray) := ⟨_, rfl⟩
    have ys : y.size = (patT p).length := by rw [hy]; show (patT p).toArray.size = _; simp
    have F : Hid (textA p = if y.size ≤ 400 then (y, 0) else (⟨#[]⟩, 2)) := by show _ = _; unfold textA; rw [ht0, if_pos rfl, ← ys, hy]
    rw [← hy] at kw
    have yb : y.size ≤ 4398046511104 := by omega
    obtain ⟨n, hnn⟩ : ∃ n, n = p.length := ⟨_, rfl⟩
    rw [← hnn] at pn km kw K0 ⊢
    clear ht0 hnn PL ha hy ys
    by_cases tb : y.size ≤ 400
    · have F : Hid (textA p = (y, 0)) := by show _ = _; rw [F.out, if_pos tb]
      go_enter Tryd.func28, Tryd.ntmps28
      go_wp2_with fail
      refine Calls.mono (km _ K0.out.below) ?_
      rintro e w5 ⟨rfl, b5⟩
      have z0 := (K0.out.call b5).cell
      have K5 := hide (K0.out.call b5)
      clear b5 km
      go_wp2_with fail
      refine Calls.mono (kw _ K5.out.below) ?_
      rintro e w6 ⟨rfl, b6⟩
      have K6 := hide (K5.out.call b6)
      clear b6 kw
      go_wp2_with fail
      go_returns
      exact ⟨by rw [F.out]; rfl, K6.out.below⟩
    · have F : Hid (textA p = (⟨#[]⟩, 2)) := by show _ = _; rw [F.out, if_neg tb]
      go_enter Tryd.func28, Tryd.ntmps28
      go_wp2_with fail
      refine Calls.mono (km _ K0.out.below) ?_
      rintro e w5 ⟨rfl, b5⟩
      have z0 := (K0.out.call b5).cell
      have K5 := hide (K0.out.call b5)
      clear b5 km
      go_wp2_with fail
      refine Calls.mono (kw _ K5.out.below) ?_
      rintro e w6 ⟨rfl, b6⟩
      have K6 := hide (K5.out.call b6)
      clear b6 kw
      go_wp2_with fail
      go_returns
      exact ⟨by rw [F.out]; rfl, K6.out.below⟩
/-- P3.6. -/
def oneB (gs : List Gl) : Bool := match gs with
  | [x] => decide (x.k = 1)
  | _ => false
def plainA (p : List (List Gl)) : ByteArray × Bool := if mayB p = true ∧ p.all oneB = true ∧ validN (patT p) = true then (⟨(patT p).toArray⟩, true) else (⟨#[]⟩, false)
theorem oneB_len {gs : List Gl} (h : gs.length ≠ 1) : oneB gs = false := by
  match gs, h with
  | [], _ => rfl
  | x :: y :: r, _ => rfl
theorem oneB_at {gs : List Gl} (h : gs.length = 1) : oneB gs = decide ((gs[0]'(by omega)).k = 1) := by
  match gs, h with
  | [x], _ => rfl
theorem all_snoc (p : List (List Gl)) (k : Nat) (h : k < p.length) (hk : (p.take k).all oneB = true) : (p.take (k + 1)).all oneB = oneB p[k] := by
  rw [List.take_succ_eq_append_getElem h, List.all_append, hk, Bool.true_and]
  simp
theorem all_none (p : List (List Gl)) (k : Nat) (h : k < p.length) (hk : oneB p[k] = false) : p.all oneB = false := by
  rw [List.all_eq_false]
  exact ⟨_, List.getElem_mem h, by rw [hk]; simp⟩
set_option maxRecDepth 100000 in
set_option maxHeartbeats 8000000 in
theorem plain_spec (p : List (List Gl)) (pw : PtW p) (hw : patW p ≤ 4398046511104) (a : Option Addr) (c : Nat) (w : World) (ha : IsPt w a p) :
    Calls Tryd.prog 32 #[.agg #[.slice a p.length c]] w fun e w' => e = .returned (.tuple #[.string (plainA p).1, .bool (plainA p).2]) ∧ Below w.heap.size w w' := by
  have HA := hide ha
  have km := fun w' (u : Below w.heap.size w w') => may_spec p pw a c w' (ha.later u)
  have pn := pw.n
  have PM := hide pw.m
  have PL := patT_len p
  have K0 : Hid (Kp w a p.length c (w.alloc (.cells #[.slice a p.length c] 33))) := ⟨by simp [go_sem], (Below.refl _ _).alloc (Nat.le_refl _) _, by simp⟩
  obtain ⟨t0, ht0⟩ : ∃ t, mayB p = t := ⟨_, rfl⟩
  rw [ht0] at km
  cases t0
  · have F : Hid (plainA p = (⟨#[]⟩, false)) := by show _ = _; unfold plainA; rw [if_neg]; rw [ht0]; simp
    obtain ⟨n, hnn⟩ : ∃ n, n = p.length := ⟨_, rfl⟩
    rw [← hnn] at pn km K0 ⊢
    clear ht0 hnn PL ha
    go_enter Tryd.func32, Tryd.ntmps32
    go_wp2_with fail
    refine Calls.mono (km _ K0.out.below) ?_
    rintro e w5 ⟨rfl, b5⟩
    have K5 := hide (K0.out.call b5)
    clear b5 km
    go_wp2_with fail
    go_returns
    exact ⟨by rw [F.out]; rfl, K5.out.below⟩
  · have kw := fun w' (u : Below w.heap.size w w') => written_spec p ht0 hw pn a c w' (ha.later u)
    have HM := hide ht0
    obtain ⟨y, hy⟩ : ∃ y, y = (⟨(patT p).toArray⟩ : ByteArray) := ⟨_, rfl⟩
    have ys : y.size = (patT p).length := by rw [hy]; show (patT p).toArray.size = _; simp
    have ly : lst y = patT p := by rw [hy, lst_mk]
    have kv := fun w' => valid_spec y w'
    rw [show y.data.toList = patT p from ly] at kv
    have HY := hide hy
    rw [← hy] at kw
    have yb : y.size ≤ 4398046511104 := by omega
    obtain ⟨n, hnn⟩ : ∃ n, n = p.length := ⟨_, rfl⟩
    have HN := hide hnn
    rw [← hnn] at pn km kw K0 ⊢
    clear ht0 hnn PL ha hy ys ly
    go_enter Tryd.func32, Tryd.ntmps32
    go_wp2_with fail
    refine Calls.mono (km _ K0.out.below) ?_
    rintro e w5 ⟨rfl, b5⟩
    have z0 := (K0.out.call b5).cell
    have K5 := hide (K0.out.call b5)
    clear b5 km K0
    go_wp2_with fail
    go_loop [13] (fun iv => ∃ (k : Nat), k ≤ n ∧ iv = .int .i64 (k : Int) ∧ Hid ((p.take k).all oneB = true)) (fun iv => n - (intOf iv).toNat)
    case atStart => exact ⟨0, by omega, rfl, hide rfl⟩
    case round =>
      obtain ⟨k, hk, rfl, AL⟩ := hrel
      by_cases hlt : k < n
      · have kp : k < p.length := by have := HN.out; omega
        obtain ⟨g, o, rfl, LN⟩ := HA.out.resolve_left (by intro e; rw [e] at kp; simp at kp)
        obtain ⟨b, cc, n0w, n1, n2⟩ := LN.cell k kp
        have n0 := (K5.out.below.cell (p := ⟨g, o + k, none⟩) LN.lt).trans n0w
        have gm := PM.out p[k] (List.getElem_mem kp)
        have HG := hide n1
        have SN := hide (all_snoc p k kp AL.out)
        have NO := hide (all_none p k kp)
        obtain ⟨gs, hgs⟩ : ∃ gs, gs = p[k] := ⟨_, rfl⟩
        rw [← hgs] at n0 HG SN NO gm
        obtain ⟨m, hm⟩ : ∃ m, m = gs.length := ⟨_, rfl⟩
        have HM2 := hide hm
        rw [← hm] at n0 gm
        clear hgs hm n1 LN n2 n0w
        by_cases m1 : m = 1
        · subst m1
          have gl : gs.length = 1 := HM2.out.symm
          obtain ⟨g2, o2, rfl, LG⟩ := HG.out.resolve_left (by intro e; rw [e] at gl; simp at gl)
          have c9 := (LG.cell 0 (by omega)).1
          have c0 := (K5.out.below.cell (p := ⟨g2, o2 + 0 * 3, none⟩) LG.lt).trans c9
          clear c9
          have OB := oneB_at gl
          obtain ⟨x, hx⟩ : ∃ x, x = gs[0] := ⟨_, rfl⟩
          rw [← hx] at c0 OB
          rw [show o2 + 0 * 3 = o2 by omega] at c0
          clear hx gl LG
          cases x1 : (x.k != 1)
          · have x1' : x.k = 1 := by simpa using x1
            have A2 : Hid ((p.take (k + 1)).all oneB = true) := by show _ = _; rw [SN.out, OB]; simp [x1']
            clear x1' OB
            go_wp2_with fail
            go_round
            case rel => exact ⟨k + 1, by omega, by go_num, A2⟩
            case measure => simp [intOf]; omega
          · have x1' : ¬ x.k = 1 := by simpa using x1
            have F : Hid (plainA p = (⟨#[]⟩, false)) := by
              show _ = _; unfold plainA; rw [if_neg]
              rintro ⟨_, q, _⟩
              rw [NO.out (by rw [OB]; simp [x1'])] at q; cases q
            clear x1' OB
            go_wp2_with fail
            go_returns
            exact ⟨by rw [F.out]; rfl, K5.out.below⟩
        · have F : Hid (plainA p = (⟨#[]⟩, false)) := by
            show _ = _; unfold plainA; rw [if_neg]
            rintro ⟨_, q, _⟩
            rw [NO.out (oneB_len (by rw [← HM2.out]; exact m1))] at q; cases q
          have m2 : ((m : Int) != 1) = true := by rw [bne_iff_ne]; omega
          clear m1
          go_wp2_with fail
          go_returns
          exact ⟨by rw [F.out]; rfl, K5.out.below⟩
      · obtain rfl : k = n := by omega
        have A2 := AL.out
        rw [HN.out, List.take_length] at A2
        obtain ⟨v, hv⟩ : ∃ v, validN (patT p) = v := ⟨_, rfl⟩
        have F : Hid (plainA p = if v = true then (y, true) else (⟨#[]⟩, false)) := by
          show _ = _; unfold plainA; rw [hv, HY.out, HM.out, A2]; simp
        rw [hv] at kv
        clear hv A2
        cases v
        · have F : Hid (plainA p = (⟨#[]⟩, false)) := by show _ = _; rw [F.out]; rfl
          go_wp2_with fail
          refine Calls.mono (kw _ K5.out.below) ?_
          rintro e w6 ⟨rfl, b6⟩
          have K6 := hide (K5.out.call b6)
          clear b6 kw
          go_wp2_with (go_at_call 17; refine (kv _).mono ?_; rintro e w' ⟨rfl, rfl⟩)
          go_returns
          exact ⟨by rw [F.out]; rfl, K6.out.below⟩
        · have F : Hid (plainA p = (y, true)) := by show _ = _; rw [F.out]; rfl
          go_wp2_with fail
          refine Calls.mono (kw _ K5.out.below) ?_
          rintro e w6 ⟨rfl, b6⟩
          have K6 := hide (K5.out.call b6)
          clear b6 kw
          go_wp2_with (go_at_call 17; refine (kv _).mono ?_; rintro e w' ⟨rfl, rfl⟩)
          go_returns
          exact ⟨by rw [F.out]; rfl, K6.out.below⟩
end Go.Proofs.YteahbdhhcfoiiaaDoor
/- name: the reference's Plain; NameTexts, NamePlain. -/
namespace Go.Proofs.YteahbdhhcfoiiaaDoor
set_option linter.unusedVariables false
set_option linter.unusedSimpArgs false
open Go.RowKit W
theorem globs_one {gs : List Gl} (gl : gs.length = 1) (x : Gl) (hx : x = gs[0]'(by omega)) (k : x.k = 1) : nodeT gs = lst x.t := by
  match gs, gl with
  | [z], _ => simp only [List.getElem_cons_zero] at hx; subst hx; simp [nodeT, globT_1 k]
set_option maxRecDepth 100000 in
set_option maxHeartbeats 8000000 in
theorem rplain_spec (p : List (List Gl)) (pw : PtW p) (hw : patW p ≤ 4398046511104) (a : Option Addr) (c : Nat) (w : World) (ha : IsPt w a p) :
    Calls Tryd.prog 33 #[.agg #[.slice a p.length c]] w fun e w' => e = .returned (.tuple #[.string (plainA p).1, .bool (plainA p).2]) ∧ Below w.heap.size w w' := by
  have HA := hide ha
  have km := fun w' (u : Below w.heap.size w w') => rmay_spec p pw a c w' (ha.later u)
  have pn := pw.n
  have PM := hide pw.m
  have K0 : Hid (Kp w a p.length c (w.alloc (.cells #[.slice a p.length c] 33))) := ⟨by simp [go_sem], (Below.refl _ _).alloc (Nat.le_refl _) _, by simp⟩
  obtain ⟨t0, ht0⟩ : ∃ t, mayB p = t := ⟨_, rfl⟩
  rw [ht0] at km
  cases t0
  · have F : Hid (plainA p = (⟨#[]⟩, false)) := by show _ = _; unfold plainA; rw [if_neg]; rw [ht0]; simp
    obtain ⟨n, hnn⟩ : ∃ n, n = p.length := ⟨_, rfl⟩
    rw [← hnn] at pn km K0 ⊢
    clear ht0 hnn ha
    go_enter Tryd.func33, Tryd.ntmps33
    go_wp2_with fail
    refine Calls.mono (km _ K0.out.below) ?_
    rintro e w5 ⟨rfl, b5⟩
    have K5 := hide (K0.out.call b5)
    clear b5 km
    go_wp2_with fail
    go_returns
    exact ⟨by rw [F.out]; rfl, K5.out.below⟩
  · have HM := hide ht0
    obtain ⟨n, hnn⟩ : ∃ n, n = p.length := ⟨_, rfl⟩
    have HN := hide hnn
    rw [← hnn] at pn km K0 ⊢
    clear ht0 hnn ha
    go_enter Tryd.func33, Tryd.ntmps33
    go_wp2_with fail
    refine Calls.mono (km _ K0.out.below) ?_
    rintro e w5 ⟨rfl, b5⟩
    have z0 := (K0.out.call b5).cell
    have K5 := hide (K0.out.call b5)
    clear b5 km K0
    go_wp2_with fail
    go_loop [4, 5] (fun tv iv => ∃ (t : ByteArray) (k : Nat), k ≤ n ∧ tv = .string t ∧ iv = .int .i64 (k : Int) ∧ Hid (lst t = frontT p k) ∧ Hid ((p.take k).all oneB = true)) (fun _ iv => n - (intOf iv).toNat)
    case atStart => exact ⟨⟨#[]⟩, 0, by omega, rfl, rfl, hide rfl, hide rfl⟩
    case round =>
      obtain ⟨t, k, hk, rfl, rfl, EQ, AL⟩ := hrel
      have FL := frontT_len p k
      have tz : t.size ≤ 4398046511104 := by have := congrArg List.length EQ.out; rw [lst_len] at this; omega
      clear FL
      by_cases hlt : k < n
      · have kp : k < p.length := by have := HN.out; omega
        obtain ⟨g, o, rfl, LN⟩ := HA.out.resolve_left (by intro e; rw [e] at kp; simp at kp)
        obtain ⟨b, cc, n0w, n1, n2⟩ := LN.cell k kp
        have n0 := (K5.out.below.cell (p := ⟨g, o + k, none⟩) LN.lt).trans n0w
        have gm := PM.out p[k] (List.getElem_mem kp)
        have HG := hide n1
        have SN := hide (all_snoc p k kp AL.out)
        have NO := hide (all_none p k kp)
        have PF := hide (preT_more p k kp)
        have MEM := hide (List.getElem_mem kp)
        obtain ⟨gs, hgs⟩ : ∃ gs, gs = p[k] := ⟨_, rfl⟩
        rw [← hgs] at n0 HG SN NO gm PF MEM
        obtain ⟨m, hm⟩ : ∃ m, m = gs.length := ⟨_, rfl⟩
        have HM2 := hide hm
        rw [← hm] at n0 gm
        clear hgs hm n1 LN n2 n0w
        by_cases m1 : m = 1
        · subst m1
          have gl : gs.length = 1 := HM2.out.symm
          obtain ⟨g2, o2, rfl, LG⟩ := HG.out.resolve_left (by intro e; rw [e] at gl; simp at gl)
          have c9 := (LG.cell 0 (by omega)).1
          have c8 := (LG.cell 0 (by omega)).2.1
          have c0 := (K5.out.below.cell (p := ⟨g2, o2 + 0 * 3, none⟩) LG.lt).trans c9
          have c1 := (K5.out.below.cell (p := ⟨g2, o2 + 0 * 3 + 1, none⟩) LG.lt).trans c8
          have OB := hide (oneB_at gl)
          have xw := globW_le p gs gs[0] MEM.out (List.getElem_mem _)
          have GO := hide (globs_one gl)
          obtain ⟨x, hx⟩ : ∃ x, x = gs[0] := ⟨_, rfl⟩
          have OB2 : Hid (oneB gs = decide (x.k = 1)) := by rw [hx]; exact OB
          have GO2 : Hid (x.k = 1 → nodeT gs = lst x.t) := hide (fun h => GO.out x hx h)
          rw [← hx] at c0 c1 xw
          rw [show o2 + 0 * 3 = o2 by omega] at c0 c1
          clear OB GO c9 c8
          clear hx gl LG
          have xl : x.t.size ≤ 4398046511104 := by unfold globW at xw; omega
          cases x1 : (x.k != 1)
          · have x1' : x.k = 1 := by simpa using x1
            have A2 : Hid ((p.take (k + 1)).all oneB = true) := by show _ = _; rw [SN.out, OB2.out]; simp [x1']
            by_cases k0 : k = 0
            · have N : Hid (lst (t ++ x.t) = frontT p (k + 1)) := by
                show _ = _
                rw [lst_app2, EQ.out, PF.out, GO2.out x1']; unfold preT; rw [if_pos k0, k0]; rfl
              have d0 : decide ((0 : Int) < (k : Int)) = false := by rw [decide_eq_false_iff_not]; omega
              have d1 : decide (0 < k) = false := by rw [decide_eq_false_iff_not]; omega
              clear x1' k0 xw
              go_wp2_with fail
              go_round
              case rel => exact ⟨_, k + 1, by omega, rfl, by go_num, N, A2⟩
              case measure => simp [intOf]; omega
            · have N : Hid (lst (t ++ ⟨#[46]⟩ ++ x.t) = frontT p (k + 1)) := by
                show _ = _
                rw [lst_app2, lst_app2, EQ.out, PF.out, GO2.out x1']; unfold preT; rw [if_neg k0]; rfl
              have d0 : decide ((0 : Int) < (k : Int)) = true := by rw [decide_eq_true_eq]; omega
              have d1 : decide (0 < k) = true := by rw [decide_eq_true_eq]; omega
              have s46 : (⟨#[46]⟩ : ByteArray).size = 1 := rfl
              clear x1' k0 xw
              go_wp2_with fail
              go_round
              case rel => exact ⟨_, k + 1, by omega, rfl, by go_num, N, A2⟩
              case measure => simp [intOf]; omega
          · have x1' : ¬ x.k = 1 := by simpa using x1
            have F : Hid (plainA p = (⟨#[]⟩, false)) := by
              show _ = _; unfold plainA; rw [if_neg]
              rintro ⟨_, q, _⟩
              rw [NO.out (by rw [OB2.out]; simp [x1'])] at q; cases q
            clear x1'
            go_wp2_with fail
            go_returns
            exact ⟨by rw [F.out]; rfl, K5.out.below⟩
        · have F : Hid (plainA p = (⟨#[]⟩, false)) := by
            show _ = _; unfold plainA; rw [if_neg]
            rintro ⟨_, q, _⟩
            rw [NO.out (oneB_len (by rw [← HM2.out]; exact m1))] at q; cases q
          have m2 : ((m : Int) != 1) = true := by rw [bne_iff_ne]; omega
          clear m1
          go_wp2_with fail
          go_returns
          exact ⟨by rw [F.out]; rfl, K5.out.below⟩
      · obtain rfl : k = n := by omega
        have A2 := AL.out
        rw [HN.out, List.take_length] at A2
        have ly : lst t = patT p := by rw [EQ.out, HN.out, frontT_all]
        have kv := fun w' => rvalid_spec t w'
        rw [show t.data.toList = patT p from ly] at kv
        obtain ⟨v, hv⟩ : ∃ v, validN (patT p) = v := ⟨_, rfl⟩
        have F : Hid (plainA p = if v = true then (t, true) else (⟨#[]⟩, false)) := by
          show _ = _; unfold plainA; rw [hv, ← ly, mk_lst, HM.out, A2]; simp
        rw [hv] at kv
        clear hv A2 ly
        cases v
        · have F : Hid (plainA p = (⟨#[]⟩, false)) := by show _ = _; rw [F.out]; rfl
          go_wp2_with fail
          refine Calls.mono (kv _) ?_
          rintro e w6 ⟨rfl, b6⟩
          have K6 := hide (K5.out.call b6)
          clear b6
          go_wp2_with fail
          go_returns
          exact ⟨by rw [F.out]; rfl, K6.out.below⟩
        · have F : Hid (plainA p = (t, true)) := by show _ = _; rw [F.out]; rfl
          go_wp2_with fail
          refine Calls.mono (kv _) ?_
          rintro e w6 ⟨rfl, b6⟩
          have K6 := hide (K5.out.call b6)
          clear b6
          go_wp2_with fail
          go_returns
          exact ⟨by rw [F.out]; rfl, K6.out.below⟩
end Go.Proofs.YteahbdhhcfoiiaaDoor
/- What the reach gives of what lies within slices and structs. -/
namespace Go.Proofs.YteahbdhhcfoiiaaDoor
set_option linter.unusedVariables false
open Go.RowKit W
/-- All weights of a datum are within the reach. -/
def Wt {H : Type} (P : Program) (t : TypeId) (d : DataW H) : Prop := ∀ n ∈ d.weights P t, n ≤ reachBytes
theorem wt_of {H : Type} {P : Program} {ts : List TypeId} {ds : List (DataW H)} (h : (DataW.weightsEach P ts ds).all (· ≤ reachBytes) = true) {j : Nat} {t : TypeId} {d : DataW H} (ht : ts[j]? = some t) (hd : ds[j]? = some d) : Wt P t d := by
  intro n hn
  have := List.all_eq_true.1 h n (DataW.weights_mem_each ht hd n hn)
  simpa using this
theorem wt_all {H : Type} {P : Program} {e : TypeId} : ∀ {l : List (DataW H)} {d : DataW H}, d ∈ l → ∀ n ∈ d.weights P e, n ∈ DataW.weightsAll P e l
  | x :: r, d, h, n, hn => by
    unfold DataW.weightsAll
    rcases List.mem_cons.1 h with rfl | h
    · exact List.mem_append_left _ hn
    · exact List.mem_append_right _ (wt_all h n hn)
theorem wt_len {H : Type} {P : Program} {t e : TypeId} {el sp : List (DataW H)} (h : Wt P t (.slice el sp)) (hu : P.underlying t = some (.slice e)) : (el.length + sp.length) * P.bytesOf e ≤ reachBytes := by
  refine h _ ?_
  unfold DataW.weights
  rw [hu]
  exact List.mem_cons_self
theorem wt_elem {H : Type} {P : Program} {t e : TypeId} {el sp : List (DataW H)} (h : Wt P t (.slice el sp)) (hu : P.underlying t = some (.slice e)) {d : DataW H} (hd : d ∈ el) : Wt P e d := by
  intro n hn
  refine h n ?_
  unfold DataW.weights
  rw [hu]
  exact List.mem_cons_of_mem _ (List.mem_append_left _ (wt_all hd n hn))
theorem wt_part {H : Type} {P : Program} {t : TypeId} {fs : Array Field} {ps : List (DataW H)} (h : Wt P t (.agg ps)) (hu : P.underlying t = some (.struct fs)) {j : Nat} {f : Field} {d : DataW H} (hf : fs.toList[j]? = some f) (hd : ps[j]? = some d) : Wt P f.type d := by
  intro n hn
  refine h n ?_
  unfold DataW.weights
  rw [hu]
  exact DataW.weights_mem_each (by rw [List.getElem?_map, hf]; rfl) hd n hn
theorem wt_text {H : Type} {P : Program} {t : TypeId} {bs : List UInt8} (h : Wt (H := H) P t (.lit (.string bs))) : bs.length ≤ 140737488351232 := by
  have h1 := h bs.length (by unfold DataW.weights; exact List.mem_singleton.2 rfl)
  have h2 : reachBytes ≤ 140737488351232 := by decide
  omega
end Go.Proofs.YteahbdhhcfoiiaaDoor
/- name: how a pattern reads. -/
namespace Go.Proofs.YteahbdhhcfoiiaaDoor
set_option linter.unusedVariables false
set_option linter.unusedSimpArgs false
open Go.RowKit W Go.Maps Go.ChangeShapes Go.WideShapes Go.Deep
section
variable {H : Type} {enc : TypeId × Value → H} {w : World} {base : Nat} {sp : Nat → Bool} {held : Bool} {fuel : Nat} {cs : List Value} {x : DataW H × List MemPlace}
instance : Inhabited Gl := ⟨⟨0, ByteArray.empty, []⟩⟩
theorem cellsGlob : Tryd.prog.cellsOf 66 = 3 := by kernel_rfl
theorem cellsPat : Tryd.prog.cellsOf 33 = 1 := by kernel_rfl
theorem cellsGs : Tryd.prog.cellsOf 61 = 1 := by kernel_rfl
theorem cellsNs : Tryd.prog.cellsOf 31 = 1 := by kernel_rfl
theorem cellsTx : Tryd.prog.cellsOf 26 = 1 := by kernel_rfl
theorem cellsStr : Tryd.prog.cellsOf 9 = 1 := by kernel_rfl
theorem cellsKind : Tryd.prog.cellsOf 64 = 1 := by kernel_rfl
theorem listOf1 {α : Type} {l : List α} (h : l.length = 1) : ∃ a, l = [a] := by
  rcases l with _ | ⟨a, _ | ⟨b, l⟩⟩ <;> simp at h
  exact ⟨a, rfl⟩
theorem listOf3 {α : Type} {l : List α} (h : l.length = 3) : ∃ a b c, l = [a, b, c] := by
  rcases l with _ | ⟨a, _ | ⟨b, _ | ⟨c, _ | ⟨d, l⟩⟩⟩⟩ <;> simp at h
  exact ⟨a, b, c, rfl⟩
theorem reach_le : reachBytes ≤ 140737488351232 := by decide
theorem rd_txts (h : DataW.trod enc Tryd.prog w base sp held fuel 26 cs = some x) :
    ∃ s c, ∃ l : List ByteArray, cs = [.slice s l.length c] ∧ l.length ≤ c ∧ IsTxts w s l ∧ (Wt Tryd.prog 26 x.1 → l.length ≤ 140737488355328 ∧ ∀ y ∈ l, y.size ≤ 140737488355328) := by
  obtain ⟨v, rfl⟩ : ∃ v, cs = [v] := by
    rcases open_slice Tryd.underlying26 h with ⟨e, _⟩ | ⟨a, len, cap, m, k, D, Pl, e, _⟩
    · exact ⟨_, e⟩
    · exact ⟨_, e⟩
  obtain ⟨s, c, l, rfl, hl, hd⟩ := isTxts_of Tryd.underlying26 Tryd.underlying9 cellsStr h
  have lc : l.length ≤ c := by
    rcases open_slice Tryd.underlying26 h with ⟨e, _⟩ | ⟨a, len, cap, m, k, D, Pl, e, _, hlc, _⟩
    · simp at e; rw [e.2.1]; simp
    · simp at e; omega
  refine ⟨s, c, l, rfl, lc, hl, fun hw => ?_⟩
  rcases hd with e | ⟨spd, e⟩
  · subst e; simp
  · rw [e] at hw
    constructor
    · have h1 := wt_len hw Tryd.underlying26
      rw [(by kernel_rfl : Tryd.prog.bytesOf 9 = 16), show (strs (H := H) l).length = l.length by simp [strs]] at h1
      have h2 := reach_le
      omega
    · intro q hq
      have h1 := wt_text (wt_elem hw Tryd.underlying26 (d := .lit (.string q.data.toList)) (List.mem_map_of_mem (f := fun s : ByteArray => (.lit (.string s.data.toList) : DataW H)) hq))
      have : q.data.toList.length = q.size := Array.length_toList
      omega
theorem rd_glob (h : DataW.trod enc Tryd.prog w base sp held fuel 66 cs = some x) :
    ∃ g : Gl, ∃ b c, cs = [.int .i64 g.k, .string g.t, .slice b g.al.length c] ∧ g.al.length ≤ c ∧ IsTxts w b g.al ∧ (Wt Tryd.prog 66 x.1 → GlW g) := by
  obtain ⟨xs, n, _, hx, hl, hxl, hf⟩ := DataW.trod_struct Tryd.underlying66 h
  rw [cellsGlob] at hl
  have hxl : xs.length = 3 := by simpa using hxl
  obtain ⟨v0, v1, v2, rfl⟩ := listOf3 hl
  obtain ⟨y0, y1, y2, rfl⟩ := listOf3 hxl
  have g0 := hf 0 _ rfl
  have g1 := hf 1 _ rfl
  have g2 := hf 2 _ rfl
  simp [cellsKind, cellsStr, cellsTx] at g0 g1 g2
  obtain ⟨k, e0, _⟩ := DataW.trod_int Tryd.underlying64 g0
  obtain ⟨t, e1, d1, _⟩ := DataW.trod_string Tryd.underlying9 g1
  obtain ⟨b, c, l, e2, lc, il, wl⟩ := rd_txts g2
  simp at e0 e1 e2
  subst e0 e1 e2
  refine ⟨⟨k, t, l⟩, b, c, rfl, lc, il, fun hw => ?_⟩
  subst hx
  have w2 := wl (wt_part (j := 2) hw Tryd.underlying66 rfl (by simp))
  have w1 := wt_part (j := 1) (d := y1.1) hw Tryd.underlying66 rfl (by simp)
  rw [d1] at w1
  have w1 := wt_text w1
  have : t.data.toList.length = t.size := Array.length_toList
  refine ⟨?_, w2.1, w2.2⟩
  show t.size ≤ _
  first | omega | (simp at w1; omega)
theorem rd_gs (h : DataW.trod enc Tryd.prog w base sp held fuel 61 cs = some x) :
    ∃ s c, ∃ gs : List Gl, cs = [.slice s gs.length c] ∧ gs.length ≤ c ∧ IsGs w s gs ∧ (Wt Tryd.prog 61 x.1 → gs.length ≤ 140737488355328 ∧ ∀ g ∈ gs, GlW g) := by
  rcases open_slice Tryd.underlying61 h with ⟨hcs, _⟩ | ⟨a, n, cap, m, k, D, Pl, hcs, _, hl, hm, hmm, hx, hcell⟩
  · exact ⟨none, 0, [], hcs, by simp, .inl rfl, fun _ => by simp⟩
  · have lm : n ≤ m := by rw [hmm]; split <;> omega
    have each : ∀ i, i < n → ∃ g : Gl, (∃ b c, w.cell? (a.add (i * 3 + 0)) = some (.int .i64 g.k) ∧ w.cell? (a.add (i * 3 + 1)) = some (.string g.t) ∧ w.cell? (a.add (i * 3 + 2)) = some (.slice b g.al.length c) ∧ IsTxts w b g.al ∧ g.al.length ≤ c) ∧ (Wt Tryd.prog 66 (D i) → GlW g) := by
      intro i hi
      obtain ⟨cs', h1, h2⟩ := hcell i (by omega)
      obtain ⟨_, hlen, hc⟩ := World.cells?_some h1
      obtain ⟨g, b, c, rfl, lc, it, wt⟩ := rd_glob h2
      rw [cellsGlob] at hc
      have c0 := hc 0 (by omega)
      have c1 := hc 1 (by omega)
      have c2 := hc 2 (by omega)
      rw [add_add] at c0 c1 c2
      exact ⟨g, ⟨b, c, c0.trans rfl, c1.trans rfl, c2.trans rfl, it, lc⟩, wt⟩
    obtain ⟨q, hq⟩ := choose_lt each
    have hlen : ((List.range n).map q).length = n := by simp
    have at' : ∀ j (hj : j < n), ((List.range n).map q)[j]'(by rw [hlen]; exact hj) = q j := fun j hj => by rw [List.getElem_map, List.getElem_range]
    refine ⟨some a, cap, (List.range n).map q, by rw [hlen]; exact hcs, by rw [hlen]; exact hl, ?_, fun hw => ?_⟩
    · rcases Nat.eq_zero_or_pos n with rfl | hpos
      · exact .inl (by simp)
      · obtain ⟨⟨_, _, g0, _⟩, _⟩ := hq 0 hpos
        obtain ⟨b, off, spot⟩ := a
        have hspot : spot = none := by simpa [Addr.add] using World.cell?_spot g0
        subst hspot
        refine .inr ⟨b, off, rfl, fun j hj => ?_, ?_⟩
        · rw [hlen] at hj
          rw [at' j hj]
          obtain ⟨⟨b1, c1, g1, g2, g3, g4, g5⟩, _⟩ := hq j hj
          rw [add_plain, ← Nat.add_assoc] at g1 g2 g3
          exact ⟨g1, g2, b1, c1, g3, g4, g5⟩
        · rw [add_plain] at g0
          rcases Nat.lt_or_ge b w.heap.size with hlt | hge
          · exact hlt
          · unfold World.cell? at g0; simp [Array.getElem?_eq_none hge] at g0
    · rw [hx] at hw
      constructor
      · have h1 := wt_len hw Tryd.underlying61
        rw [(by kernel_rfl : Tryd.prog.bytesOf 66 = 48)] at h1
        have h2 := reach_le
        simp at h1 ⊢
        omega
      · intro g hg
        obtain ⟨i, hi, rfl⟩ := List.mem_map.1 hg
        exact (hq i (List.mem_range.1 hi)).2 (wt_elem hw Tryd.underlying61 (List.mem_map_of_mem hi))
theorem rd_ns (h : DataW.trod enc Tryd.prog w base sp held fuel 31 cs = some x) :
    ∃ s c, ∃ p : List (List Gl), cs = [.slice s p.length c] ∧ p.length ≤ c ∧ IsPt w s p ∧ (Wt Tryd.prog 31 x.1 → PtW p) := by
  rcases open_slice Tryd.underlying31 h with ⟨hcs, _⟩ | ⟨a, n, cap, m, k, D, Pl, hcs, _, hl, hm, hmm, hx, hcell⟩
  · exact ⟨none, 0, [], hcs, by simp, .inl rfl, fun _ => ⟨by simp, by simp, by simp⟩⟩
  · have lm : n ≤ m := by rw [hmm]; split <;> omega
    have each : ∀ i, i < n → ∃ gs : List Gl, (∃ b c, w.cell? (a.add (i * 1 + 0)) = some (.slice b gs.length c) ∧ IsGs w b gs ∧ gs.length ≤ c) ∧ (Wt Tryd.prog 61 (D i) → gs.length ≤ 140737488355328 ∧ ∀ g ∈ gs, GlW g) := by
      intro i hi
      obtain ⟨cs', h1, h2⟩ := hcell i (by omega)
      obtain ⟨_, hlen, hc⟩ := World.cells?_some h1
      obtain ⟨b, c, gs, rfl, lc, it, wt⟩ := rd_gs h2
      rw [cellsGs] at hc
      have c0 := hc 0 (by omega)
      rw [add_add] at c0
      exact ⟨gs, ⟨b, c, c0.trans rfl, it, lc⟩, wt⟩
    obtain ⟨q, hq⟩ := choose_lt each
    have hlen : ((List.range n).map q).length = n := by simp
    have at' : ∀ j (hj : j < n), ((List.range n).map q)[j]'(by rw [hlen]; exact hj) = q j := fun j hj => by rw [List.getElem_map, List.getElem_range]
    refine ⟨some a, cap, (List.range n).map q, by rw [hlen]; exact hcs, by rw [hlen]; exact hl, ?_, fun hw => ?_⟩
    · rcases Nat.eq_zero_or_pos n with rfl | hpos
      · exact .inl (by simp)
      · obtain ⟨⟨_, _, g0, _⟩, _⟩ := hq 0 hpos
        obtain ⟨b, off, spot⟩ := a
        have hspot : spot = none := by simpa [Addr.add] using World.cell?_spot g0
        subst hspot
        refine .inr ⟨b, off, rfl, fun j hj => ?_, ?_⟩
        · rw [hlen] at hj
          rw [at' j hj]
          obtain ⟨⟨b1, c1, g1, g4, g5⟩, _⟩ := hq j hj
          rw [add_plain, Nat.mul_one] at g1
          exact ⟨b1, c1, g1, g4, g5⟩
        · rw [add_plain] at g0
          rcases Nat.lt_or_ge b w.heap.size with hlt | hge
          · exact hlt
          · unfold World.cell? at g0; simp [Array.getElem?_eq_none hge] at g0
    · rw [hx] at hw
      have el : ∀ i ∈ List.range n, _ := fun i hi => (hq i (List.mem_range.1 hi)).2 (wt_elem hw Tryd.underlying31 (List.mem_map_of_mem hi))
      refine ⟨?_, fun gs hg => ?_, fun gs hg => ?_⟩
      · have h1 := wt_len hw Tryd.underlying31
        rw [(by kernel_rfl : Tryd.prog.bytesOf 61 = 24)] at h1
        have h2 := reach_le
        simp at h1 ⊢
        omega
      · obtain ⟨i, hi, rfl⟩ := List.mem_map.1 hg
        exact (el i hi).1
      · obtain ⟨i, hi, rfl⟩ := List.mem_map.1 hg
        exact (el i hi).2
theorem rd_pat (h : DataW.trod enc Tryd.prog w base sp held fuel 33 cs = some x) :
    ∃ s c, ∃ p : List (List Gl), cs = [.slice s p.length c] ∧ p.length ≤ c ∧ IsPt w s p ∧ (Wt Tryd.prog 33 x.1 → PtW p) := by
  obtain ⟨xs, n, _, hx, hl, hxl, hf⟩ := DataW.trod_struct Tryd.underlying33 h
  rw [cellsPat] at hl
  have hxl : xs.length = 1 := by simpa using hxl
  obtain ⟨v0, rfl⟩ := listOf1 hl
  obtain ⟨y0, rfl⟩ := listOf1 hxl
  have g0 := hf 0 _ rfl
  simp [cellsNs] at g0
  obtain ⟨s, c, p, e, lc, ip, wp⟩ := rd_ns g0
  refine ⟨s, c, p, e, lc, ip, fun hw => ?_⟩
  subst hx
  exact wp (wt_part (j := 0) hw Tryd.underlying33 rfl (by simp))
end
end Go.Proofs.YteahbdhhcfoiiaaDoor
/- What the bound of an upto statement gives. -/
namespace Go.Proofs.YteahbdhhcfoiiaaDoor
set_option linter.unusedVariables false
variable {H : Type}
theorem bulk1 (d : DataW H) : 1 ≤ Rows.uptoBulk d := by
  cases d with
  | lit l => cases l <;> simp [Rows.uptoBulk]
  | _ => simp [Rows.uptoBulk]
theorem bulk_len : ∀ l : List (DataW H), l.length ≤ Rows.uptoBulkAll l
  | [] => by simp
  | d :: r => by
    have h1 := bulk1 d
    have h2 := bulk_len r
    simp only [Rows.uptoBulkAll, List.length_cons]; omega
theorem bulk_mem {d : DataW H} : ∀ {l : List (DataW H)}, d ∈ l → Rows.uptoBulk d ≤ Rows.uptoBulkAll l
  | x :: r, h => by
    simp only [Rows.uptoBulkAll]
    rcases List.mem_cons.1 h with rfl | h
    · omega
    · have := bulk_mem h; omega
theorem bulk_le {l : List (DataW H)} (hk : Rows.uptoSmall H l = true) : Rows.uptoBulkAll l ≤ 1048576 := by simpa [Rows.uptoSmall] using hk
theorem bulk_slice {l el sp : List (DataW H)} (hk : Rows.uptoSmall H l = true) (h : DataW.slice el sp ∈ l) : el.length ≤ 1048576 := by
  have h1 := bulk_le hk
  have h2 := bulk_mem h
  have h3 := bulk_len el
  simp only [Rows.uptoBulk] at h2
  omega
theorem bulk_text {l : List (DataW H)} {bs : List UInt8} (hk : Rows.uptoSmall H l = true) (h : DataW.lit (.string bs) ∈ l) : bs.length ≤ 1048576 := by
  have h1 := bulk_le hk
  have h2 := bulk_mem h
  simp only [Rows.uptoBulk] at h2
  omega
theorem bulk_elem {l el sp : List (DataW H)} {d : DataW H} (hk : Rows.uptoSmall H l = true) (h : DataW.slice el sp ∈ l) (hd : d ∈ el) : Rows.uptoBulk d ≤ 1048576 := by
  have h1 := bulk_le hk
  have h2 := bulk_mem h
  have h3 := bulk_mem hd
  simp only [Rows.uptoBulk] at h2
  omega
theorem bulk_lit {bs : List UInt8} (h : Rows.uptoBulk (DataW.lit (H := H) (.string bs)) ≤ 1048576) : bs.length ≤ 1048576 := by
  simp only [Rows.uptoBulk] at h; omega
theorem bulk_part {d : DataW H} {ps : List (DataW H)} (h : Rows.uptoBulk (DataW.agg ps) ≤ 1048576) (hd : d ∈ ps) : Rows.uptoBulk d ≤ 1048576 := by
  have := bulk_mem hd
  simp only [Rows.uptoBulk] at h; omega
theorem bulk_inner {el sp : List (DataW H)} (h : Rows.uptoBulk (DataW.slice el sp) ≤ 1048576) : el.length ≤ 1048576 := by
  have := bulk_len el
  simp only [Rows.uptoBulk] at h; omega
end Go.Proofs.YteahbdhhcfoiiaaDoor
/- name: how a pattern reads, with its bulk. -/
namespace Go.Proofs.YteahbdhhcfoiiaaDoor
set_option linter.unusedVariables false
set_option linter.unusedSimpArgs false
open Go.RowKit W Go.Maps Go.ChangeShapes Go.WideShapes Go.Deep
section
variable {H : Type} {enc : TypeId × Value → H} {w : World} {base : Nat} {sp : Nat → Bool} {held : Bool} {fuel : Nat} {cs : List Value} {x : DataW H × List MemPlace}
theorem bulk_strs : ∀ l : List ByteArray, altsW l ≤ Rows.uptoBulkAll (H := H) (strs l)
  | [] => by simp [altsW]
  | a :: r => by
    have := bulk_strs r
    have e : a.data.toList.length = a.size := Array.length_toList
    simp only [strs, List.map_cons, altsW, List.sum_cons, Rows.uptoBulkAll, Rows.uptoBulk] at this ⊢
    omega
theorem sum_bulk {f : Nat → Nat} {D : Nat → DataW H} : ∀ n, (∀ i, i < n → f i ≤ Rows.uptoBulk (D i)) → ((List.range n).map f).sum ≤ Rows.uptoBulkAll ((List.range n).map D)
  | 0, _ => by simp
  | n + 1, h => by
    have h1 := sum_bulk n fun i hi => h i (by omega)
    have h2 := h n (by omega)
    have app : ∀ (l m : List (DataW H)), Rows.uptoBulkAll (l ++ m) = Rows.uptoBulkAll l + Rows.uptoBulkAll m := by
      intro l m
      induction l with
      | nil => simp [Rows.uptoBulkAll]
      | cons x r ih => simp only [List.cons_append, Rows.uptoBulkAll, ih]; omega
    rw [List.range_succ, List.map_append, List.map_append, app, List.sum_append]
    simp only [List.map_cons, List.map_nil, List.sum_cons, List.sum_nil, Rows.uptoBulkAll]
    omega
theorem rd_txts2 (h : DataW.trod enc Tryd.prog w base sp held fuel 26 cs = some x) :
    ∃ s c, ∃ l : List ByteArray, cs = [.slice s l.length c] ∧ l.length ≤ c ∧ IsTxts w s l ∧ (Wt Tryd.prog 26 x.1 → l.length ≤ 140737488355328 ∧ ∀ y ∈ l, y.size ≤ 140737488355328) ∧ altsW l ≤ Rows.uptoBulk x.1 := by
  obtain ⟨v, rfl⟩ : ∃ v, cs = [v] := by
    rcases open_slice Tryd.underlying26 h with ⟨e, _⟩ | ⟨a, len, cap, m, k, D, Pl, e, _⟩
    · exact ⟨_, e⟩
    · exact ⟨_, e⟩
  obtain ⟨s, c, l, rfl, hl, hd⟩ := isTxts_of Tryd.underlying26 Tryd.underlying9 cellsStr h
  have lc : l.length ≤ c := by
    rcases open_slice Tryd.underlying26 h with ⟨e, _⟩ | ⟨a, len, cap, m, k, D, Pl, e, _, hlc, _⟩
    · simp at e; rw [e.2.1]; simp
    · simp at e; omega
  refine ⟨s, c, l, rfl, lc, hl, fun hw => ?_, ?_⟩
  rotate_left
  · rcases hd with e | ⟨spd, e⟩
    · subst e; simp [altsW]
    · rw [e]; have := bulk_strs (H := H) l; simp only [Rows.uptoBulk]; omega
  rcases hd with e | ⟨spd, e⟩
  · subst e; simp
  · rw [e] at hw
    constructor
    · have h1 := wt_len hw Tryd.underlying26
      rw [(by kernel_rfl : Tryd.prog.bytesOf 9 = 16), show (strs (H := H) l).length = l.length by simp [strs]] at h1
      have h2 := reach_le
      omega
    · intro q hq
      have h1 := wt_text (wt_elem hw Tryd.underlying26 (d := .lit (.string q.data.toList)) (List.mem_map_of_mem (f := fun s : ByteArray => (.lit (.string s.data.toList) : DataW H)) hq))
      have : q.data.toList.length = q.size := Array.length_toList
      omega
theorem rd_glob2 (h : DataW.trod enc Tryd.prog w base sp held fuel 66 cs = some x) :
    ∃ g : Gl, ∃ b c, cs = [.int .i64 g.k, .string g.t, .slice b g.al.length c] ∧ g.al.length ≤ c ∧ IsTxts w b g.al ∧ (Wt Tryd.prog 66 x.1 → GlW g) ∧ globW g ≤ Rows.uptoBulk x.1 := by
  obtain ⟨xs, n, _, hx, hl, hxl, hf⟩ := DataW.trod_struct Tryd.underlying66 h
  rw [cellsGlob] at hl
  have hxl : xs.length = 3 := by simpa using hxl
  obtain ⟨v0, v1, v2, rfl⟩ := listOf3 hl
  obtain ⟨y0, y1, y2, rfl⟩ := listOf3 hxl
  have g0 := hf 0 _ rfl
  have g1 := hf 1 _ rfl
  have g2 := hf 2 _ rfl
  simp [cellsKind, cellsStr, cellsTx] at g0 g1 g2
  obtain ⟨k, e0, _⟩ := DataW.trod_int Tryd.underlying64 g0
  obtain ⟨t, e1, d1, _⟩ := DataW.trod_string Tryd.underlying9 g1
  obtain ⟨b, c, l, e2, lc, il, wl, ba⟩ := rd_txts2 g2
  simp at e0 e1 e2
  subst e0 e1 e2
  refine ⟨⟨k, t, l⟩, b, c, rfl, lc, il, fun hw => ?_, ?_⟩
  rotate_left
  · subst hx
    have e : t.data.toList.length = t.size := Array.length_toList
    have h0 := bulk1 y0.1
    show 2 + t.size + altsW l ≤ _
    simp only [Rows.uptoBulk, Rows.uptoBulkAll, List.map_cons, List.map_nil, d1]
    first | omega | (simp [Rows.uptoBulk]; omega)
  subst hx
  have w2 := wl (wt_part (j := 2) hw Tryd.underlying66 rfl (by simp))
  have w1 := wt_part (j := 1) (d := y1.1) hw Tryd.underlying66 rfl (by simp)
  rw [d1] at w1
  have w1 := wt_text w1
  have : t.data.toList.length = t.size := Array.length_toList
  refine ⟨?_, w2.1, w2.2⟩
  show t.size ≤ _
  first | omega | (simp at w1; omega)
theorem rd_gs2 (h : DataW.trod enc Tryd.prog w base sp held fuel 61 cs = some x) :
    ∃ s c, ∃ gs : List Gl, cs = [.slice s gs.length c] ∧ gs.length ≤ c ∧ IsGs w s gs ∧ (Wt Tryd.prog 61 x.1 → gs.length ≤ 140737488355328 ∧ ∀ g ∈ gs, GlW g) ∧ nodeW gs ≤ Rows.uptoBulk x.1 := by
  rcases open_slice Tryd.underlying61 h with ⟨hcs, _⟩ | ⟨a, n, cap, m, k, D, Pl, hcs, _, hl, hm, hmm, hx, hcell⟩
  · exact ⟨none, 0, [], hcs, by simp, .inl rfl, fun _ => by simp, by have := bulk1 x.1; simp [nodeW]; omega⟩
  · have lm : n ≤ m := by rw [hmm]; split <;> omega
    have each : ∀ i, i < n → ∃ g : Gl, (∃ b c, w.cell? (a.add (i * 3 + 0)) = some (.int .i64 g.k) ∧ w.cell? (a.add (i * 3 + 1)) = some (.string g.t) ∧ w.cell? (a.add (i * 3 + 2)) = some (.slice b g.al.length c) ∧ IsTxts w b g.al ∧ g.al.length ≤ c) ∧ (Wt Tryd.prog 66 (D i) → GlW g) ∧ globW g ≤ Rows.uptoBulk (D i) := by
      intro i hi
      obtain ⟨cs', h1, h2⟩ := hcell i (by omega)
      obtain ⟨_, hlen, hc⟩ := World.cells?_some h1
      obtain ⟨g, b, c, rfl, lc, it, wt, bu⟩ := rd_glob2 h2
      rw [cellsGlob] at hc
      have c0 := hc 0 (by omega)
      have c1 := hc 1 (by omega)
      have c2 := hc 2 (by omega)
      rw [add_add] at c0 c1 c2
      exact ⟨g, ⟨b, c, c0.trans rfl, c1.trans rfl, c2.trans rfl, it, lc⟩, wt, bu⟩
    obtain ⟨q, hq⟩ := choose_lt each
    have hlen : ((List.range n).map q).length = n := by simp
    have at' : ∀ j (hj : j < n), ((List.range n).map q)[j]'(by rw [hlen]; exact hj) = q j := fun j hj => by rw [List.getElem_map, List.getElem_range]
    refine ⟨some a, cap, (List.range n).map q, by rw [hlen]; exact hcs, by rw [hlen]; exact hl, ?_, fun hw => ?_, ?_⟩
    rotate_right
    · rw [hx]
      have h1 := sum_bulk (D := D) (f := fun i => globW (q i)) n fun i hi => (hq i hi).2.2
      simp only [nodeW, List.map_map, Rows.uptoBulk]
      have e : ((List.range n).map (globW ∘ q)) = (List.range n).map fun i => globW (q i) := rfl
      rw [e]; omega
    · rcases Nat.eq_zero_or_pos n with rfl | hpos
      · exact .inl (by simp)
      · obtain ⟨⟨_, _, g0, _⟩, _⟩ := hq 0 hpos
        obtain ⟨b, off, spot⟩ := a
        have hspot : spot = none := by simpa [Addr.add] using World.cell?_spot g0
        subst hspot
        refine .inr ⟨b, off, rfl, fun j hj => ?_, ?_⟩
        · rw [hlen] at hj
          rw [at' j hj]
          obtain ⟨⟨b1, c1, g1, g2, g3, g4, g5⟩, _⟩ := hq j hj
          rw [add_plain, ← Nat.add_assoc] at g1 g2 g3
          exact ⟨g1, g2, b1, c1, g3, g4, g5⟩
        · rw [add_plain] at g0
          rcases Nat.lt_or_ge b w.heap.size with hlt | hge
          · exact hlt
          · unfold World.cell? at g0; simp [Array.getElem?_eq_none hge] at g0
    · rw [hx] at hw
      constructor
      · have h1 := wt_len hw Tryd.underlying61
        rw [(by kernel_rfl : Tryd.prog.bytesOf 66 = 48)] at h1
        have h2 := reach_le
        simp at h1 ⊢
        omega
      · intro g hg
        obtain ⟨i, hi, rfl⟩ := List.mem_map.1 hg
        exact (hq i (List.mem_range.1 hi)).2.1 (wt_elem hw Tryd.underlying61 (List.mem_map_of_mem hi))
theorem rd_ns2 (h : DataW.trod enc Tryd.prog w base sp held fuel 31 cs = some x) :
    ∃ s c, ∃ p : List (List Gl), cs = [.slice s p.length c] ∧ p.length ≤ c ∧ IsPt w s p ∧ (Wt Tryd.prog 31 x.1 → PtW p) ∧ patW p ≤ Rows.uptoBulk x.1 := by
  rcases open_slice Tryd.underlying31 h with ⟨hcs, _⟩ | ⟨a, n, cap, m, k, D, Pl, hcs, _, hl, hm, hmm, hx, hcell⟩
  · exact ⟨none, 0, [], hcs, by simp, .inl rfl, fun _ => ⟨by simp, by simp, by simp⟩, by simp [patW]⟩
  · have lm : n ≤ m := by rw [hmm]; split <;> omega
    have each : ∀ i, i < n → ∃ gs : List Gl, (∃ b c, w.cell? (a.add (i * 1 + 0)) = some (.slice b gs.length c) ∧ IsGs w b gs ∧ gs.length ≤ c) ∧ (Wt Tryd.prog 61 (D i) → gs.length ≤ 140737488355328 ∧ ∀ g ∈ gs, GlW g) ∧ nodeW gs ≤ Rows.uptoBulk (D i) := by
      intro i hi
      obtain ⟨cs', h1, h2⟩ := hcell i (by omega)
      obtain ⟨_, hlen, hc⟩ := World.cells?_some h1
      obtain ⟨b, c, gs, rfl, lc, it, wt, bu⟩ := rd_gs2 h2
      rw [cellsGs] at hc
      have c0 := hc 0 (by omega)
      rw [add_add] at c0
      exact ⟨gs, ⟨b, c, c0.trans rfl, it, lc⟩, wt, bu⟩
    obtain ⟨q, hq⟩ := choose_lt each
    have hlen : ((List.range n).map q).length = n := by simp
    have at' : ∀ j (hj : j < n), ((List.range n).map q)[j]'(by rw [hlen]; exact hj) = q j := fun j hj => by rw [List.getElem_map, List.getElem_range]
    refine ⟨some a, cap, (List.range n).map q, by rw [hlen]; exact hcs, by rw [hlen]; exact hl, ?_, fun hw => ?_, ?_⟩
    rotate_right
    · rw [hx]
      have h1 := sum_bulk (D := D) (f := fun i => nodeW (q i)) n fun i hi => (hq i hi).2.2
      simp only [patW, List.map_map, Rows.uptoBulk]
      have e : ((List.range n).map (nodeW ∘ q)) = (List.range n).map fun i => nodeW (q i) := rfl
      rw [e]; omega
    · rcases Nat.eq_zero_or_pos n with rfl | hpos
      · exact .inl (by simp)
      · obtain ⟨⟨_, _, g0, _⟩, _⟩ := hq 0 hpos
        obtain ⟨b, off, spot⟩ := a
        have hspot : spot = none := by simpa [Addr.add] using World.cell?_spot g0
        subst hspot
        refine .inr ⟨b, off, rfl, fun j hj => ?_, ?_⟩
        · rw [hlen] at hj
          rw [at' j hj]
          obtain ⟨⟨b1, c1, g1, g4, g5⟩, _⟩ := hq j hj
          rw [add_plain, Nat.mul_one] at g1
          exact ⟨b1, c1, g1, g4, g5⟩
        · rw [add_plain] at g0
          rcases Nat.lt_or_ge b w.heap.size with hlt | hge
          · exact hlt
          · unfold World.cell? at g0; simp [Array.getElem?_eq_none hge] at g0
    · rw [hx] at hw
      have el : ∀ i ∈ List.range n, _ := fun i hi => (hq i (List.mem_range.1 hi)).2.1 (wt_elem hw Tryd.underlying31 (List.mem_map_of_mem hi))
      refine ⟨?_, fun gs hg => ?_, fun gs hg => ?_⟩
      · have h1 := wt_len hw Tryd.underlying31
        rw [(by kernel_rfl : Tryd.prog.bytesOf 61 = 24)] at h1
        have h2 := reach_le
        simp at h1 ⊢
        omega
      · obtain ⟨i, hi, rfl⟩ := List.mem_map.1 hg
        exact (el i hi).1
      · obtain ⟨i, hi, rfl⟩ := List.mem_map.1 hg
        exact (el i hi).2
theorem rd_pat2 (h : DataW.trod enc Tryd.prog w base sp held fuel 33 cs = some x) :
    ∃ s c, ∃ p : List (List Gl), cs = [.slice s p.length c] ∧ p.length ≤ c ∧ IsPt w s p ∧ (Wt Tryd.prog 33 x.1 → PtW p) ∧ patW p ≤ Rows.uptoBulk x.1 := by
  obtain ⟨xs, n, _, hx, hl, hxl, hf⟩ := DataW.trod_struct Tryd.underlying33 h
  rw [cellsPat] at hl
  have hxl : xs.length = 1 := by simpa using hxl
  obtain ⟨v0, rfl⟩ := listOf1 hl
  obtain ⟨y0, rfl⟩ := listOf1 hxl
  have g0 := hf 0 _ rfl
  simp [cellsNs] at g0
  obtain ⟨s, c, p, e, lc, ip, wp, bu⟩ := rd_ns2 g0
  refine ⟨s, c, p, e, lc, ip, fun hw => ?_, by subst hx; simp only [List.map_cons, List.map_nil, Rows.uptoBulk, Rows.uptoBulkAll]; omega⟩
  subst hx
  exact wp (wt_part (j := 0) hw Tryd.underlying33 rfl (by simp))
end
end Go.Proofs.YteahbdhhcfoiiaaDoor
