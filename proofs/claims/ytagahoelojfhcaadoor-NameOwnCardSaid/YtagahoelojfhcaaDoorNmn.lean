/- name: trial; matchNode. -/
import Derived.Test.YtagahoelojfhcaaDoorNtr
import Derived.Test.YtagahoelojfhcaaDoorNmc
import Derived.Deep.OwnRows
namespace Go.Proofs.YtagahoelojfhcaaDoor
set_option linter.unusedVariables false
set_option linter.unusedSimpArgs false
open Go.RowKit W
/-- How a piece is tried: the closure, over the piece's box and the node's. -/
def trialV (g : Gl) (gb sb : Nat) : Value :=
  if g.k = 2 then .func (.func 53) #[] #[.pointer (some ⟨sb, 0, none⟩)]
  else if g.k = 3 then .func (.func 54) #[] #[.pointer (some ⟨sb, 0, none⟩)]
  else if g.k = 4 then .func (.func 55) #[] #[.pointer (some ⟨sb, 0, none⟩), .pointer (some ⟨gb, 0, none⟩)]
  else if g.k = 5 then .func (.func 57) #[] #[.pointer (some ⟨gb, 0, none⟩), .pointer (some ⟨sb, 0, none⟩)]
  else .func (.func 59) #[] #[.pointer (some ⟨sb, 0, none⟩), .pointer (some ⟨gb, 0, none⟩)]
def TrialPost (W : World) (g : Gl) (a : Option Addr) (c : Nat) (s : ByteArray) (e : Ending) (w' : World) : Prop :=
  e = .returned (trialV g W.heap.size (W.heap.size + 1)) ∧ Below W.heap.size W w' ∧ w'.cell? ⟨W.heap.size, 1, none⟩ = some (.string g.t) ∧ w'.cell? ⟨W.heap.size, 2, none⟩ = some (.slice a g.al.length c) ∧ w'.cell? ⟨W.heap.size + 1, 0, none⟩ = some (.string s) ∧ W.heap.size + 2 ≤ w'.heap.size
set_option maxRecDepth 100000 in
set_option maxHeartbeats 4000000 in
theorem trial_spec (g : Gl) (a : Option Addr) (c : Nat) (s : ByteArray) (W : World) : Calls Tryd.prog 39 #[.agg #[.int .i64 g.k, .string g.t, .slice a g.al.length c], .string s] W (TrialPost W g a c s) := by
  by_cases k2 : g.k = 2
  · rw [k2]
    go_enter Tryd.func39, Tryd.ntmps39
    go_wp2_with fail
    go_returns
    exact ⟨by rw [trialV, if_pos k2]; rfl, by go_grown, by simp [go_sem], by simp [go_sem], by simp [go_sem], by simp⟩
  by_cases k3 : g.k = 3
  · rw [k3]
    go_enter Tryd.func39, Tryd.ntmps39
    go_wp2_with fail
    go_returns
    exact ⟨by rw [trialV, if_neg k2, if_pos k3]; rfl, by go_grown, by simp [go_sem], by simp [go_sem], by simp [go_sem], by simp⟩
  by_cases k4 : g.k = 4
  · rw [k4]
    go_enter Tryd.func39, Tryd.ntmps39
    go_wp2_with fail
    go_returns
    exact ⟨by rw [trialV, if_neg k2, if_neg k3, if_pos k4]; rfl, by go_grown, by simp [go_sem], by simp [go_sem], by simp [go_sem], by simp⟩
  by_cases k5 : g.k = 5
  · rw [k5]
    go_enter Tryd.func39, Tryd.ntmps39
    go_wp2_with fail
    go_returns
    exact ⟨by rw [trialV, if_neg k2, if_neg k3, if_neg k4, if_pos k5]; rfl, by go_grown, by simp [go_sem], by simp [go_sem], by simp [go_sem], by simp⟩
  · have F : Hid (∀ gb sb, trialV g gb sb = .func (.func 59) #[] #[.pointer (some ⟨sb, 0, none⟩), .pointer (some ⟨gb, 0, none⟩)]) := fun gb sb => by rw [trialV, if_neg k2, if_neg k3, if_neg k4, if_neg k5]
    obtain ⟨k, hk⟩ : ∃ k, k = g.k := ⟨_, rfl⟩
    rw [← hk] at k2 k3 k4 k5 ⊢
    have e2 : (k == 2) = false := by rw [beq_eq_false_iff_ne]; exact k2
    have e3 : (k == 3) = false := by rw [beq_eq_false_iff_ne]; exact k3
    have e4 : (k == 4) = false := by rw [beq_eq_false_iff_ne]; exact k4
    have e5 : (k == 5) = false := by rw [beq_eq_false_iff_ne]; exact k5
    clear k2 k3 k4 k5 hk
    go_enter Tryd.func39, Tryd.ntmps39
    go_wp2_with fail
    go_returns
    exact ⟨by rw [F.out]; rfl, by go_grown, by simp [go_sem], by simp [go_sem], by simp [go_sem], by simp⟩
theorem info_bool : (Tryd.prog.info? 4).map (fun i => (i.zero, i.size, i.bytes)) = some (some (.bool false), 1, 1) := by kernel_rfl
theorem made_bools (n : Nat) : madeCells #[.bool false] n = ((List.replicate n false).map Value.bool).toArray := by
  apply Array.ext_getElem?
  intro j
  simp [madeCells, Nat.mod_one]
  by_cases h : j < n
  · simp [h]
  · simp [h]
/-- The places behind the first k pieces. -/
theorem bo_rep (n : Nat) : ((List.replicate n false).map Value.bool).toArray = Array.replicate n (Value.bool false) := by simp
theorem mid3 (w : World) (a b c : Obj) : (((w.alloc a).alloc b).alloc c).heap[w.heap.size + 1]? = some b :=
  (((Below.refl _ _).alloc (Nat.le_refl _) c : Below ((w.alloc a).alloc b).heap.size _ (((w.alloc a).alloc b).alloc c)).block _ (by simp)).trans (new2 w a b)
def foldR (s : ByteArray) (gs : List Gl) (k : Nat) : List Bool := (gs.take k).foldl (fun R g => stepR g s R) (startR s)
theorem foldR_zero (s : ByteArray) (gs : List Gl) : foldR s gs 0 = startR s := rfl
theorem foldR_step (s : ByteArray) (gs : List Gl) (k : Nat) (h : k < gs.length) : foldR s gs (k + 1) = stepR gs[k] s (foldR s gs k) := by
  unfold foldR
  rw [List.take_succ_eq_append_getElem h, List.foldl_append]; rfl
theorem foldR_len (s : ByteArray) (gs : List Gl) (k : Nat) (h : k ≤ gs.length) : (foldR s gs k).length = s.size + 1 := by
  cases k with
  | zero => rw [foldR_zero, startR_len]
  | succ k => rw [foldR_step s gs k h, stepR_len]
theorem foldR_all (s : ByteArray) (gs : List Gl) : (foldR s gs gs.length).getD s.size false = mNode gs s := by unfold foldR mNode; rw [List.take_length]
theorem start_set (s : ByteArray) : (List.replicate (s.size + 1) false).set 0 true = startR s := by unfold startR; rw [List.replicate_succ]; rfl
set_option maxRecDepth 100000 in
set_option maxHeartbeats 8000000 in
theorem mnode_spec (gs : List Gl) (gl : gs.length ≤ 140737488355328) (gw : ∀ g ∈ gs, GlW g) (s : ByteArray) (hs : s.size ≤ 200) (a : Option Addr) (c : Nat) (w : World) (ha : IsGs w a gs) :
    Calls Tryd.prog 26 #[.slice a gs.length c, .string s] w fun e w' => e = .returned (.bool (mNode gs s)) ∧ Below w.heap.size w w' := by
  have hmk : ∀ w : World, (Instr.makeSlice 66 (.int .i64 ((s.size : Int) + 1)) (.int .i64 ((s.size : Int) + 1))).run Tryd.prog w = .ok (.slice (some ⟨w.heap.size, 0, none⟩) (s.size + 1) (s.size + 1)) (w.alloc (.cells ((List.replicate (s.size + 1) false).map Value.bool).toArray 4)) := by
    intro w
    have := run_make_row' (P := Tryd.prog) 66 4 (.bool false) 1 Tryd.underlying66 info_bool rfl .i64 .i64 (s.size + 1) (by omega) (by omega) w
    rw [made_bools] at this
    rw [show ((s.size : Int) + 1) = ((s.size + 1 : Nat) : Int) by omega]
    exact this
  have HA := hide ha
  have GW := hide gw
  obtain ⟨m, hm⟩ : ∃ m, m = gs.length := ⟨_, rfl⟩
  have HM := hide hm
  rw [← hm] at gl ⊢
  clear ha gw hm
  go_enter Tryd.func26, Tryd.ntmps26
  go_upto_region 2 with (fail)
  refine abs_wp (fun W => Hid (Below w.heap.size w W) ∧ Hid (Bo W w.heap.size (List.replicate (s.size + 1) false))) ⟨hide ((Below.refl _ _).alloc (Nat.le_refl _) _), by show Bo _ _ _; unfold Bo; rw [bo_rep]; exact heap_alloc_new _ _⟩ ?_
  rintro W1 ⟨B1, O1⟩
  have p0 := O1.out.at 0 (by simp)
  have pf := O1.out.free 0
  have pl := blk_lt O1.out
  have S1 : Hid (Bo (W1.setCell ⟨w.heap.size, 0, none⟩ (.bool true)) w.heap.size (foldR s gs 0)) := by show Bo _ _ _; rw [foldR_zero, ← start_set]; exact O1.out.put 0
  go_wp2_with fail
  go_loopw [5, 20] (fun rv i wr => ∃ k rb : Nat, k ≤ m ∧ i = .int .i64 (k : Int) ∧ rv = .slice (some ⟨rb, 0, none⟩) (s.size + 1) (s.size + 1) ∧ w.heap.size ≤ rb ∧ Hid (Below w.heap.size w wr) ∧ Hid (Bo wr rb (foldR s gs k))) (fun _ i _ => m - (intOf i).toNat)
  case atStart => exact ⟨0, w.heap.size, by omega, rfl, rfl, Nat.le_refl _, hide (B1.out.setCell (by simp) _), S1⟩
  case round =>
    obtain ⟨k, rb, hk, rfl, rfl, hrb, B, O⟩ := hrel
    clear S1 p0 pf pl B1 O1
    by_cases hlt : k < m
    · have kg : k < gs.length := by have := HM.out; omega
      obtain ⟨g, o, rfl, LG⟩ := HA.out.resolve_left (by intro e; rw [e] at kg; simp at kg)
      have L1 := LG.later B.out
      obtain ⟨c0, c1, a5, c5, c2, _, _⟩ := L1.cell k kg
      obtain ⟨_, _, a6, c6, c7, i6, _⟩ := LG.cell k kg
      have e6 : a6 = a5 ∧ c6 = c5 := by
        have := (B.out.cell (p := ⟨g, o + k * 3 + 2, none⟩) LG.lt).trans c7
        rw [c2] at this
        injection this with this
        injection this with h1 h2 h3
        exact ⟨h1.symm, h3.symm⟩
      obtain ⟨rfl, rfl⟩ := e6
      have gwk := GW.out gs[k] (List.getElem_mem _)
      obtain ⟨x, hx⟩ : ∃ x, x = gs[k] := ⟨_, rfl⟩
      rw [← hx] at c0 c1 c2 i6 gwk
      have HX := hide hx
      have IT := hide i6
      have AN := gwk.n
      obtain ⟨R, hR⟩ : ∃ R, R = foldR s gs k := ⟨_, rfl⟩
      rw [← hR] at O
      have HR := hide hR
      have RL : Hid (R.length = s.size + 1) := by show _ = _; rw [hR, foldR_len s gs k (by omega)]
      have lo := blk_lt O.out
      obtain ⟨wo, rfl⟩ : ∃ wo, wo = wr := ⟨_, rfl⟩
      have kt := fun W => trial_spec x a6 c6 s W
      have sz := B.out.size
      clear hx i6 gwk hR c7 L1 LG
      go_wp2_with fail
      refine abs_calls (fun W => Hid (Below wo.heap.size wo W) ∧ Hid (W.cell? ⟨wo.heap.size + 2, 0, none⟩ = some (.slice (some ⟨wo.heap.size + 1, 0, none⟩) (s.size + 1) (s.size + 1))) ∧ Hid (Bo W (wo.heap.size + 1) (List.replicate (s.size + 1) false)) ∧ wo.heap.size + 3 ≤ W.heap.size) ⟨?_, ?_, ?_, ?_⟩ ?_
      · show Below _ _ _; go_grown
      · show _ = _; simp [go_sem]
      · show Bo _ _ _; unfold Bo; rw [bo_rep]; exact mid3 _ _ _ _
      · simp
      rintro W3 ⟨B3, N3, O3, Z3⟩
      refine Calls.mono (kt W3) ?_
      rintro e w2 ⟨he, b2, t1, t2, t3, t4⟩
      have T2 : Hid (Tr w w2 W3.heap.size (W3.heap.size + 1) (wo.heap.size + 2) (wo.heap.size + 1) x a6 c6 s (partR x s R 0)) := by
        rw [partR_zero]
        exact ⟨(B.out.trans (B3.out.mono sz)).trans (b2.mono (by omega)), IT.out, t1, t2, t3, (b2.cell (p := ⟨wo.heap.size + 2, 0, none⟩) (by simp only; omega)).trans N3.out, (b2.block _ (by omega)).trans O3.out, by simp, by omega, by omega, by omega, by omega⟩
      have RB2 : Hid (Bo w2 rb R) := by
        show Bo _ _ _
        exact ((b2.block rb (by omega)).trans (B3.out.block rb lo)).trans O.out
      clear b2 t1 t2 t3 kt c0 c1 c2 O O3 N3
      by_cases k2 : x.k = 2
      · rw [trialV, if_pos k2] at he
        subst he
        go_wp2_with fail
        go_loopw [33] (fun t w4 => ∃ q : Nat, q ≤ s.size + 1 ∧ t = .int .i64 (q : Int) ∧ Hid (Tr w w4 W3.heap.size (W3.heap.size + 1) (wo.heap.size + 2) (wo.heap.size + 1) x a6 c6 s (partR x s R q)) ∧ Hid (Upd (wo.heap.size + 1) [4] w2 w4)) (fun t _ => s.size + 1 - (intOf t).toNat)
        case atStart => exact ⟨0, by omega, rfl, T2, hide (Upd.refl _ _ _)⟩
        case round =>
          obtain ⟨q, hq, rfl, T4, U4⟩ := hrel
          by_cases hlt2 : q < s.size + 1
          · have b4 := RB2.out.upd U4.out (.inl (by omega))
            have r0 := b4.at q (by rw [RL.out]; exact hlt2)
            obtain ⟨tt, htt⟩ : ∃ tt, R.getD q false = tt := ⟨_, rfl⟩
            rw [htt] at r0
            cases tt
            · have T5 : Hid (Tr w wr W3.heap.size (W3.heap.size + 1) (wo.heap.size + 2) (wo.heap.size + 1) x a6 c6 s (partR x s R (q + 1))) := by show Tr _ _ _ _ _ _ _ _ _ _ _; rw [partR_skip _ _ _ _ htt]; exact T4.out
              clear htt b4
              go_wp2_with fail
              go_roundw
              case rel => exact ⟨q + 1, by omega, by go_num, T5, U4⟩
              case measure => simp [intOf]; omega
            · have kh := any_spec T4.out q hlt2 hs k2
              rw [← partR_add _ _ _ _ htt] at kh
              unfold handV at kh
              clear htt b4
              go_wp2_with (go_at_call 53; refine Calls.mono kh ?_; rintro e w5 ⟨rfl, t5, u5⟩; have T5 := hide t5; have U5 := hide u5; clear t5 u5)
              go_roundw
              case rel => exact ⟨q + 1, by omega, by go_num, T5, hide (U4.out.trans U5.out)⟩
              case measure => simp [intOf]; omega
          · obtain rfl : q = s.size + 1 := by omega
            have nc := T4.out.nc
            have FR : Hid (foldR s gs (k + 1) = partR x s R (s.size + 1)) := by show _ = _; rw [partR_all, foldR_step s gs k kg, HR.out, HX.out]
            have BO : Hid (Bo wr (wo.heap.size + 1) (foldR s gs (k + 1))) := by show Bo _ _ _; rw [FR.out]; exact T4.out.bo
            have BW := hide T4.out.below
            go_wp2_with fail
            go_roundw
            case rel => exact ⟨k + 1, wo.heap.size + 1, by omega, by go_num, rfl, by omega, BW, BO⟩
            case measure => simp [intOf]; omega
      by_cases k3 : x.k = 3
      · rw [trialV, if_neg k2, if_pos k3] at he
        subst he
        go_wp2_with fail
        go_loopw [33] (fun t w4 => ∃ q : Nat, q ≤ s.size + 1 ∧ t = .int .i64 (q : Int) ∧ Hid (Tr w w4 W3.heap.size (W3.heap.size + 1) (wo.heap.size + 2) (wo.heap.size + 1) x a6 c6 s (partR x s R q)) ∧ Hid (Upd (wo.heap.size + 1) [4] w2 w4)) (fun t _ => s.size + 1 - (intOf t).toNat)
        case atStart => exact ⟨0, by omega, rfl, T2, hide (Upd.refl _ _ _)⟩
        case round =>
          obtain ⟨q, hq, rfl, T4, U4⟩ := hrel
          by_cases hlt2 : q < s.size + 1
          · have b4 := RB2.out.upd U4.out (.inl (by omega))
            have r0 := b4.at q (by rw [RL.out]; exact hlt2)
            obtain ⟨tt, htt⟩ : ∃ tt, R.getD q false = tt := ⟨_, rfl⟩
            rw [htt] at r0
            cases tt
            · have T5 : Hid (Tr w wr W3.heap.size (W3.heap.size + 1) (wo.heap.size + 2) (wo.heap.size + 1) x a6 c6 s (partR x s R (q + 1))) := by show Tr _ _ _ _ _ _ _ _ _ _ _; rw [partR_skip _ _ _ _ htt]; exact T4.out
              clear htt b4
              go_wp2_with fail
              go_roundw
              case rel => exact ⟨q + 1, by omega, by go_num, T5, U4⟩
              case measure => simp [intOf]; omega
            · have kh := one_spec T4.out q hlt2 hs k3
              rw [← partR_add _ _ _ _ htt] at kh
              unfold handV at kh
              clear htt b4
              go_wp2_with (go_at_call 54; refine Calls.mono kh ?_; rintro e w5 ⟨rfl, t5, u5⟩; have T5 := hide t5; have U5 := hide u5; clear t5 u5)
              go_roundw
              case rel => exact ⟨q + 1, by omega, by go_num, T5, hide (U4.out.trans U5.out)⟩
              case measure => simp [intOf]; omega
          · obtain rfl : q = s.size + 1 := by omega
            have nc := T4.out.nc
            have FR : Hid (foldR s gs (k + 1) = partR x s R (s.size + 1)) := by show _ = _; rw [partR_all, foldR_step s gs k kg, HR.out, HX.out]
            have BO : Hid (Bo wr (wo.heap.size + 1) (foldR s gs (k + 1))) := by show Bo _ _ _; rw [FR.out]; exact T4.out.bo
            have BW := hide T4.out.below
            go_wp2_with fail
            go_roundw
            case rel => exact ⟨k + 1, wo.heap.size + 1, by omega, by go_num, rfl, by omega, BW, BO⟩
            case measure => simp [intOf]; omega
      by_cases k4 : x.k = 4
      · rw [trialV, if_neg k2, if_neg k3, if_pos k4] at he
        subst he
        go_wp2_with fail
        go_loopw [33] (fun t w4 => ∃ q : Nat, q ≤ s.size + 1 ∧ t = .int .i64 (q : Int) ∧ Hid (Tr w w4 W3.heap.size (W3.heap.size + 1) (wo.heap.size + 2) (wo.heap.size + 1) x a6 c6 s (partR x s R q)) ∧ Hid (Upd (wo.heap.size + 1) [4] w2 w4)) (fun t _ => s.size + 1 - (intOf t).toNat)
        case atStart => exact ⟨0, by omega, rfl, T2, hide (Upd.refl _ _ _)⟩
        case round =>
          obtain ⟨q, hq, rfl, T4, U4⟩ := hrel
          by_cases hlt2 : q < s.size + 1
          · have b4 := RB2.out.upd U4.out (.inl (by omega))
            have r0 := b4.at q (by rw [RL.out]; exact hlt2)
            obtain ⟨tt, htt⟩ : ∃ tt, R.getD q false = tt := ⟨_, rfl⟩
            rw [htt] at r0
            cases tt
            · have T5 : Hid (Tr w wr W3.heap.size (W3.heap.size + 1) (wo.heap.size + 2) (wo.heap.size + 1) x a6 c6 s (partR x s R (q + 1))) := by show Tr _ _ _ _ _ _ _ _ _ _ _; rw [partR_skip _ _ _ _ htt]; exact T4.out
              clear htt b4
              go_wp2_with fail
              go_roundw
              case rel => exact ⟨q + 1, by omega, by go_num, T5, U4⟩
              case measure => simp [intOf]; omega
            · have kh := cls_spec T4.out q hlt2 hs k4
              rw [← partR_add _ _ _ _ htt] at kh
              unfold handV at kh
              clear htt b4
              go_wp2_with (go_at_call 55; refine Calls.mono kh ?_; rintro e w5 ⟨rfl, t5, u5⟩; have T5 := hide t5; have U5 := hide u5; clear t5 u5)
              go_roundw
              case rel => exact ⟨q + 1, by omega, by go_num, T5, hide (U4.out.trans U5.out)⟩
              case measure => simp [intOf]; omega
          · obtain rfl : q = s.size + 1 := by omega
            have nc := T4.out.nc
            have FR : Hid (foldR s gs (k + 1) = partR x s R (s.size + 1)) := by show _ = _; rw [partR_all, foldR_step s gs k kg, HR.out, HX.out]
            have BO : Hid (Bo wr (wo.heap.size + 1) (foldR s gs (k + 1))) := by show Bo _ _ _; rw [FR.out]; exact T4.out.bo
            have BW := hide T4.out.below
            go_wp2_with fail
            go_roundw
            case rel => exact ⟨k + 1, wo.heap.size + 1, by omega, by go_num, rfl, by omega, BW, BO⟩
            case measure => simp [intOf]; omega
      by_cases k5 : x.k = 5
      · rw [trialV, if_neg k2, if_neg k3, if_neg k4, if_pos k5] at he
        subst he
        go_wp2_with fail
        go_loopw [33] (fun t w4 => ∃ q : Nat, q ≤ s.size + 1 ∧ t = .int .i64 (q : Int) ∧ Hid (Tr w w4 W3.heap.size (W3.heap.size + 1) (wo.heap.size + 2) (wo.heap.size + 1) x a6 c6 s (partR x s R q)) ∧ Hid (Upd (wo.heap.size + 1) [4] w2 w4)) (fun t _ => s.size + 1 - (intOf t).toNat)
        case atStart => exact ⟨0, by omega, rfl, T2, hide (Upd.refl _ _ _)⟩
        case round =>
          obtain ⟨q, hq, rfl, T4, U4⟩ := hrel
          by_cases hlt2 : q < s.size + 1
          · have b4 := RB2.out.upd U4.out (.inl (by omega))
            have r0 := b4.at q (by rw [RL.out]; exact hlt2)
            obtain ⟨tt, htt⟩ : ∃ tt, R.getD q false = tt := ⟨_, rfl⟩
            rw [htt] at r0
            cases tt
            · have T5 : Hid (Tr w wr W3.heap.size (W3.heap.size + 1) (wo.heap.size + 2) (wo.heap.size + 1) x a6 c6 s (partR x s R (q + 1))) := by show Tr _ _ _ _ _ _ _ _ _ _ _; rw [partR_skip _ _ _ _ htt]; exact T4.out
              clear htt b4
              go_wp2_with fail
              go_roundw
              case rel => exact ⟨q + 1, by omega, by go_num, T5, U4⟩
              case measure => simp [intOf]; omega
            · have kh := alt_spec T4.out q hlt2 hs k5 AN
              rw [← partR_add _ _ _ _ htt] at kh
              unfold handV at kh
              clear htt b4
              go_wp2_with (go_at_call 57; refine Calls.mono kh ?_; rintro e w5 ⟨rfl, t5, u5⟩; have T5 := hide t5; have U5 := hide u5; clear t5 u5)
              go_roundw
              case rel => exact ⟨q + 1, by omega, by go_num, T5, hide (U4.out.trans U5.out)⟩
              case measure => simp [intOf]; omega
          · obtain rfl : q = s.size + 1 := by omega
            have nc := T4.out.nc
            have FR : Hid (foldR s gs (k + 1) = partR x s R (s.size + 1)) := by show _ = _; rw [partR_all, foldR_step s gs k kg, HR.out, HX.out]
            have BO : Hid (Bo wr (wo.heap.size + 1) (foldR s gs (k + 1))) := by show Bo _ _ _; rw [FR.out]; exact T4.out.bo
            have BW := hide T4.out.below
            go_wp2_with fail
            go_roundw
            case rel => exact ⟨k + 1, wo.heap.size + 1, by omega, by go_num, rfl, by omega, BW, BO⟩
            case measure => simp [intOf]; omega
      · rw [trialV, if_neg k2, if_neg k3, if_neg k4, if_neg k5] at he
        subst he
        go_wp2_with fail
        go_loopw [33] (fun t w4 => ∃ q : Nat, q ≤ s.size + 1 ∧ t = .int .i64 (q : Int) ∧ Hid (Tr w w4 W3.heap.size (W3.heap.size + 1) (wo.heap.size + 2) (wo.heap.size + 1) x a6 c6 s (partR x s R q)) ∧ Hid (Upd (wo.heap.size + 1) [4] w2 w4)) (fun t _ => s.size + 1 - (intOf t).toNat)
        case atStart => exact ⟨0, by omega, rfl, T2, hide (Upd.refl _ _ _)⟩
        case round =>
          obtain ⟨q, hq, rfl, T4, U4⟩ := hrel
          by_cases hlt2 : q < s.size + 1
          · have b4 := RB2.out.upd U4.out (.inl (by omega))
            have r0 := b4.at q (by rw [RL.out]; exact hlt2)
            obtain ⟨tt, htt⟩ : ∃ tt, R.getD q false = tt := ⟨_, rfl⟩
            rw [htt] at r0
            cases tt
            · have T5 : Hid (Tr w wr W3.heap.size (W3.heap.size + 1) (wo.heap.size + 2) (wo.heap.size + 1) x a6 c6 s (partR x s R (q + 1))) := by show Tr _ _ _ _ _ _ _ _ _ _ _; rw [partR_skip _ _ _ _ htt]; exact T4.out
              clear htt b4
              go_wp2_with fail
              go_roundw
              case rel => exact ⟨q + 1, by omega, by go_num, T5, U4⟩
              case measure => simp [intOf]; omega
            · have kh := txt_spec T4.out q hlt2 hs k2 k3 k4 k5
              rw [← partR_add _ _ _ _ htt] at kh
              unfold handV at kh
              clear htt b4
              go_wp2_with (go_at_call 59; refine Calls.mono kh ?_; rintro e w5 ⟨rfl, t5, u5⟩; have T5 := hide t5; have U5 := hide u5; clear t5 u5)
              go_roundw
              case rel => exact ⟨q + 1, by omega, by go_num, T5, hide (U4.out.trans U5.out)⟩
              case measure => simp [intOf]; omega
          · obtain rfl : q = s.size + 1 := by omega
            have nc := T4.out.nc
            have FR : Hid (foldR s gs (k + 1) = partR x s R (s.size + 1)) := by show _ = _; rw [partR_all, foldR_step s gs k kg, HR.out, HX.out]
            have BO : Hid (Bo wr (wo.heap.size + 1) (foldR s gs (k + 1))) := by show Bo _ _ _; rw [FR.out]; exact T4.out.bo
            have BW := hide T4.out.below
            go_wp2_with fail
            go_roundw
            case rel => exact ⟨k + 1, wo.heap.size + 1, by omega, by go_num, rfl, by omega, BW, BO⟩
            case measure => simp [intOf]; omega
    · obtain rfl : k = m := by omega
      have F : Hid ((foldR s gs k).getD s.size false = mNode gs s) := by show _ = _; rw [HM.out]; exact foldR_all s gs
      have r0 := O.out.at s.size (by rw [foldR_len s gs k (by rw [HM.out]; exact Nat.le_refl _)]; omega)
      rw [F.out] at r0
      go_wp2_with fail
      go_returns
      exact ⟨rfl, B.out⟩
end Go.Proofs.YtagahoelojfhcaaDoor
