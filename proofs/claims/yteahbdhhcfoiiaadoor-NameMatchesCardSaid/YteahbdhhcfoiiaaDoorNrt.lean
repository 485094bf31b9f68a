/- name: the reference's matches, Match. -/
import Derived.Test.YteahbdhhcfoiiaaDoorNrr
import Derived.Test.YteahbdhhcfoiiaaDoorNrb
import Derived.Test.YteahbdhhcfoiiaaDoorNmt
import Derived.Test.YteahbdhhcfoiiaaDoorNst
namespace Go.Proofs.YteahbdhhcfoiiaaDoor
set_option linter.unusedVariables false
set_option linter.unusedSimpArgs false
open Go.RowKit W
theorem stand_k {g : Gl} (h : standB g = true) : 1 ≤ g.k ∧ g.k ≤ 5 := by
  unfold standB at h
  split at h
  · omega
  split at h
  · omega
  split at h
  · omega
  split at h
  · omega
  · cases h
theorem node_k {gs : List Gl} (h : nodeMay gs = true) : ∀ g ∈ gs, 1 ≤ g.k ∧ g.k ≤ 5 := by
  intro g hg
  unfold nodeMay at h
  rw [Bool.and_eq_true] at h
  obtain ⟨i, hi, rfl⟩ := List.getElem_of_mem hg
  have := List.all_eq_true.1 h.2 i (List.mem_range.2 hi)
  unfold placeB at this
  rw [List.getElem?_eq_getElem hi] at this
  simp only [Bool.and_eq_true] at this
  exact stand_k this.1
theorem may_k {p : List (List Gl)} (h : mayB p = true) : ∀ gs ∈ p, ∀ g ∈ gs, 1 ≤ g.k ∧ g.k ≤ 5 := by
  intro gs hg
  unfold mayB at h
  rw [Bool.and_eq_true] at h
  exact node_k (List.all_eq_true.1 h.2 gs hg)
theorem may_pos {p : List (List Gl)} (h : mayB p = true) : 1 ≤ p.length := by
  unfold mayB at h
  rw [Bool.and_eq_true, Bool.and_eq_true] at h
  simpa using h.1.1
set_option maxRecDepth 100000 in
set_option maxHeartbeats 8000000 in
theorem rmatches_spec (gs : List Gl) (gl : gs.length ≤ 140737488355328) (gw : ∀ g ∈ gs, GlW g) (gk : ∀ g ∈ gs, 1 ≤ g.k ∧ g.k ≤ 5) (s : ByteArray) (hs : s.size ≤ 200) (a : Option Addr) (c : Nat) (w : World) (ha : IsGs w a gs) :
    Calls Tryd.prog 50 #[.slice a gs.length c, .string s] w fun e w' => e = .returned (.bool (mNode gs s)) ∧ Below w.heap.size w w' := by
  have hmk : ∀ w : World, (Instr.makeSlice 93 (.int .i64 ((s.size : Int) + 1)) (.int .i64 ((s.size : Int) + 1))).run Tryd.prog w = .ok (.slice (some ⟨w.heap.size, 0, none⟩) (s.size + 1) (s.size + 1)) (w.alloc (.cells ((List.replicate (s.size + 1) false).map Value.bool).toArray 4)) := by
    intro w
    have := run_make_row' (P := Tryd.prog) 93 4 (.bool false) 1 Tryd.underlying93 info_bool rfl .i64 .i64 (s.size + 1) (by omega) (by omega) w
    rw [made_bools] at this
    rw [show ((s.size : Int) + 1) = ((s.size + 1 : Nat) : Int) by omega]
    exact this
  have HA := hide ha
  have GW := hide gw
  have GK := hide gk
  obtain ⟨m, hm⟩ : ∃ m, m = gs.length := ⟨_, rfl⟩
  have HM := hide hm
  rw [← hm] at gl ⊢
  clear ha gw gk hm
  go_enter Tryd.func50, Tryd.ntmps50
  go_upto_region 2 with (fail)
  refine abs_wp (fun W => Hid (Below w.heap.size w W) ∧ Hid (Bo W w.heap.size (List.replicate (s.size + 1) false))) ⟨hide ((Below.refl _ _).alloc (Nat.le_refl _) _), by show Bo _ _ _; unfold Bo; rw [bo_rep]; exact heap_alloc_new _ _⟩ ?_
  rintro W1 ⟨B1, O1⟩
  have p0 := O1.out.at 0 (by simp)
  have pf := O1.out.free 0
  have pl := blk_lt O1.out
  have S1 : Hid (Bo (W1.setCell ⟨w.heap.size, 0, none⟩ (.bool true)) w.heap.size (foldR s gs 0)) := by show Bo _ _ _; rw [foldR_zero, ← start_set]; exact O1.out.put 0
  go_wp2_with fail
  go_loopw [5, 6] (fun rv i wr => ∃ k rb : Nat, k ≤ m ∧ i = .int .i64 (k : Int) ∧ rv = .slice (some ⟨rb, 0, none⟩) (s.size + 1) (s.size + 1) ∧ w.heap.size ≤ rb ∧ Hid (Below w.heap.size w wr) ∧ Hid (Bo wr rb (foldR s gs k))) (fun _ i _ => m - (intOf i).toNat)
  case atStart => exact ⟨0, w.heap.size, by omega, rfl, rfl, Nat.le_refl _, hide (B1.out.setCell (by simp) _), S1⟩
  case round =>
    obtain ⟨k, rb, hk, rfl, rfl, hrb, B, O⟩ := hrel
    clear S1 p0 pf pl B1 O1
    by_cases hlt : k < m
    · have kg : k < gs.length := by have := HM.out; omega
      obtain ⟨g, o, rfl, LG⟩ := HA.out.resolve_left (by intro e; rw [e] at kg; simp at kg)
      have L1 := LG.later B.out
      have L1H := hide L1
      have gwk := GW.out gs[k] (List.getElem_mem _)
      have gkk := GK.out gs[k] (List.getElem_mem _)
      obtain ⟨R, hR⟩ : ∃ R, R = foldR s gs k := ⟨_, rfl⟩
      rw [← hR] at O
      have HR := hide hR
      have RL : Hid (R.length = s.size + 1) := by show _ = _; rw [hR, foldR_len s gs k (by omega)]
      have lo := blk_lt O.out
      obtain ⟨wo, rfl⟩ : ∃ wo, wo = wr := ⟨_, rfl⟩
      obtain ⟨x, hx⟩ : ∃ x, x = gs[k] := ⟨_, rfl⟩
      have HX := hide hx
      rw [← hx] at gwk gkk
      have GWK := hide gwk
      have GKK := hide gkk
      clear hR L1 LG hx gwk gkk
      go_wp2_with fail
      go_loopw [8] (fun t w4 => ∃ q : Nat, q ≤ s.size + 1 ∧ t = .int .i64 (q : Int) ∧ Hid (Rr wo w4 wo.heap.size s (partR x s R q))) (fun t _ => s.size + 1 - (intOf t).toNat)
      case atStart => exact ⟨0, by omega, rfl, hide ⟨(Below.refl _ _).alloc (Nat.le_refl _) _, by rw [partR_zero]; unfold Bo; rw [bo_rep]; exact heap_alloc_new _ _, partR_len _ _ _ _, Nat.le_refl _⟩⟩
      case round =>
        obtain ⟨q, hq, rfl, R4⟩ := hrel
        by_cases hlt2 : q < s.size + 1
        · have OB : Bo wr rb R := (R4.out.below.block rb lo).trans O.out
          have r0 := OB.at q (by rw [RL.out]; exact hlt2)
          obtain ⟨tt, htt⟩ : ∃ tt, R.getD q false = tt := ⟨_, rfl⟩
          rw [htt] at r0
          cases tt
          · have T5 : Hid (Rr wo wr wo.heap.size s (partR x s R (q + 1))) := by show Rr _ _ _ _ _; rw [partR_skip _ _ _ _ htt]; exact R4.out
            clear htt OB
            go_wp2_with fail
            go_roundw
            case rel => exact ⟨q + 1, by omega, by go_num, T5⟩
            case measure => simp [intOf]; omega
          · obtain ⟨c0, c1, a5, c5, c2, i5, _⟩ := (L1H.out.later R4.out.below).cell k kg
            obtain ⟨_, _, a6, c6, c7, i6, _⟩ := L1H.out.cell k kg
            have e6 : a6 = a5 ∧ c6 = c5 := by
              have := (R4.out.below.cell (p := ⟨g, o + k * 3 + 2, none⟩) L1H.out.lt).trans c7
              rw [c2] at this
              injection this with this
              injection this with h1 h2 h3
              exact ⟨h1.symm, h3.symm⟩
            obtain ⟨rfl, rfl⟩ := e6
            rw [← HX.out] at c0 c1 c2 i6
            have kh := rreach_spec R4.out x GWK.out a6 c6 i6 hs q (by omega) GKK.out
            rw [← partR_add _ _ _ _ htt] at kh
            unfold gV at kh
            have lg := (L1H.out.later R4.out.below).lt
            clear htt OB i5 i6 c7
            go_wp2_with (go_at_call 70; refine Calls.mono kh ?_; rintro e w5 ⟨rfl, t5⟩; have T5 := hide t5; clear t5)
            go_roundw
            case rel => exact ⟨q + 1, by omega, by go_num, T5⟩
            case measure => simp [intOf]; omega
        · obtain rfl : q = s.size + 1 := by omega
          have FR : Hid (foldR s gs (k + 1) = partR x s R (s.size + 1)) := by show _ = _; rw [partR_all, foldR_step s gs k kg, HR.out, HX.out]
          have BO : Hid (Bo wr wo.heap.size (foldR s gs (k + 1))) := by show Bo _ _ _; rw [FR.out]; exact R4.out.bo
          have BW := hide (B.out.trans (R4.out.below.mono B.out.size))
          have zb := B.out.size
          go_wp2_with fail
          go_roundw
          case rel => exact ⟨k + 1, wo.heap.size, by omega, by go_num, rfl, zb, BW, BO⟩
          case measure => simp [intOf]; omega
    · obtain rfl : k = m := by omega
      have F : Hid ((foldR s gs k).getD s.size false = mNode gs s) := by show _ = _; rw [HM.out]; exact foldR_all s gs
      have r0 := O.out.at s.size (by rw [foldR_len s gs k (by rw [HM.out]; exact Nat.le_refl _)]; omega)
      rw [F.out] at r0
      go_wp2_with fail
      go_returns
      exact ⟨rfl, B.out⟩
end Go.Proofs.YteahbdhhcfoiiaaDoor
