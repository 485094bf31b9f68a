/- name: the reference's classByte, globMay. -/
import Derived.Test.YteahbdhhcfoiiaaDoorNmb
import Derived.Test.YteahbdhhcfoiiaaDoorRvalid
namespace Go.Proofs.YteahbdhhcfoiiaaDoor
set_option linter.unusedVariables false
set_option linter.unusedSimpArgs false
open Go.RowKit W
theorem cls_sort (x : Int) : clsI x = (decide (0 < sortI x) || decide (x = 95)) := by
  unfold clsI famI sortI
  rw [Bool.eq_iff_iff]
  simp only [Bool.or_eq_true, decide_eq_true_eq]
  (repeat' split) <;> omega
set_option maxRecDepth 100000 in
set_option maxHeartbeats 4000000 in
theorem rclb_spec (x : Int) (h0 : 0 ≤ x) (h1 : x < 256) (w : World) : CalcN 87 #[.int .u8 x] w (.bool (clsI x)) := by
  have k := fun w' => rsort_spec x h0 h1 w'
  rw [cls_sort]
  obtain ⟨f, hf⟩ : ∃ f, f = sortI x := ⟨_, rfl⟩
  rw [← hf] at k ⊢
  clear hf
  go_enter Tryd.func87, Tryd.ntmps87
  go_wp2_with (go_at_call 59; refine (k _).mono ?_; rintro e w1 ⟨rfl, rfl⟩)
  all_goals
    go_returns
    refine ⟨ret_bool ?_, rfl⟩
    clear k
    first | (simp_all; done) | rfl | (rw [Bool.eq_iff_iff]; simp; omega)
theorem rclb_at (s : ByteArray) (j : Nat) (t : Bool) (ht : cB (nx s j) = t) (w : World) : CalcN 87 #[.int .u8 (nx s j).toNat] w (.bool t) := by
  have := rclb_spec ((nx s j).toNat : Int) (nx_int s j).1 (nx_int s j).2 w
  rw [← ht]; exact this
set_option maxRecDepth 100000 in
set_option maxHeartbeats 8000000 in
theorem rglob_spec (g : Gl) (gw : GlW g) (a : Option Addr) (c : Nat) (w : World) (ha : IsTxts w a g.al) :
    Calls Tryd.prog 66 #[gV g a c] w fun e w' => e = .returned (.bool (standB g)) ∧ Below w.heap.size w w' := by
  unfold gV
  obtain ⟨k, t, al⟩ := g
  obtain ⟨g1, g2, g3⟩ := gw
  simp only at g1 g2 g3 ha ⊢
  obtain ⟨E, hE⟩ : ∃ E, standB ⟨k, t, al⟩ = E := ⟨_, rfl⟩
  rw [hE]
  have HE := hide hE
  have HA := hide ha
  have HZ := hide g3
  have kb := fun w' => rbytes_spec t g1 w'
  obtain ⟨n, hn⟩ : ∃ n, n = al.length := ⟨_, rfl⟩
  have HN := hide hn
  rw [← hn] at g2 ⊢
  clear hE ha g3 hn
  by_cases k1 : k = 1
  · have H1 : Hid (E = (decide (t.size ≠ 0) && bytesB t && decide (n = 0))) := by have := HE.out; rw [← this, HN.out]; simp only [standB]; rw [if_pos k1]; exact hide rfl
    subst k1
    by_cases z : t.size = 0
    · have F : Hid (E = false) := by show _ = _; rw [H1.out]; simp [z]
      obtain rfl := str_nil z
      go_enter Tryd.func66, Tryd.ntmps66
      go_wp2_with (go_at_call 34; refine (kb _).mono ?_; rintro e w1 ⟨rfl, rfl⟩)
      go_returns
      exact ⟨by rw [F.out]; rfl, by go_grown⟩
    · obtain ⟨z1, z2⟩ := str_ne z
      obtain ⟨b, hb⟩ : ∃ b, (lst t).all nB = b := ⟨_, rfl⟩
      rw [hb] at kb
      cases b
      · have F : Hid (E = false) := by show _ = _; rw [H1.out]; unfold bytesB; simp [hb]
        clear hb z
        go_enter Tryd.func66, Tryd.ntmps66
        go_wp2_with (go_at_call 34; refine (kb _).mono ?_; rintro e w1 ⟨rfl, rfl⟩)
        go_returns
        exact ⟨by rw [F.out]; rfl, by go_grown⟩
      · by_cases nz : n = 0
        · have nz1 : ((n : Int) == 0) = true := by rw [nz]; rfl
          have F : Hid (E = true) := by show _ = _; rw [H1.out]; unfold bytesB; simp [z, hb, nz]
          clear hb z
          go_enter Tryd.func66, Tryd.ntmps66
          go_wp2_with (go_at_call 34; refine (kb _).mono ?_; rintro e w1 ⟨rfl, rfl⟩)
          go_returns
          exact ⟨by rw [F.out]; rfl, by go_grown⟩
        · have nz1 : ((n : Int) == 0) = false := by rw [beq_eq_false_iff_ne]; omega
          have F : Hid (E = false) := by show _ = _; rw [H1.out]; simp [z, nz]
          clear hb z
          go_enter Tryd.func66, Tryd.ntmps66
          go_wp2_with (go_at_call 34; refine (kb _).mono ?_; rintro e w1 ⟨rfl, rfl⟩)
          go_returns
          exact ⟨by rw [F.out]; rfl, by go_grown⟩
  have k1b : (k == 1) = false := by rw [beq_eq_false_iff_ne]; exact k1
  by_cases k2 : k = 2 ∨ k = 3
  · have H1 : Hid (E = (decide (t.size = 0) && decide (n = 0))) := by have := HE.out; rw [← this, HN.out]; simp only [standB]; rw [if_neg k1, if_pos k2]; exact hide rfl
    by_cases z : t.size = 0
    · by_cases nz : n = 0
      · have nz1 : ((n : Int) == 0) = true := by rw [nz]; rfl
        have F : Hid (E = true) := by show _ = _; rw [H1.out]; simp [z, nz]
        obtain rfl := str_nil z
        clear z k1 k1b
        rcases k2 with rfl | rfl
        all_goals
          go_enter Tryd.func66, Tryd.ntmps66
          go_wp2_with (go_at_call 34; refine (kb _).mono ?_; rintro e w1 ⟨rfl, rfl⟩)
          go_returns
          exact ⟨by rw [F.out]; rfl, by go_grown⟩
      · have nz1 : ((n : Int) == 0) = false := by rw [beq_eq_false_iff_ne]; omega
        have F : Hid (E = false) := by show _ = _; rw [H1.out]; simp [nz]
        obtain rfl := str_nil z
        clear z k1 k1b
        rcases k2 with rfl | rfl
        all_goals
          go_enter Tryd.func66, Tryd.ntmps66
          go_wp2_with (go_at_call 34; refine (kb _).mono ?_; rintro e w1 ⟨rfl, rfl⟩)
          go_returns
          exact ⟨by rw [F.out]; rfl, by go_grown⟩
    · have F : Hid (E = false) := by show _ = _; rw [H1.out]; simp [z]
      obtain ⟨z1, z2⟩ := str_ne z
      clear z k1 k1b
      rcases k2 with rfl | rfl
      all_goals
        go_enter Tryd.func66, Tryd.ntmps66
        go_wp2_with (go_at_call 34; refine (kb _).mono ?_; rintro e w1 ⟨rfl, rfl⟩)
        go_returns
        exact ⟨by rw [F.out]; rfl, by go_grown⟩
  have k2b : (k == 2) = false := by rw [beq_eq_false_iff_ne]; exact fun h => k2 (.inl h)
  have k3b : (k == 3) = false := by rw [beq_eq_false_iff_ne]; exact fun h => k2 (.inr h)
  by_cases k4 : k = 4
  · have H1 : Hid (E = (riseB t && decide (n = 0))) := by have := HE.out; rw [← this, HN.out]; simp only [standB]; rw [if_neg k1, if_neg k2, if_pos k4]; exact hide rfl
    subst k4
    clear k1 k2 k1b k2b k3b
    go_enter Tryd.func66, Tryd.ntmps66
    go_wp2_with fail
    go_loopw [3] (fun i wr => ∃ j : Nat, j ≤ t.size ∧ i = .int .i64 (j : Int) ∧ Hid (Below w.heap.size w wr) ∧ Hid (wr.cell? ⟨w.heap.size, 1, none⟩ = some (.string t)) ∧ Hid (wr.cell? ⟨w.heap.size, 2, none⟩ = some (.slice a n c)) ∧ Hid (∀ q, q < j → riseA t q = true)) (fun i _ => t.size - (intOf i).toNat)
    case atStart => exact ⟨0, by omega, rfl, hide (by go_grown), hide (by simp [go_sem]), hide (by simp [go_sem]), hide (fun j h => absurd h (Nat.not_lt_zero _))⟩
    case round =>
      obtain ⟨j, hj, rfl, B, C1, C2, D⟩ := hrel
      have c1 := C1.out
      have c2 := C2.out
      clear kb
      by_cases hlt : j < t.size
      · have nk : (nx t j).toNat = t[j].toNat := by rw [nx_lt hlt]
        obtain ⟨b, hb⟩ : ∃ b, cB (nx t j) = b := ⟨_, rfl⟩
        have kc := fun w => rclb_at t j b hb w
        rw [nk] at kc
        have HT := hide hb
        have NK := hide nk
        clear hb nk
        cases b
        · have F : Hid (E = false) := by
            show _ = _; rw [H1.out]; unfold riseB; rw [all_no (f := riseA t) hlt (by unfold riseA; rw [HT.out]; rfl)]; rfl
          by_cases z : j = 0
          · subst z
            have z0 : decide ((0 : Int) < ((0 : Nat) : Int)) = false := by decide
            go_wp2_with fail
            go_quiet ((go_at_call 87; exact quiet_calc (kc _)))
            go_wp2_with fail
            go_returns
            exact ⟨by rw [F.out]; rfl, below_drewN B.out _⟩
          · go_wp2_with fail
            go_quiet ((go_at_call 87; exact quiet_calc (kc _)))
            go_wp2_with fail
            go_returns
            exact ⟨by rw [F.out]; rfl, below_drewN B.out _⟩
        · by_cases z : j = 0
          · subst z
            have z0 : decide ((0 : Int) < ((0 : Nat) : Int)) = false := by decide
            have D2 : Hid (∀ q, q < 0 + 1 → riseA t q = true) := by
              intro q hq
              obtain rfl : q = 0 := by omega
              unfold riseA; rw [HT.out]; rfl
            go_wp2_with fail
            go_quiet ((go_at_call 87; exact quiet_calc (kc _)))
            go_wp2_with fail
            go_roundw
            case rel => exact ⟨0 + 1, by omega, by go_num, hide (below_drewN B.out _), C1, C2, D2⟩
            case measure => simp [intOf]; omega
          · obtain ⟨q, rfl⟩ : ∃ q, j = q + 1 := ⟨j - 1, by omega⟩
            have q1 : (nx t q).toNat = t[q].toNat := by rw [nx_lt (by omega)]
            have e1 : IntKind.i64.wrap ((q : Int) + 1 - 1) = (q : Int) := by rw [IntKind.wrap_i64]; omega
            have e2 : decide ((0 : Int) < (q : Int) + 1) = true := by rw [decide_eq_true_eq]; omega
            have e3 : ((q : Int) + 1).toNat = q + 1 := by omega
            have e4 : (0 : Int) ≤ (q : Int) + 1 := by omega
            have lq : q < t.size := by omega
            by_cases y : t[q].toNat < t[q + 1].toNat
            · have y1 : decide (t[q + 1].toNat ≤ t[q].toNat) = false := by simp; omega
              have y2 : ¬ t[q + 1].toNat ≤ t[q].toNat := by omega
              have D2 : Hid (∀ j, j < q + 1 + 1 → riseA t j = true) := by
                intro j hj
                by_cases w : j < q + 1
                · exact D.out j w
                · obtain rfl : j = q + 1 := by omega
                  unfold riseA; rw [HT.out, NK.out, Nat.add_sub_cancel, q1]; simp [y]
              have q1 := hide q1
              clear z y
              go_wp2_with fail
              go_quiet ((go_at_call 87; exact quiet_calc (kc _)))
              go_wp2_with fail
              clear e1 e2 e3 e4
              go_roundw
              case rel => exact ⟨q + 1 + 1, by omega, by go_num, hide (below_drewN B.out _), C1, C2, D2⟩
              case measure => simp [intOf]; omega
            · have y1 : decide (t[q + 1].toNat ≤ t[q].toNat) = true := by simp; omega
              have y2 : t[q + 1].toNat ≤ t[q].toNat := by omega
              have F : Hid (E = false) := by
                show _ = _; rw [H1.out]; unfold riseB; rw [all_no (f := riseA t) hlt (by unfold riseA; rw [HT.out, NK.out, Nat.add_sub_cancel, q1]; simp; omega)]; rfl
              have q1 := hide q1
              clear z y
              go_wp2_with fail
              go_quiet ((go_at_call 87; exact quiet_calc (kc _)))
              go_wp2_with fail
              go_returns
              exact ⟨by rw [F.out]; rfl, below_drewN B.out _⟩
      · obtain rfl : j = t.size := by omega
        have AL : Hid ((List.range t.size).all (riseA t) = true) := all_yes D.out
        by_cases z : t.size = 0
        · have F : Hid (E = false) := by show _ = _; rw [H1.out]; unfold riseB; rw [z]; simp
          obtain rfl := str_nil z
          clear z
          go_wp2_with fail
          go_returns
          exact ⟨by rw [F.out]; rfl, B.out⟩
        · have F : Hid (E = decide (n = 0)) := by show _ = _; rw [H1.out]; unfold riseB; rw [AL.out]; simp [z]
          obtain ⟨z1, z2⟩ := str_ne z
          clear z
          by_cases nz : n = 0
          · subst nz
            go_wp2_with fail
            go_returns
            exact ⟨by rw [F.out]; rfl, B.out⟩
          · have nz1 : ((n : Int) == 0) = false := by rw [beq_eq_false_iff_ne]; omega
            go_wp2_with fail
            go_returns
            exact ⟨by rw [F.out]; simp [nz], B.out⟩
  have k4b : (k == 4) = false := by rw [beq_eq_false_iff_ne]; exact k4
  by_cases k5 : k = 5
  · have H1 : Hid (E = (decide (t.size = 0) && chooseB al)) := by have := HE.out; rw [← this]; simp only [standB]; rw [if_neg k1, if_neg k2, if_neg k4, if_pos k5]; exact hide rfl
    subst k5
    clear k1 k2 k4 k1b k2b k3b k4b kb
    go_enter Tryd.func66, Tryd.ntmps66
    go_wp2_with fail
    go_loop [4] (fun i => ∃ j : Nat, j ≤ n ∧ i = .int .i64 (j : Int) ∧ Hid (∀ q (h : q < al.length), q < j → bytesB al[q] = true)) (fun i => n - (intOf i).toNat)
    case atStart => exact ⟨0, by omega, rfl, hide (fun j _ h => absurd h (Nat.not_lt_zero _))⟩
    case round =>
      obtain ⟨j, hj, rfl, D⟩ := hrel
      by_cases hlt : j < n
      · have jl : j < al.length := by have := HN.out; omega
        obtain ⟨g, o, rfl, LA⟩ := HA.out.resolve_left (by intro e; rw [e] at jl; simp at jl)
        have c0 := LA.cell j jl
        have lg := LA.lt
        have kb := rbytes_spec al[j] (HZ.out _ (List.getElem_mem _))
        obtain ⟨x, hx⟩ : ∃ x, x = al[j] := ⟨_, rfl⟩
        obtain ⟨b, hb⟩ : ∃ b, (lst x).all nB = b := ⟨_, rfl⟩
        rw [← hx] at c0 kb
        rw [hb] at kb
        have HX := hide hx
        have HT : Hid (bytesB x = b) := hb
        clear hx hb LA
        cases b
        · have F : Hid (E = false) := by
            show _ = _; rw [H1.out]; unfold chooseB
            rw [List.all_eq_false.2 ⟨x, by rw [HX.out]; exact List.getElem_mem _, by rw [HT.out]; decide⟩]; simp
          go_wp2_with (go_at_call 34; refine (kb _).mono ?_; rintro e w1 ⟨rfl, rfl⟩)
          go_returns
          exact ⟨by rw [F.out]; rfl, by go_grown⟩
        · have D2 : Hid (∀ q (h : q < al.length), q < j + 1 → bytesB al[q] = true) := by
            intro q h hq
            by_cases u : q < j
            · exact D.out q h u
            · obtain rfl : q = j := by omega
              rw [← HX.out]; exact HT.out
          go_wp2_with (go_at_call 34; refine (kb _).mono ?_; rintro e w1 ⟨rfl, rfl⟩)
          go_round
          case rel => exact ⟨j + 1, by omega, by go_num, D2⟩
          case measure => simp [intOf]; omega
      · obtain rfl : j = n := by omega
        have AL : Hid (al.all bytesB = true) := by
          show _ = _
          rw [List.all_eq_true]
          intro x hx
          obtain ⟨q, hq, rfl⟩ := List.getElem_of_mem hx
          exact D.out q hq (by have := HN.out; omega)
        by_cases z : t.size = 0
        · have F : Hid (E = (decide (1 ≤ j) && decide (j ≤ 16))) := by show _ = _; rw [H1.out]; unfold chooseB; rw [AL.out, HN.out]; simp [z]
          obtain rfl := str_nil z
          clear z
          by_cases y1 : 1 ≤ j
          · by_cases y2 : j ≤ 16
            · go_wp2
              go_returns
              exact ⟨by rw [F.out]; simp [y1, y2]; try omega, by go_grown⟩
            · go_wp2
              go_returns
              exact ⟨by rw [F.out]; simp [y1, y2]; try omega, by go_grown⟩
          · go_wp2
            go_returns
            exact ⟨by rw [F.out]; simp [y1], by go_grown⟩
        · have F : Hid (E = false) := by show _ = _; rw [H1.out]; simp [z]
          obtain ⟨z1, z2⟩ := str_ne z
          clear z
          go_wp2
          go_returns
          exact ⟨by rw [F.out]; rfl, by go_grown⟩
  have k5b : (k == 5) = false := by rw [beq_eq_false_iff_ne]; exact k5
  have F : Hid (E = false) := by have := HE.out; rw [← this]; simp only [standB]; rw [if_neg k1, if_neg k2, if_neg k4, if_neg k5]; exact hide rfl
  clear k1 k2 k4 k5
  go_enter Tryd.func66, Tryd.ntmps66
  go_wp2_with (go_at_call 34; refine (kb _).mono ?_; rintro e w1 ⟨rfl, rfl⟩)
  go_returns
  exact ⟨by rw [F.out]; rfl, by go_grown⟩
end Go.Proofs.YteahbdhhcfoiiaaDoor
