/- Texts that belong together: Rvalid Nra Nea Bytes Ncl Neb. -/
import Derived.Test.YteahbdhhcfoiiaaDoorG02
import Derived.Test.YteahbdhhcfoiiaaDoorG01
import Derived.Laws.IdiomStrings
import Derived.Lib.Bytealg
import Derived.Lib.IndexLaws
import Derived.Lib.Bytes
import Derived.ChangeSlices
import Derived.Laws.Cells
set_option linter.unusedSimpArgs false
set_option linter.unusedVariables false
/- The reference of layer 3: Sort, Byte, Bytes, Valid. -/
namespace Go.Proofs.YteahbdhhcfoiiaaDoor
set_option linter.unusedVariables false
set_option linter.unusedSimpArgs false
open Go.RowKit W
def sortI (x : Int) : Int := if 48 ≤ x ∧ x ≤ 57 then 1 else if 65 ≤ x ∧ x ≤ 90 then 2 else if 97 ≤ x ∧ x ≤ 122 then 3 else 0
set_option maxRecDepth 100000 in
set_option maxHeartbeats 4000000 in
theorem rsort_spec (x : Int) (h0 : 0 ≤ x) (h1 : x < 256) (w : World) : CalcN 59 #[.int .u8 x] w (.int .i64 (sortI x)) := by
  go_enter Tryd.func59, Tryd.ntmps59
  go_wp2
  all_goals
    go_returns
    exact ⟨ret_int (by unfold sortI; (repeat split) <;> omega), rfl⟩
theorem nam_sort (x : Int) : namI x = (decide (0 < sortI x) || decide (x = 95) || decide (x = 45)) := by
  unfold namI clsI famI sortI
  rw [Bool.eq_iff_iff]
  simp only [Bool.or_eq_true, decide_eq_true_eq]
  (repeat split) <;> omega
set_option maxRecDepth 100000 in
set_option maxHeartbeats 4000000 in
theorem rbyte_spec (x : Int) (h0 : 0 ≤ x) (h1 : x < 256) (w : World) : CalcN 42 #[.int .u8 x] w (.bool (namI x)) := by
  have k := fun w' => rsort_spec x h0 h1 w'
  rw [nam_sort]
  obtain ⟨f, hf⟩ : ∃ f, f = sortI x := ⟨_, rfl⟩
  rw [← hf] at k ⊢
  clear hf
  go_enter Tryd.func42, Tryd.ntmps42
  go_wp2_with (go_at_call 59; refine (k _).mono ?_; rintro e w1 ⟨rfl, rfl⟩)
  all_goals
    go_returns
    refine ⟨ret_bool ?_, rfl⟩
    clear k
    first | (simp_all; done) | rfl | (rw [Bool.eq_iff_iff]; simp; omega)
set_option maxRecDepth 100000 in
set_option maxHeartbeats 4000000 in
theorem rbytes_spec (s : ByteArray) (hs : s.size ≤ 140737488355328) (w : World) : CalcN 34 #[.string s] w (.bool ((lst s).all nB)) := by
  have kb := fun (x : Int) (h0 : 0 ≤ x) (h1 : x < 256) (w' : World) => rbyte_spec x h0 h1 w'
  obtain ⟨E, hE⟩ : ∃ E, E = (lst s).all nB := ⟨_, rfl⟩
  rw [← hE]
  have HE : Hid (((lst s).drop 0).all nB = E) := by show _ = _; rw [hE]; rfl
  clear hE
  go_enter Tryd.func34, Tryd.ntmps34
  go_wp2
  go_loop [3] (fun i => ∃ k : Nat, k ≤ s.size ∧ i = .int .i64 k ∧ Hid (((lst s).drop k).all nB = E)) (fun i => s.size - (intOf i).toNat)
  case atStart => exact ⟨0, by omega, rfl, HE⟩
  case round =>
    obtain ⟨k, hk, rfl, hd⟩ := hrel
    by_cases hlt : k < s.size
    · have dr := hd.out
      have dd : (lst s).drop k = s[k] :: (lst s).drop (k + 1) := drop_at hlt
      rw [dd, List.all_cons] at dr
      have D := hide dr
      clear dr dd hd
      have kb' := fun w' => kb (s[k].toNat : Int) (by omega) (by have := s[k].toNat_lt; omega) w'
      have hx : namI (s[k].toNat : Int) = nB s[k] := rfl
      rw [hx] at kb'
      obtain ⟨t, ht⟩ : ∃ t, t = nB s[k] := ⟨_, rfl⟩
      rw [← ht] at kb' D
      clear ht hx kb
      cases t
      · have F : Hid (E = false) := by have q := D.out; apply hide; simpa using q.symm
        clear D
        go_wp2_with (go_at_call 42; refine (kb' _).mono ?_; rintro e w1 ⟨rfl, rfl⟩)
        go_returns
        exact ⟨by rw [F.out]; rfl, rfl⟩
      · have F : Hid (((lst s).drop (k + 1)).all nB = E) := by have q := D.out; apply hide; simpa using q
        clear D
        go_wp2_with (go_at_call 42; refine (kb' _).mono ?_; rintro e w1 ⟨rfl, rfl⟩)
        go_round
        case rel => exact ⟨k + 1, by omega, by go_num, F⟩
        case measure => simp [intOf]; omega
    · obtain rfl : k = s.size := by omega
      have F : Hid (E = true) := by
        have := hd.out
        rw [List.drop_eq_nil_of_le (by rw [lst_len]; omega)] at this
        exact this.symm
      clear hd kb
      go_wp2
      go_returns
      exact ⟨by rw [F.out]; rfl, rfl⟩
end Go.Proofs.YteahbdhhcfoiiaaDoor
/- name: the reference's classByte, globMay. -/
namespace Go.Proofs.YteahbdhhcfoiiaaDoor
set_option linter.unusedVariables false
set_option linter.unusedSimpArgs false
open Go.RowKit W
theorem cls_sort (x : Int) : clsI x = (decide (0 < sortI x) || decide (x = 95)) := by
  unfold clsI famI sortI
  rw [Bool.eq_iff_iff]
  simp only [Bool.or_eq_true, decide_eq_true_eq]
  (repeat' split) <;> omega
set_option maxRecDepth 100000 in
set_option maxHeartbeats 4000000 in
theorem rclb_spec (x : Int) (h0 : 0 ≤ x) (h1 : x < 256) (w : World) : CalcN 87 #[.int .u8 x] w (.bool (clsI x)) := by
  have k := fun w' => rsort_spec x h0 h1 w'
  rw [cls_sort]
  obtain ⟨f, hf⟩ : ∃ f, f = sortI x := ⟨_, rfl⟩
  rw [← hf] at k ⊢
  clear hf
  go_enter Tryd.func87, Tryd.ntmps87
  go_wp2_with (go_at_call 59; refine (k _).mono ?_; rintro e w1 ⟨rfl, rfl⟩)
  all_goals
    go_returns
    refine ⟨ret_bool ?_, rfl⟩
    clear k
    first | (simp_all; done) | rfl | (rw [Bool.eq_iff_iff]; simp; omega)
theorem rclb_at (s : ByteArray) (j : Nat) (t : Bool) (ht : cB (nx s j) = t) (w : World) : CalcN 87 #[.int .u8 (nx s j).toNat] w (.bool t) := by
  have := rclb_spec ((nx s j).toNat : Int) (nx_int s j).1 (nx_int s j).2 w
  rw [← ht]; exact this
set_option maxRecDepth 100000 in
set_option maxHeartbeats 8000000 in
theorem rglob_spec (g : Gl) (gw : GlW g) (a : Option Addr) (c : Nat) (w : World) (ha : IsTxts w a g.al) :
    Calls Tryd.prog 66 #[gV g a c] w fun e w' => e = .returned (.bool (standB g)) ∧ Below w.heap.size w w' := by
  unfold gV
  obtain ⟨k, t, al⟩ := g
  obtain ⟨g1, g2, g3⟩ := gw
  simp only at g1 g2 g3 ha ⊢
  obtain ⟨E, hE⟩ : ∃ E, standB ⟨k, t, al⟩ = E := ⟨_, rfl⟩
  rw [hE]
  have HE := hide hE
  have HA := hide ha
  have HZ := hide g3
  have kb := fun w' => rbytes_spec t g1 w'
  obtain ⟨n, hn⟩ : ∃ n, n = al.length := ⟨_, rfl⟩
  have HN := hide hn
  rw [← hn] at g2 ⊢
  clear hE ha g3 hn
  by_cases k1 : k = 1
  · have H1 : Hid (E = (decide (t.size ≠ 0) && bytesB t && decide (n = 0))) := by have := HE.out; rw [← this, HN.out]; simp only [standB]; rw [if_pos k1]; exact hide rfl
    subst k1
    by_cases z : t.size = 0
    · have F : Hid (E = false) := by show _ = _; rw [H1.out]; simp [z]
      obtain rfl := str_nil z
      go_enter Tryd.func66, Tryd.ntmps66
      go_wp2_with (go_at_call 34; refine (kb _).mono ?_; rintro e w1 ⟨rfl, rfl⟩)
      go_returns
      exact ⟨by rw [F.out]; rfl, by go_grown⟩
    · obtain ⟨z1, z2⟩ := str_ne z
      obtain ⟨b, hb⟩ : ∃ b, (lst t).all nB = b := ⟨_, rfl⟩
      rw [hb] at kb
      cases b
      · have F : Hid (E = false) := by show _ = _; rw [H1.out]; unfold bytesB; simp [hb]
        clear hb z
        go_enter Tryd.func66, Tryd.ntmps66
        go_wp2_with (go_at_call 34; refine (kb _).mono ?_; rintro e w1 ⟨rfl, rfl⟩)
        go_returns
        exact ⟨by rw [F.out]; rfl, by go_grown⟩
      · by_cases nz : n = 0
        · have nz1 : ((n : Int) == 0) = true := by rw [nz]; rfl
          have F : Hid (E = true) := by show _ = _; rw [H1.out]; unfold bytesB; simp [z, hb, nz]
          clear hb z
          go_enter Tryd.func66, Tryd.ntmps66
          go_wp2_with (go_at_call 34; refine (kb _).mono ?_; rintro e w1 ⟨rfl, rfl⟩)
          go_returns
          exact ⟨by rw [F.out]; rfl, by go_grown⟩
        · have nz1 : ((n : Int) == 0) = false := by rw [beq_eq_false_iff_ne]; omega
          have F : Hid (E = false) := by show _ = _; rw [H1.out]; simp [z, nz]
          clear hb z
          go_enter Tryd.func66, Tryd.ntmps66
          go_wp2_with (go_at_call 34; refine (kb _).mono ?_; rintro e w1 ⟨rfl, rfl⟩)
          go_returns
          exact ⟨by rw [F.out]; rfl, by go_grown⟩
  have k1b : (k == 1) = false := by rw [beq_eq_false_iff_ne]; exact k1
  by_cases k2 : k = 2 ∨ k = 3
  · have H1 : Hid (E = (decide (t.size = 0) && decide (n = 0))) := by have := HE.out; rw [← this, HN.out]; simp only [standB]; rw [if_neg k1, if_pos k2]; exact hide rfl
    by_cases z : t.size = 0
    · by_cases nz : n = 0
      · have nz1 : ((n : Int) == 0) = true := by rw [nz]; rfl
        have F : Hid (E = true) := by show _ = _; rw [H1.out]; simp [z, nz]
        obtain rfl := str_nil z
        clear z k1 k1b
        rcases k2 with rfl | rfl
        all_goals
          go_enter Tryd.func66, Tryd.ntmps66
          go_wp2_with (go_at_call 34; refine (kb _).mono ?_; rintro e w1 ⟨rfl, rfl⟩)
          go_returns
          exact ⟨by rw [F.out]; rfl, by go_grown⟩
      · have nz1 : ((n : Int) == 0) = false := by rw [beq_eq_false_iff_ne]; omega
        have F : Hid (E = false) := by show _ = _; rw [H1.out]; simp [nz]
        obtain rfl := str_nil z
        clear z k1 k1b
        rcases k2 with rfl | rfl
        all_goals
          go_enter Tryd.func66, Tryd.ntmps66
          go_wp2_with (go_at_call 34; refine (kb _).mono ?_; rintro e w1 ⟨rfl, rfl⟩)
          go_returns
          exact ⟨by rw [F.out]; rfl, by go_grown⟩
    · have F : Hid (E = false) := by show _ = _; rw [H1.out]; simp [z]
      obtain ⟨z1, z2⟩ := str_ne z
      clear z k1 k1b
      rcases k2 with rfl | rfl
      all_goals
        go_enter Tryd.func66, Tryd.ntmps66
        go_wp2_with (go_at_call 34; refine (kb _).mono ?_; rintro e w1 ⟨rfl, rfl⟩)
        go_returns
        exact ⟨by rw [F.out]; rfl, by go_grown⟩
  have k2b : (k == 2) = false := by rw [beq_eq_false_iff_ne]; exact fun h => k2 (.inl h)
  have k3b : (k == 3) = false := by rw [beq_eq_false_iff_ne]; exact fun h => k2 (.inr h)
  by_cases k4 : k = 4
  · have H1 : Hid (E = (riseB t && decide (n = 0))) := by have := HE.out; rw [← this, HN.out]; simp only [standB]; rw [if_neg k1, if_neg k2, if_pos k4]; exact hide rfl
    subst k4
    clear k1 k2 k1b k2b k3b
    go_enter Tryd.func66, Tryd.ntmps66
    go_wp2_with fail
    go_loopw [3] (fun i wr => ∃ j : Nat, j ≤ t.size ∧ i = .int .i64 (j : Int) ∧ Hid (Below w.heap.size w wr) ∧ Hid (wr.cell? ⟨w.heap.size, 1, none⟩ = some (.string t)) ∧ Hid (wr.cell? ⟨w.heap.size, 2, none⟩ = some (.slice a n c)) ∧ Hid (∀ q, q < j → riseA t q = true)) (fun i _ => t.size - (intOf i).toNat)
    case atStart => exact ⟨0, by omega, rfl, hide (by go_grown), hide (by simp [go_sem]), hide (by simp [go_sem]), hide (fun j h => absurd h (Nat.not_lt_zero _))⟩
    case round =>
      obtain ⟨j, hj, rfl, B, C1, C2, D⟩ := hrel
      have c1 := C1.out
      have c2 := C2.out
      clear kb
      by_cases hlt : j < t.size
      · have nk : (nx t j).toNat = t[j].toNat := by rw [nx_lt hlt]
        obtain ⟨b, hb⟩ : ∃ b, cB (nx t j) = b := ⟨_, rfl⟩
        have kc := fun w => rclb_at t j b hb w
        rw [nk] at kc
        have HT := hide hb
        have NK := hide nk
        clear hb nk
        cases b
        · have F : Hid (E = false) := by
            show _ = _; rw [H1.out]; unfold riseB; rw [all_no (f := riseA t) hlt (by unfold riseA; rw [HT.out]; rfl)]; rfl
          by_cases z : j = 0
          · subst z
            have z0 : decide ((0 : Int) < ((0 : Nat) : Int)) = false := by decide
            go_wp2_with fail
            go_quiet ((go_at_call 87; exact quiet_calc (kc _)))
            go_wp2_with fail
            go_returns
            exact ⟨by rw [F.out]; rfl, below_drewN B.out _⟩
          · go_wp2_with fail
            go_quiet ((go_at_call 87; exact quiet_calc (kc _)))
            go_wp2_with fail
            go_returns
            exact ⟨by rw [F.out]; rfl, below_drewN B.out _⟩
        · by_cases z : j = 0
          · subst z
            have z0 : decide ((0 : Int) < ((0 : Nat) : Int)) = false := by decide
            have D2 : Hid (∀ q, q < 0 + 1 → riseA t q = true) := by
              intro q hq
              obtain rfl : q = 0 := by omega
              unfold riseA; rw [HT.out]; rfl
            go_wp2_with fail
            go_quiet ((go_at_call 87; exact quiet_calc (kc _)))
            go_wp2_with fail
            go_roundw
            case rel => exact ⟨0 + 1, by omega, by go_num, hide (below_drewN B.out _), C1, C2, D2⟩
            case measure => simp [intOf]; omega
          · obtain ⟨q, rfl⟩ : ∃ q, j = q + 1 := ⟨j - 1, by omega⟩
            have q1 : (nx t q).toNat = t[q].toNat := by rw [nx_lt (by omega)]
            have e1 : IntKind.i64.wrap ((q : Int) + 1 - 1) = (q : Int) := by rw [IntKind.wrap_i64]; omega
            have e2 : decide ((0 : Int) < (q : Int) + 1) = true := by rw [decide_eq_true_eq]; omega
            have e3 : ((q : Int) + 1).toNat = q + 1 := by omega
            have e4 : (0 : Int) ≤ (q : Int) + 1 := by omega
            have lq : q < t.size := by omega
            by_cases y : t[q].toNat < t[q + 1].toNat
            · have y1 : decide (t[q + 1].toNat ≤ t[q].toNat) = false := by simp; omega
              have y2 : ¬ t[q + 1].toNat ≤ t[q].toNat := by omega
              have D2 : Hid (∀ j, j < q + 1 + 1 → riseA t j = true) := by
                intro j hj
                by_cases w : j < q + 1
                · exact D.out j w
                · obtain rfl : j = q + 1 := by omega
                  unfold riseA; rw [HT.out, NK.out, Nat.add_sub_cancel, q1]; simp [y]
              have q1 := hide q1
              clear z y
              go_wp2_with fail
              go_quiet ((go_at_call 87; exact quiet_calc (kc _)))
              go_wp2_with fail
              clear e1 e2 e3 e4
              go_roundw
              case rel => exact ⟨q + 1 + 1, by omega, by go_num, hide (below_drewN B.out _), C1, C2, D2⟩
              case measure => simp [intOf]; omega
            · have y1 : decide (t[q + 1].toNat ≤ t[q].toNat) = true := by simp; omega
              have y2 : t[q + 1].toNat ≤ t[q].toNat := by omega
              have F : Hid (E = false) := by
                show _ = _; rw [H1.out]; unfold riseB; rw [all_no (f := riseA t) hlt (by unfold riseA; rw [HT.out, NK.out, Nat.add_sub_cancel, q1]; simp; omega)]; rfl
              have q1 := hide q1
              clear z y
              go_wp2_with fail
              go_quiet ((go_at_call 87; exact quiet_calc (kc _)))
              go_wp2_with fail
              go_returns
              exact ⟨by rw [F.out]; rfl, below_drewN B.out _⟩
      · obtain rfl : j = t.size := by omega
        have AL : Hid ((List.range t.size).all (riseA t) = true) := all_yes D.out
        by_cases z : t.size = 0
        · have F : Hid (E = false) := by show _ = _; rw [H1.out]; unfold riseB; rw [z]; simp
          obtain rfl := str_nil z
          clear z
          go_wp2_with fail
          go_returns
          exact ⟨by rw [F.out]; rfl, B.out⟩
        · have F : Hid (E = decide (n = 0)) := by show _ = _; rw [H1.out]; unfold riseB; rw [AL.out]; simp [z]
          obtain ⟨z1, z2⟩ := str_ne z
          clear z
          by_cases nz : n = 0
          · subst nz
            go_wp2_with fail
            go_returns
            exact ⟨by rw [F.out]; rfl, B.out⟩
          · have nz1 : ((n : Int) == 0) = false := by rw [beq_eq_false_iff_ne]; omega
            go_wp2_with fail
            go_returns
            exact ⟨by rw [F.out]; simp [nz], B.out⟩
  have k4b : (k == 4) = false := by rw [beq_eq_false_iff_ne]; exact k4
  by_cases k5 : k = 5
  · have H1 : Hid (E = (decide (t.size = 0) && chooseB al)) := by have := HE.out; rw [← this]; simp only [standB]; rw [if_neg k1, if_neg k2, if_neg k4, if_pos k5]; exact hide rfl
    subst k5
    clear k1 k2 k4 k1b k2b k3b k4b kb
    go_enter Tryd.func66, Tryd.ntmps66
    go_wp2_with fail
    go_loop [4] (fun i => ∃ j : Nat, j ≤ n ∧ i = .int .i64 (j : Int) ∧ Hid (∀ q (h : q < al.length), q < j → bytesB al[q] = true)) (fun i => n - (intOf i).toNat)
    case atStart => exact ⟨0, by omega, rfl, hide (fun j _ h => absurd h (Nat.not_lt_zero _))⟩
    case round =>
      obtain ⟨j, hj, rfl, D⟩ := hrel
      by_cases hlt : j < n
      · have jl : j < al.length := by have := HN.out; omega
        obtain ⟨g, o, rfl, LA⟩ := HA.out.resolve_left (by intro e; rw [e] at jl; simp at jl)
        have c0 := LA.cell j jl
        have lg := LA.lt
        have kb := rbytes_spec al[j] (HZ.out _ (List.getElem_mem _))
        obtain ⟨x, hx⟩ : ∃ x, x = al[j] := ⟨_, rfl⟩
        obtain ⟨b, hb⟩ : ∃ b, (lst x).all nB = b := ⟨_, rfl⟩
        rw [← hx] at c0 kb
        rw [hb] at kb
        have HX := hide hx
        have HT : Hid (bytesB x = b) := hb
        clear hx hb LA
        cases b
        · have F : Hid (E = false) := by
            show _ = _; rw [H1.out]; unfold chooseB
            rw [List.all_eq_false.2 ⟨x, by rw [HX.out]; exact List.getElem_mem _, by rw [HT.out]; decide⟩]; simp
          go_wp2_with (go_at_call 34; refine (kb _).mono ?_; rintro e w1 ⟨rfl, rfl⟩)
          go_returns
          exact ⟨by rw [F.out]; rfl, by go_grown⟩
        · have D2 : Hid (∀ q (h : q < al.length), q < j + 1 → bytesB al[q] = true) := by
            intro q h hq
            by_cases u : q < j
            · exact D.out q h u
            · obtain rfl : q = j := by omega
              rw [← HX.out]; exact HT.out
          go_wp2_with (go_at_call 34; refine (kb _).mono ?_; rintro e w1 ⟨rfl, rfl⟩)
          go_round
          case rel => exact ⟨j + 1, by omega, by go_num, D2⟩
          case measure => simp [intOf]; omega
      · obtain rfl : j = n := by omega
        have AL : Hid (al.all bytesB = true) := by
          show _ = _
          rw [List.all_eq_true]
          intro x hx
          obtain ⟨q, hq, rfl⟩ := List.getElem_of_mem hx
          exact D.out q hq (by have := HN.out; omega)
        by_cases z : t.size = 0
        · have F : Hid (E = (decide (1 ≤ j) && decide (j ≤ 16))) := by show _ = _; rw [H1.out]; unfold chooseB; rw [AL.out, HN.out]; simp [z]
          obtain rfl := str_nil z
          clear z
          by_cases y1 : 1 ≤ j
          · by_cases y2 : j ≤ 16
            · go_wp2
              go_returns
              exact ⟨by rw [F.out]; simp [y1, y2]; try omega, by go_grown⟩
            · go_wp2
              go_returns
              exact ⟨by rw [F.out]; simp [y1, y2]; try omega, by go_grown⟩
          · go_wp2
            go_returns
            exact ⟨by rw [F.out]; simp [y1], by go_grown⟩
        · have F : Hid (E = false) := by show _ = _; rw [H1.out]; simp [z]
          obtain ⟨z1, z2⟩ := str_ne z
          clear z
          go_wp2
          go_returns
          exact ⟨by rw [F.out]; rfl, by go_grown⟩
  have k5b : (k == 5) = false := by rw [beq_eq_false_iff_ne]; exact k5
  have F : Hid (E = false) := by have := HE.out; rw [← this]; simp only [standB]; rw [if_neg k1, if_neg k2, if_neg k4, if_neg k5]; exact hide rfl
  clear k1 k2 k4 k5
  go_enter Tryd.func66, Tryd.ntmps66
  go_wp2_with (go_at_call 34; refine (kb _).mono ?_; rintro e w1 ⟨rfl, rfl⟩)
  go_returns
  exact ⟨by rw [F.out]; rfl, by go_grown⟩
end Go.Proofs.YteahbdhhcfoiiaaDoor
/- name: the reference's reader: more, fail, text. -/
namespace Go.Proofs.YteahbdhhcfoiiaaDoor
set_option linter.unusedVariables false
set_option linter.unusedSimpArgs false
open Go.RowKit W
/-- The reference's reader: its text, its place, its fault. -/
structure Re (w : World) (rb : Nat) (s : ByteArray) (i : Nat) (d : Int) : Prop where
  blk : w.heap[rb]? = some (.cells #[.string s, .int .i64 i, .int .i64 d] 89 (0, 0))
  le : i ≤ s.size
theorem Re.c0 {w : World} {rb i : Nat} {s : ByteArray} {d : Int} (h : Re w rb s i d) : w.cell? ⟨rb, 0, none⟩ = some (.string s) := by simp [World.cell?, h.blk]
theorem Re.c1 {w : World} {rb i : Nat} {s : ByteArray} {d : Int} (h : Re w rb s i d) : w.cell? ⟨rb, 1, none⟩ = some (.int .i64 i) := by simp [World.cell?, h.blk]
theorem Re.c2 {w : World} {rb i : Nat} {s : ByteArray} {d : Int} (h : Re w rb s i d) : w.cell? ⟨rb, 2, none⟩ = some (.int .i64 d) := by simp [World.cell?, h.blk]
theorem Re.f1 {w : World} {rb i : Nat} {s : ByteArray} {d : Int} (h : Re w rb s i d) : w.frozen? ⟨rb, 1, none⟩ = false := by simp [World.frozen?, h.blk]
theorem Re.f2 {w : World} {rb i : Nat} {s : ByteArray} {d : Int} (h : Re w rb s i d) : w.frozen? ⟨rb, 2, none⟩ = false := by simp [World.frozen?, h.blk]
theorem Re.lt {w : World} {rb i : Nat} {s : ByteArray} {d : Int} (h : Re w rb s i d) : rb < w.heap.size := blk_lt h.blk
theorem Re.later {w w' : World} {rb i : Nat} {s : ByteArray} {d : Int} (h : Re w rb s i d) (b : Below w.heap.size w w') : Re w' rb s i d := ⟨(b.block rb h.lt).trans h.blk, h.le⟩
theorem Re.drewN {w : World} {rb i : Nat} {s : ByteArray} {d : Int} (h : Re w rb s i d) (n : Nat) : Re (w.drewN n) rb s i d := ⟨h.blk, h.le⟩
theorem Re.upd {B : Nat} {T : List TypeId} {w w' : World} {rb i : Nat} {s : ByteArray} {d : Int} (h : Re w rb s i d) (b : Upd B T w w') (ht : 89 ∉ T) : Re w' rb s i d := ⟨b.blk h.blk ht, h.le⟩
theorem Re.put {w : World} {rb i : Nat} {s : ByteArray} {d : Int} (h : Re w rb s i d) (j : Nat) (hj : j ≤ s.size) {x : Int} (hx : x = (j : Int)) : Re (w.setCell ⟨rb, 1, none⟩ (.int .i64 x)) rb s j d := by
  subst hx
  refine ⟨?_, hj⟩
  simp [World.setCell, Array.getElem?_modify, h.blk]
theorem Re.bad {w : World} {rb i : Nat} {s : ByteArray} {d : Int} (h : Re w rb s i d) (c : Int) : Re (w.setCell ⟨rb, 2, none⟩ (.int .i64 c)) rb s i c := by
  refine ⟨?_, h.le⟩
  simp [World.setCell, Array.getElem?_modify, h.blk]
theorem Re.chg {w : World} {rb i : Nat} {s : ByteArray} {d : Int} (h : Re w rb s i d) (o : Nat) (u : Value) : Upd rb [89] w (w.setCell ⟨rb, o, none⟩ u) :=
  (Upd.refl _ _ _).set h.blk (Nat.le_refl _) (by simp) u
/-- The reader has gone on; else nothing that was there has changed. -/
structure Ge (w w' : World) (rb : Nat) (s : ByteArray) (j : Nat) (d : Int) : Prop where
  rd : Re w' rb s j d
  upd : Upd rb [89] w w'
theorem Ge.trans {a b c : World} {rb i j : Nat} {s : ByteArray} {d d' : Int} (h : Ge a b rb s i d) (k : Ge b c rb s j d') : Ge a c rb s j d' := ⟨k.rd, h.upd.trans k.upd⟩
theorem Ge.later {a b c : World} {rb i : Nat} {s : ByteArray} {d : Int} (h : Ge a b rb s i d) (k : Below b.heap.size b c) : Ge a c rb s i d := ⟨h.rd.later k, h.upd.trans (.of_below k)⟩
theorem Ge.put {a b : World} {rb i : Nat} {s : ByteArray} {d : Int} (h : Ge a b rb s i d) (j : Nat) (hj : j ≤ s.size) {x : Int} (hx : x = (j : Int)) : Ge a (b.setCell ⟨rb, 1, none⟩ (.int .i64 x)) rb s j d := ⟨h.rd.put j hj hx, h.upd.trans (h.rd.chg _ _)⟩
theorem Ge.bad {a b : World} {rb i : Nat} {s : ByteArray} {d : Int} (h : Ge a b rb s i d) (c : Int) : Ge a (b.setCell ⟨rb, 2, none⟩ (.int .i64 c)) rb s i c := ⟨h.rd.bad c, h.upd.trans (h.rd.chg _ _)⟩
theorem Ge.refl {w : World} {rb i : Nat} {s : ByteArray} {d : Int} (h : Re w rb s i d) : Ge w w rb s i d := ⟨h, .refl _ _ _⟩
theorem Ge.drewN {a b : World} {rb i : Nat} {s : ByteArray} {d : Int} (h : Ge a b rb s i d) (n : Nat) : Ge a (b.drewN n) rb s i d := h.later (below_drewN (Below.refl _ _) n)
def isB (s : ByteArray) (i b : Nat) : Bool := decide ((nx s i).toNat = b)
theorem isB_lt {s : ByteArray} {i b : Nat} (hb : 0 < b) (h : isB s i b = true) : i < s.size := lt_of_nx (by intro e; unfold isB at h; rw [e] at h; simp at h; omega)
set_option maxRecDepth 100000 in
set_option maxHeartbeats 4000000 in
theorem more_spec {w : World} {rb i : Nat} {s : ByteArray} {d : Int} (h : Re w rb s i d) (hs : s.size ≤ 400) (b : Nat) (hb : 0 < b ∧ b < 256) (t : Bool) (ht : isB s i b = t) :
    Calls Tryd.prog 105 #[.pointer (some ⟨rb, 0, none⟩), .int .u8 (b : Int)] w fun e w' => e = .returned (.bool t) ∧ ∃ n, w' = w.drewN n := by
  have c0 := h.c0
  have c1 := h.c1
  have le := h.le
  have HT := hide ht
  clear h ht
  by_cases hlt : i < s.size
  · have e0 : (nx s i).toNat = s[i].toNat := by rw [nx_lt hlt]
    have d1 : decide ((i : Int) < (s.size : Int)) = true := by rw [decide_eq_true_eq]; omega
    by_cases e : s[i].toNat = b
    · have F : Hid (t = true) := by have := HT.out; show _ = _; rw [← this]; unfold isB; rw [e0]; simp [e]
      have e1 : (((s[i].toNat : Nat) : Int) == (b : Int)) = true := by rw [e]; simp
      have e2 : (s[i].toNat == b) = true := by rw [e]; simp
      clear e0
      go_enter Tryd.func105, Tryd.ntmps105
      go_wp2_with fail
      go_quiet (fail)
      go_wp2_with fail
      go_returns
      exact ⟨by rw [F.out]; rfl, _, rfl⟩
    · have F : Hid (t = false) := by have := HT.out; show _ = _; rw [← this]; unfold isB; rw [e0]; simp [e]
      have e1 : (((s[i].toNat : Nat) : Int) == (b : Int)) = false := by rw [beq_eq_false_iff_ne]; omega
      have e2 : (s[i].toNat == b) = false := by rw [beq_eq_false_iff_ne]; omega
      clear e0
      go_enter Tryd.func105, Tryd.ntmps105
      go_wp2_with fail
      go_quiet (fail)
      go_wp2_with fail
      go_returns
      exact ⟨by rw [F.out]; rfl, _, rfl⟩
  · have F : Hid (t = false) := by
      have := HT.out; show _ = _; rw [← this]
      cases q : isB s i b with
      | false => rfl
      | true => exact absurd (isB_lt hb.1 q) hlt
    have d1 : decide ((i : Int) < (s.size : Int)) = false := by rw [decide_eq_false_iff_not]; omega
    go_enter Tryd.func105, Tryd.ntmps105
    go_wp2_with fail
    go_quiet (fail)
    go_wp2_with fail
    go_returns
    exact ⟨by rw [F.out]; rfl, _, rfl⟩
set_option maxRecDepth 100000 in
set_option maxHeartbeats 4000000 in
theorem fail_spec {w : World} {rb i : Nat} {s : ByteArray} (h : Re w rb s i 0) (c : Int) :
    Calls Tryd.prog 63 #[.pointer (some ⟨rb, 0, none⟩), .int .i64 c] w fun e w' => e = .returned (.tuple #[]) ∧ Ge w w' rb s i c := by
  have c2 := h.c2
  have f2 := h.f2
  have H := hide h
  clear h
  go_enter Tryd.func63, Tryd.ntmps63
  go_wp2_with fail
  go_end0
  exact ⟨rfl, (Ge.refl H.out).bad c⟩
theorem rbyte_at (s : ByteArray) (j : Nat) (t : Bool) (ht : nB (nx s j) = t) (w : World) : CalcN 42 #[.int .u8 (nx s j).toNat] w (.bool t) := by
  have := rbyte_spec ((nx s j).toNat : Int) (nx_int s j).1 (nx_int s j).2 w
  rw [← ht]; exact this
set_option maxRecDepth 100000 in
set_option maxHeartbeats 4000000 in
theorem rtext_spec {w : World} {rb i : Nat} {s : ByteArray} {d : Int} (h : Re w rb s i d) (hs : s.size ≤ 400) : Calls Tryd.prog 81 #[.pointer (some ⟨rb, 0, none⟩)] w fun e w' =>
    e = .returned (.string (s.extract i (textE s (s.size + 1) i))) ∧ Ge w w' rb s (textE s (s.size + 1) i) d := by
  obtain ⟨E, hE⟩ : ∃ E, textE s (s.size + 1) i = E := ⟨_, rfl⟩
  rw [hE]
  have HE := hide hE
  clear hE
  have HS := hide hs
  have H := hide h
  have c1 := h.c1
  have le := h.le
  clear h
  go_enter Tryd.func81, Tryd.ntmps81
  go_wp2_with fail
  go_loopg [] (s.size - i) (fun k wr => ∃ j, j + k = s.size ∧ i ≤ j ∧ Ge w wr rb s j d ∧ Hid (textE s (s.size + 1) j = E))
  case atStart => exact ⟨i, by omega, Nat.le_refl _, Ge.refl H.out, HE⟩
  case round =>
    obtain ⟨j, hj, hij, g, D⟩ := hrel
    have G := hide g
    have c0 := g.rd.c0
    have c1 := g.rd.c1
    have f1 := g.rd.f1
    have jl := g.rd.le
    clear g H HE
    by_cases hlt : j < s.size
    · have d1 : decide ((j : Int) < (s.size : Int)) = true := by rw [decide_eq_true_eq]; omega
      have e0 : (nx s j).toNat = s[j].toNat := by rw [nx_lt hlt]
      cases hb : nB (nx s j)
      · have kb := rbyte_at s j false hb
        rw [e0] at kb
        have F : Hid (j = E) := by have := D.out; rw [textE_stop hb] at this; exact this
        clear D hb e0
        go_wp2_with fail
        go_quiet ((go_at_call 42; exact quiet_calc (kb _)))
        go_wp2_with fail
        go_quiet (fail)
        go_wp2_with fail
        go_returns
        exact ⟨by rw [← F.out]; rfl, by rw [← F.out]; exact (G.out.drewN _).drewN _⟩
      · have kb := rbyte_at s j true hb
        rw [e0] at kb
        have lt := nB_lt hb
        have F : Hid (textE s (s.size + 1) (j + 1) = E) := by have := D.out; rw [← textE_step (by omega) hb] at this; exact this
        clear D hb e0
        go_wp2_with fail
        go_quiet ((go_at_call 42; exact quiet_calc (kb _)))
        go_wp2_with fail
        go_roundg (gk - 1)
        case measure => omega
        case rel => exact ⟨j + 1, by omega, by omega, (G.out.drewN _).put (j + 1) lt (by omega), F⟩
    · have d1 : decide ((j : Int) < (s.size : Int)) = false := by rw [decide_eq_false_iff_not]; omega
      have F : Hid (j = E) := by have := D.out; rw [textE_stop (by rw [nx_ge (by omega)]; exact nB0)] at this; exact this
      clear D
      go_wp2_with fail
      go_quiet (fail)
      go_wp2_with fail
      go_quiet (fail)
      go_wp2_with fail
      go_returns
      exact ⟨by rw [← F.out]; rfl, by rw [← F.out]; exact (G.out.drewN _).drewN _⟩
end Go.Proofs.YteahbdhhcfoiiaaDoor
/- Slices of bytes: what they read; cuts; as a text. -/
namespace Go.Proofs.YteahbdhhcfoiiaaDoor
set_option linter.unusedVariables false
set_option linter.unusedSimpArgs false
open Go.RowKit W
/-- A slice of bytes, nil and empty too. -/
def IsBytes (w : World) (a : Option Addr) (l : List UInt8) : Prop := l = [] ∨ ∃ g o, a = some ⟨g, o, none⟩ ∧ g < w.heap.size ∧ ∀ j (h : j < l.length), w.cell? ⟨g, o + j, none⟩ = some (.int .u8 (l[j].toNat : Int))
theorem IsBytes.later {w w' : World} {a : Option Addr} {l : List UInt8} (h : IsBytes w a l) (b : Below w.heap.size w w') : IsBytes w' a l := by
  rcases h with h | ⟨g, o, rfl, lt, h⟩
  · exact .inl h
  · exact .inr ⟨g, o, rfl, Nat.lt_of_lt_of_le lt b.size, fun j hj => (b.cell (p := ⟨g, o + j, none⟩) lt).trans (h j hj)⟩
theorem size_b (w : World) : (Go.sizeOf (Tryd.prog.elem 54)).run Tryd.prog w = .ok 1 w := by kernel_rfl
theorem add0 (x : Addr) : x.add 0 = x := by unfold Addr.add; simp
/-- l[k:] of a slice. -/
theorem bytes_from {w : World} {a : Option Addr} {l : List UInt8} (h : IsBytes w a l) (c k : Nat) (hk : k ≤ l.length) (hc : l.length ≤ c) :
    ∃ a2, (∀ v, (Instr.slice 54 (.slice a l.length c) (some (.int .i64 (k : Int))) none none).run Tryd.prog v = .ok (.slice a2 (l.length - k) (c - k)) v) ∧ IsBytes w a2 (l.drop k) ∧ (a2 = none → a = none) := by
  refine ⟨if c = k then a else a.map (·.add (k * 1)), fun v => ?_, ?_, ?_⟩
  · rw [run_slice_l (P := Tryd.prog) (w := v) 54 a l.length c (by kernel_rfl) .i64 (k : Int) (by omega) (by omega), size_b]
    simp [Result.andThen, sliced]
  · rcases h with rfl | ⟨g, o, rfl, lt, h⟩
    · exact .inl (by simp)
    · by_cases e : l.length = k
      · exact .inl (by rw [← e]; simp)
      · rw [if_neg (by omega)]
        refine .inr ⟨g, o + k, by simp only [Option.map_some, Nat.mul_one]; rw [Go.WideShapes.add_plain], lt, fun j hj => ?_⟩
        rw [List.length_drop] at hj
        have := h (k + j) (by omega)
        rw [Nat.add_assoc, this, List.getElem_drop]
  · intro e; split at e
    · exact e
    · simpa using e
/-- l[k:e:e] of a slice. -/
theorem bytes_cut {w : World} {a : Option Addr} {l : List UInt8} (h : IsBytes w a l) (c k e : Nat) (hk : k ≤ e) (he : e ≤ l.length) (hc : l.length ≤ c) :
    ∃ a2, (∀ v, (Instr.slice 54 (.slice a l.length c) (some (.int .i64 (k : Int))) (some (.int .i64 (e : Int))) (some (.int .i64 (e : Int)))).run Tryd.prog v = .ok (.slice a2 (e - k) (e - k)) v) ∧ IsBytes w a2 ((l.take e).drop k) := by
  refine ⟨if e = k then a else a.map (·.add (k * 1)), fun v => ?_, ?_⟩
  · rw [run_slice_lhm (P := Tryd.prog) (w := v) 54 a l.length c (by kernel_rfl) .i64 .i64 .i64 (k : Int) (e : Int) (e : Int) (by omega) (by omega) (by omega) (by omega), size_b]
    simp [Result.andThen, sliced]
  · rcases h with rfl | ⟨g, o, rfl, lt, h⟩
    · exact .inl (by simp)
    · by_cases q : e = k
      · exact .inl (List.drop_eq_nil_of_le (by rw [List.length_take]; omega))
      · rw [if_neg q]
        refine .inr ⟨g, o + k, by simp only [Option.map_some, Nat.mul_one]; rw [Go.WideShapes.add_plain], lt, fun j hj => ?_⟩
        rw [List.length_drop, List.length_take] at hj
        have := h (k + j) (by omega)
        rw [Nat.add_assoc, this, List.getElem_drop, List.getElem_take]
/-- l[:e:e] of a slice. -/
theorem bytes_upto {w : World} {a : Option Addr} {l : List UInt8} (h : IsBytes w a l) (c e : Nat) (he : e ≤ l.length) (hc : l.length ≤ c) :
    (∀ v, (Instr.slice 54 (.slice a l.length c) none (some (.int .i64 (e : Int))) (some (.int .i64 (e : Int)))).run Tryd.prog v = .ok (.slice a e e) v) ∧ IsBytes w a (l.take e) := by
  refine ⟨fun v => ?_, ?_⟩
  · rw [run_slice_hm (P := Tryd.prog) (w := v) 54 a l.length c (by kernel_rfl) .i64 .i64 (e : Int) (e : Int) (by omega) (by omega) (by omega), size_b]
    simp [Result.andThen, sliced, add0]
  · rcases h with rfl | ⟨g, o, rfl, lt, h⟩
    · exact .inl (by simp)
    · refine .inr ⟨g, o, rfl, lt, fun j hj => ?_⟩
      rw [List.length_take] at hj
      rw [h j (by omega), List.getElem_take]
/-- A slice of bytes as a text. -/
theorem bytes_text {w : World} {a : Option Addr} {l : List UInt8} (h : IsBytes w a l) (hl : l ≠ []) (c : Nat) :
    ∃ x : ByteArray, lst x = l ∧ ∀ v, Below w.heap.size w v → (convert 54 9 (.slice a l.length c)).run Tryd.prog v = .ok (.string x) v := by
  rcases h with rfl | ⟨g, o, rfl, lt, h⟩
  · exact absurd rfl hl
  · refine ⟨⟨l.toArray⟩, by simp [lst], fun v b => ?_⟩
    exact run_convert_bytes_back v 54 9 5 ⟨g, o, none⟩ c l Tryd.underlying54 Tryd.underlying5 Tryd.underlying9 (fun j hj => by
      rw [Go.WideShapes.add_plain]
      exact (b.cell (p := ⟨g, o + j, none⟩) lt).trans (h j hj))
/-- How many bytes stand ahead of the next line end. -/
def lineN : List UInt8 → Nat
  | [] => 0
  | x :: r => if x = 10 then 0 else lineN r + 1
theorem lineN_le (l : List UInt8) : lineN l ≤ l.length := by
  induction l with
  | nil => simp [lineN]
  | cons x r ih => unfold lineN; split <;> simp; omega
theorem index_line (l : List UInt8) : (Lib.indexByte l 10 = -1 ∧ lineN l = l.length ∧ (10 : UInt8) ∉ l) ∨ (Lib.indexByte l 10 = lineN l ∧ lineN l < l.length) := by
  induction l with
  | nil => left; simp [Lib.indexByte, lineN]
  | cons x r ih =>
    unfold Lib.indexByte lineN
    by_cases e : x = 10
    · subst e; right; simp
    · have e1 : (x == 10) = false := by simpa using e
      rw [e1, if_neg e]
      rcases ih with ⟨h1, h2, h3⟩ | ⟨h1, h2⟩
      · left
        rw [h1, h2]
        refine ⟨by simp, by simp, ?_⟩
        rw [List.mem_cons, not_or]
        exact ⟨fun q => e q.symm, h3⟩
      · right
        rw [h1]
        refine ⟨?_, by simp; omega⟩
        have : ((lineN r : Int) == -1) = false := by rw [beq_eq_false_iff_ne]; omega
        simp [this]
/-- A text cut at line ends, from its first line end on. -/
theorem cut_line (l : List UInt8) : cutL 10 [] l = l.take (lineN l) :: (if lineN l < l.length then cutL 10 [] (l.drop (lineN l + 1)) else []) := by
  have aux : ∀ (l acc : List UInt8), cutL 10 acc l = (acc ++ l.take (lineN l)) :: (if lineN l < l.length then cutL 10 [] (l.drop (lineN l + 1)) else []) := by
    intro l
    induction l with
    | nil => intro acc; simp [cutL, lineN]
    | cons x r ih =>
      intro acc
      show (if x = 10 then acc :: cutL 10 [] r else cutL 10 (acc ++ [x]) r) = _
      by_cases e : x = 10
      · rw [if_pos e]
        have q : lineN (x :: r) = 0 := by unfold lineN; rw [if_pos e]
        rw [q, if_pos (by simp)]
        simp
      · have q : lineN (x :: r) = lineN r + 1 := by rw [lineN, if_neg e]
        rw [if_neg e, ih, q]
        simp
  simpa using aux l []
/-- Without one byte 13 at its end. -/
def bareL (l : List UInt8) : List UInt8 := if l.getLast? = some 13 then l.dropLast else l
theorem bareL_13 {l : List UInt8} {k : Nat} (hk : l.length = k + 1) (h : l[k]'(by omega) = 13) : bareL l = l.take k := by
  unfold bareL
  rw [List.getLast?_eq_getElem?, hk, Nat.add_sub_cancel, List.getElem?_eq_getElem (by omega), h, if_pos rfl, List.dropLast_eq_take, hk, Nat.add_sub_cancel]
theorem bareL_no {l : List UInt8} {k : Nat} (hk : l.length = k + 1) (h : l[k]'(by omega) ≠ 13) : bareL l = l := by
  unfold bareL
  rw [List.getLast?_eq_getElem?, hk, Nat.add_sub_cancel, List.getElem?_eq_getElem (by omega), if_neg (by intro e; exact h (Option.some.inj e))]
/-- P5.1. -/
def splitL (l : List UInt8) : List (List UInt8) := ((cutL 10 [] l).map bareL).filter (fun p => !p.isEmpty)
open Go.ChangeShapes Go.WideShapes in
/-- A slice of bytes as it is read. -/
theorem isBytes_of {H : Type} {enc : TypeId × Value → H} {P : Program} {w : World} {base : Nat} {spare : Nat → Bool} {held : Bool} {n : Nat} {t e : TypeId} {v : Value} {y : DataW H × List MemPlace}
    (ht : P.underlying t = some (.slice e)) (he : P.underlying e = some (.int .u8)) (hc : P.cellsOf e = 1) (h : DataW.trod enc P w base spare held n t [v] = some y) :
    ∃ a c l, v = .slice a (List.length l) c ∧ l.length ≤ c ∧ (a = none → l.length = 0 ∧ c = 0) ∧ IsBytes w a l ∧ (l = [] ∨ ∃ el sp, y.1 = .slice el sp ∧ el.length = l.length) := by
  rcases open_ints ht he hc h with ⟨hcs, _⟩ | ⟨a, len, cap, zs, hcs, _, hl, hm, hz, hy, hcell, hwf⟩
  · simp at hcs
    exact ⟨none, 0, [], hcs, by simp, by simp, .inl rfl, .inl rfl⟩
  · simp at hcs
    have lz : len ≤ zs.length := by rw [hz]; split <;> omega
    have lt : (zs.take len).length = len := by rw [List.length_take]; omega
    have small : ∀ z ∈ zs, 0 ≤ z ∧ z < 256 := by
      intro z h
      have := hwf z h
      simp only [Lit.wf, IntKind.min, IntKind.max, IntKind.signed, IntKind.bits, Bool.and_eq_true, decide_eq_true_eq] at this
      simp at this
      omega
    refine ⟨some a, cap, (zs.take len).map fun z => UInt8.ofNat z.toNat, by rw [List.length_map, lt]; exact hcs, by rw [List.length_map, lt]; exact hl, (by intro e; cases e), ?_, ?_⟩
    · rcases Nat.eq_zero_or_pos len with rfl | hpos
      · exact .inl (by simp)
      · have g0 := hcell 0 (by omega)
        obtain ⟨b, off, spot⟩ := a
        have hspot : spot = none := by simpa [Addr.add] using World.cell?_spot g0
        subst hspot
        have blt : b < w.heap.size := by
          have := hcell 0 (by omega)
          rw [add_plain] at this
          rcases Nat.lt_or_ge b w.heap.size with hlt | hge
          · exact hlt
          · unfold World.cell? at this; simp [Array.getElem?_eq_none hge] at this
        refine .inr ⟨b, off, rfl, blt, fun j hj => ?_⟩
        rw [List.length_map, lt] at hj
        have := hcell j (by omega)
        rw [add_plain] at this
        rw [this, List.getElem_map, List.getElem_take]
        have hj2 : j < zs.length := by omega
        have sm := small zs[j] (List.getElem_mem hj2)
        simp only [List.getD_eq_getElem?_getD, List.getElem?_eq_getElem hj2, Option.getD_some, UInt8.toNat_ofNat']
        congr 2
        omega
    · right
      exact ⟨_, _, by rw [hy], by simp [lits]⟩
end Go.Proofs.YteahbdhhcfoiiaaDoor
/- name: the reader's class. -/
namespace Go.Proofs.YteahbdhhcfoiiaaDoor
set_option linter.unusedVariables false
set_option linter.unusedSimpArgs false
open Go.RowKit W
def rowB (l : List UInt8) : List Value := l.map fun x => .int .u8 (x.toNat : Int)
theorem rowB_len (l : List UInt8) : (rowB l).length = l.length := by simp [rowB]
theorem rowB_app (l m : List UInt8) : rowB (l ++ m) = rowB l ++ rowB m := by simp [rowB]
theorem rowB_one (l : List UInt8) : ∀ u ∈ rowB l, u.oneCell' = true := by
  intro u hu
  obtain ⟨x, _, rfl⟩ := List.mem_map.1 hu
  rfl
theorem Upd.set_new {B : Nat} {T : List TypeId} {a b : World} (h : Upd B T a b) {p : Addr} (hp : a.heap.size ≤ p.block) (u : Value) : Upd B T a (b.setCell p u) :=
  ⟨h.os, h.tape, h.output, by simpa [World.setCell] using h.size, fun k hk hc => (Below.heap_setCell b p u k (by omega)).trans (h.block k hk hc)⟩
theorem Go1.set_new {a b : World} {rb i : Nat} {s : ByteArray} (h : Go1 a b rb s i) (l : rb < a.heap.size) {p : Addr} (hp : a.heap.size ≤ p.block) (u : Value) : Go1 a (b.setCell p u) rb s i :=
  ⟨⟨(Below.heap_setCell b p u rb (by omega)).trans h.rd.blk, h.rd.le⟩, h.upd.set_new hp u⟩
def bitsA (f : Nat → Bool) : List Value := (List.range 128).map fun i => Value.bool (f i)
theorem bitsA_at (f : Nat → Bool) (i : Nat) (h : i < 128) : (bitsA f)[i]? = some (.bool (f i)) := by simp [bitsA, h]
theorem bitsA_len (f : Nat → Bool) : (bitsA f).length = 128 := by simp [bitsA]
theorem bitsA_set (f g : Nat → Bool) (i : Nat) (h : i < 128) (hg : ∀ j, j < 128 → g j = (f j || decide (j = i))) : (bitsA f).set i (.bool true) = bitsA g := by
  apply List.ext_getElem?
  intro j
  rw [List.getElem?_set, bitsA_len]
  by_cases e : i = j
  · subst e
    rw [if_pos rfl, if_pos h, bitsA_at g i h, hg i h]; simp
  · rw [if_neg e]
    by_cases hj : j < 128
    · rw [bitsA_at f j hj, bitsA_at g j hj, hg j hj]; simp [Ne.symm e]
    · rw [List.getElem?_eq_none (by rw [bitsA_len]; omega), List.getElem?_eq_none (by rw [bitsA_len]; omega)]
/-- The array of a class's bytes. -/
def Bits (w : World) (b : Nat) (f : Nat → Bool) : Prop := w.heap[b]? = some (.cells (bitsA f).toArray 111 (0, 0))
theorem Bits.at {w : World} {b : Nat} {f : Nat → Bool} (h : Bits w b f) (i : Nat) (hi : i < 128) : w.cell? ⟨b, i, none⟩ = some (.bool (f i)) := by
  unfold Bits at h
  simp [World.cell?, h, bitsA_at f i hi]
theorem Bits.free {w : World} {b : Nat} {f : Nat → Bool} (h : Bits w b f) (i : Nat) : w.frozen? ⟨b, i, none⟩ = false := by
  unfold Bits at h
  simp [World.frozen?, h]
theorem Bits.upd {B : Nat} {T : List TypeId} {w w' : World} {b : Nat} {f : Nat → Bool} (h : Bits w b f) (u : Upd B T w w') (ht : 111 ∉ T) : Bits w' b f := u.blk h ht
theorem Bits.put {w : World} {b : Nat} {f g : Nat → Bool} (h : Bits w b f) (i : Nat) (hi : i < 128) (hg : ∀ j, j < 128 → g j = (f j || decide (j = i))) : Bits (w.setCell ⟨b, i, none⟩ (.bool true)) b g := by
  unfold Bits at *
  rw [← bitsA_set f g i hi hg]
  simp [World.setCell, Array.getElem?_modify, h]
theorem Bits.load {w : World} {b : Nat} {f : Nat → Bool} (h : Bits w b f) : Sem.run Tryd.prog (loadCellsFrom ⟨b, 0, none⟩ 0 128 #[]) w = .ok (bitsA f).toArray w := by
  have := run_loadCells_list (P := Tryd.prog) (w := w) ⟨b, 0, none⟩ (bitsA f) (fun j v hj => by
    rw [Go.WideShapes.add_plain, Nat.zero_add]
    have hl := (List.getElem?_eq_some_iff.1 hj).1
    rw [bitsA_len] at hl
    rw [h.at j hl, ← hj, bitsA_at f j hl])
  rw [bitsA_len] at this
  simpa [loadCells] using this
theorem idx_bits (f : Nat → Bool) (n : Nat) (h : n < 128) (w : World) : (Instr.index 111 (.agg (bitsA f).toArray) (.int .i64 (n : Int))).run Tryd.prog w = .ok (.bool (f n)) w := by
  have a : ∀ w : World, (isAgg 4).run Tryd.prog w = .ok false w := fun w => by kernel_rfl
  have z : ∀ w : World, (Go.sizeOf 4).run Tryd.prog w = .ok 1 w := fun w => by kernel_rfl
  have e : (bitsA f).toArray[n]? = some (.bool (f n)) := by simp [bitsA_at f n h]
  simp only [List.getElem?_toArray] at e
  have hn : 0 ≤ (n : Int) ∧ (n : Int) < ((128 : Nat) : Int) := by omega
  simp [Instr.index, run_underlying Tryd.underlying111, asIntOf, hn.1, hn.2, go_sem, part, a, z, e]
  omega
/-- A result's box, still empty. -/
def Zero3 (w : World) (b : Nat) : Prop := w.heap[b]? = some (.cells #[.int .i64 0, .string ⟨#[]⟩, .slice none 0 0] 66 (0, 0))
theorem Zero3.upd {B : Nat} {T : List TypeId} {w w' : World} {b : Nat} (h : Zero3 w b) (u : Upd B T w w') (ht : 66 ∉ T) : Zero3 w' b := u.blk h ht
theorem Zero3.cells {w : World} {b : Nat} (h : Zero3 w b) : w.cell? ⟨b, 0, none⟩ = some (.int .i64 0) ∧ w.cell? ⟨b, 1, none⟩ = some (.string ⟨#[]⟩) ∧ w.cell? ⟨b, 2, none⟩ = some (.slice none 0 0) ∧ (∀ o, w.frozen? ⟨b, o, none⟩ = false) ∧ b < w.heap.size := by
  unfold Zero3 at h
  exact ⟨by simp [World.cell?, h], by simp [World.cell?, h], by simp [World.cell?, h], fun o => by simp [World.frozen?, h], blk_lt h⟩
theorem Go1.grown_new {a b c : World} {rb i : Nat} {s : ByteArray} {row : Option Nat} (h : Go1 a b rb s i) (l : rb < a.heap.size) (g : b.grownBy c row) (hr : ∀ k, row = some k → a.heap.size ≤ k) : Go1 a c rb s i :=
  ⟨⟨(g.block rb h.rd.lt (fun e => by have := hr rb e.symm; omega)).trans h.rd.blk, h.rd.le⟩, h.upd.grown_new g hr⟩
theorem bit_step (f : Nat → Bool) (x n q : Nat) (h : x ≤ n) : (f q || (decide (x ≤ q) && decide (q < n + 1))) = ((f q || (decide (x ≤ q) && decide (q < n))) || decide (q = n)) := by
  rw [Bool.eq_iff_iff]; simp only [Bool.or_eq_true, Bool.and_eq_true, decide_eq_true_eq]; cases f q <;> simp <;> omega
theorem bit_none (f : Nat → Bool) (x : Nat) : (fun i => f i || (decide (x ≤ i) && decide (i < x))) = f := by
  funext i
  rw [show (decide (x ≤ i) && decide (i < x)) = false by rw [Bool.and_eq_false_iff]; simp; omega, Bool.or_false]
theorem bit_all (acc : List (UInt8 × UInt8)) (lo hi : UInt8) : (fun i => inB acc i || (decide (lo.toNat ≤ i) && decide (i < hi.toNat + 1))) = inB (acc ++ [(lo, hi)]) := by
  funext i
  unfold inB
  rw [List.any_append]
  simp [Nat.lt_succ_iff]
/-- A class's bytes below n. -/
def txtN (rs : List (UInt8 × UInt8)) (n : Nat) : List UInt8 := ((List.range n).filter (inB rs)).map UInt8.ofNat
theorem txtN_yes (rs : List (UInt8 × UInt8)) (n : Nat) (h : inB rs n = true) : txtN rs (n + 1) = txtN rs n ++ [UInt8.ofNat n] := by simp [txtN, List.range_succ, h]
theorem txtN_no (rs : List (UInt8 × UInt8)) (n : Nat) (h : inB rs n = false) : txtN rs (n + 1) = txtN rs n := by simp [txtN, List.range_succ, h]
theorem txtN_len (rs : List (UInt8 × UInt8)) (n : Nat) : (txtN rs n).length ≤ n := by
  unfold txtN
  rw [List.length_map]
  exact Nat.le_trans (List.length_filter_le _ _) (by simp)
theorem conv_own {B : Nat} {w : World} {v : Value} {l : List UInt8} (h : w.ownsRow B 5 1 v l.length (rowB l)) : (convert 54 9 v).run Tryd.prog w = .ok (.string ⟨l.toArray⟩) w := by
  obtain ⟨hl, ⟨rfl, hn⟩ | ⟨g, cap, cur, rfl, hb, hh, hnc, hcm, hs, ht⟩⟩ := h
  · obtain rfl := List.length_eq_zero_iff.1 hn
    rw [run_convert_bytes_string w 54 9 5 none 0 0 Tryd.underlying54 Tryd.underlying5 Tryd.underlying9]
    rfl
  · exact run_convert_bytes_back w 54 9 5 ⟨g, 0, none⟩ cap l Tryd.underlying54 Tryd.underlying5 Tryd.underlying9 (fun j hj => by
      rw [Go.WideShapes.add_plain, Nat.zero_add, cell_of_row w g j cur _ _ hh]
      have : (rowB l)[j]? = some (.int .u8 (l[j].toNat : Int)) := by simp [rowB, hj]
      rw [← ht, List.getElem?_take] at this
      split at this
      · simpa using this
      · cases this)
theorem info_byte : (Tryd.prog.info? 5).map (fun i => (i.zero, i.size, i.bytes)) = some (some (.int .u8 0), 1, 1) := by kernel_rfl
theorem one_byt {x : Int} : ∀ u ∈ [Value.int .u8 x], u.oneCell' = true := by intro u hu; rw [List.mem_singleton] at hu; subst hu; rfl
theorem new2 (w : World) (a b : Obj) : ((w.alloc a).alloc b).heap[w.heap.size + 1]? = some b := by
  have := heap_alloc_new (w.alloc a) b
  rwa [show (w.alloc a).heap.size = w.heap.size + 1 by simp] at this
theorem new1 (w : World) (a b : Obj) : ((w.alloc a).alloc b).heap[w.heap.size]? = some a := by
  have h : w.heap.size < (w.alloc a).heap.size := by simp
  exact (((Below.refl _ _).alloc (Nat.le_refl _) b : Below (w.alloc a).heap.size (w.alloc a) ((w.alloc a).alloc b)).block _ h).trans (heap_alloc_new w a)
def classV : Option (List (UInt8 × UInt8)) → Value
  | none => .tuple #[.agg #[.int .i64 0, .string ⟨#[]⟩, .slice none 0 0], .int .i64 31]
  | some rs => .tuple #[.agg #[.int .i64 4, .string ⟨(clsT rs).toArray⟩, .slice none 0 0], .int .i64 0]
def ClassPost (w : World) (rb i : Nat) (s : ByteArray) (e : Ending) (w' : World) : Prop := e = .returned (classV (classA s (s.size + 1) i []).2) ∧ Go1 w w' rb s (classA s (s.size + 1) i []).1
set_option maxRecDepth 100000 in
set_option maxHeartbeats 8000000 in
theorem rclass_spec {w : World} {rb i : Nat} {s : ByteArray} (h : Rd w rb s i) (hs : s.size ≤ 400) : Calls Tryd.prog 78 #[.pointer (some ⟨rb, 0, none⟩)] w (ClassPost w rb i s) := by
  obtain ⟨E, hE⟩ : ∃ E, classA s (s.size + 1) i [] = E := ⟨_, rfl⟩
  have HP : Hid (∀ e w', e = .returned (classV E.2) → Go1 w w' rb s E.1 → ClassPost w rb i s e w') := by
    intro e w' h1 h2; unfold ClassPost; rw [hE]; exact ⟨h1, h2⟩
  have HE := hide hE
  clear hE
  have HS := hide hs
  have H := hide h
  have le := h.le
  have lr := h.lt
  clear h
  go_enter Tryd.func78, Tryd.ntmps78
  go_wp2_with fail
  go_loopg [] (s.size - i) (fun k wr => ∃ (j f : Nat) (acc : List (UInt8 × UInt8)), j + k = s.size ∧ s.size < f + j ∧ Go1 w wr rb s j ∧ Bits wr (w.heap.size + 1) (inB acc) ∧ Zero3 wr w.heap.size ∧ Hid (classA s f j acc = E))
  case atStart =>
    refine ⟨i, s.size + 1, [], by omega, by omega, (Go1.refl H.out).later ((Below.refl _ _).alloc (Nat.le_refl _) _ |>.alloc (by simp) _), ?_, ?_, HE⟩
    · unfold Bits
      rw [show (bitsA (inB [])).toArray = Tryd.zeroCells111 by kernel_rfl]
      exact new2 _ _ _
    · exact new1 _ _ _
  case round =>
    obtain ⟨j, f, acc, hj, hf, g, B, Z, D⟩ := hrel
    have G := hide g
    have BB := hide B
    have ZZ := hide Z
    have ki := item_spec g.rd hs
    have jl := g.rd.le
    have sz := g.upd.size
    clear g H HE B Z
    obtain ⟨⟨j', r⟩, hr⟩ : ∃ q, itemA s j = q := ⟨_, rfl⟩
    go_wp2_with fail
    refine Calls.mono ki ?_
    rintro e w1 ⟨he, g1⟩
    rw [hr] at g1 he
    have G1 := hide (G.out.trans g1)
    have B1 := hide (BB.out.upd g1.upd (by decide))
    have Z1 := hide (ZZ.out.upd g1.upd (by decide))
    clear g1 ki
    obtain ⟨z0, z1, z2, zf, zl⟩ := Z1.out.cells
    have zf0 := zf 0
    have zf1 := zf 1
    have zf2 := zf 2
    clear zf
    cases r with
    | none =>
      have F : Hid (E = (j', none)) := by have := D.out; rw [class_bad hf jl hr] at this; exact this.symm
      clear D hr
      simp only [itemV] at he
      subst he
      go_wp2_with fail
      refine bodyPost_ret (by simp [results, Tryd.results78, go_sem, z0, z1, z2]; try rfl) rfl ?_
      exact HP.out _ _ (by rw [F.out]; rfl) (by rw [F.out]; exact ((G1.out.set_new lr (by simp) _).set_new lr (by simp) _).set_new lr (by simp) _)
    | some r =>
      obtain ⟨lo, hi⟩ := r
      obtain ⟨p1, p2, p3, p4, p5⟩ := item_pos hr
      simp only at p3 p4 p5
      have HR := hide hr
      have PP := hide p3
      obtain ⟨x, hx⟩ : ∃ x, lo.toNat = x := ⟨_, rfl⟩
      obtain ⟨y, hy⟩ : ∃ y, hi.toNat = y := ⟨_, rfl⟩
      rw [hx, hy] at p4
      rw [hy] at p5
      have HX := hide hx
      have HY := hide hy
      simp only [itemV, hx, hy] at he
      subst he
      clear hr p3 hx hy z0 z1 z2 zf0 zf1 zf2 zl
      go_wp2_with fail
      go_loopw [8] (fun b w2 => ∃ n, x ≤ n ∧ n ≤ y + 1 ∧ b = .int .u8 (n : Int) ∧ Go1 w w2 rb s j' ∧ Bits w2 (w.heap.size + 1) (fun i => inB acc i || (decide (x ≤ i) && decide (i < n))) ∧ Zero3 w2 w.heap.size) (fun b _ => 256 - (intOf b).toNat)
      case atStart => exact ⟨x, by omega, by omega, rfl, G1.out, by rw [bit_none]; exact B1.out, Z1.out⟩
      case round =>
        obtain ⟨n, n1, n2, rfl, g2, b2, z2⟩ := hrel
        have G2 := hide g2
        have B2 := hide b2
        have Z2 := hide z2
        by_cases hn : n ≤ y
        · have c := b2.at n (by omega)
          have cf := b2.free n
          have ql := blk_lt b2
          clear g2 b2 z2
          go_wp2_with fail
          go_roundw
          case rel => exact ⟨n + 1, by omega, by omega, by go_num, G2.out.set_new lr (by simp) _, B2.out.put n (by omega) (fun q hq => bit_step _ _ _ _ n1), Z2.out.upd ((Upd.refl w.heap.size [111] _).set B2.out (by simp) (by simp) _) (by decide)⟩
          case measure => simp [intOf]; omega
        · obtain rfl : n = y + 1 := by omega
          have B3 : Hid (Bits wr (w.heap.size + 1) (inB (acc ++ [(lo, hi)]))) := by
            have := B2.out; rw [← HX.out, ← HY.out, bit_all] at this; exact this
          have kn := next_spec g2.rd hs
          clear g2 b2 z2 B2
          obtain ⟨z, hz⟩ : ∃ z, ((nx s j').toNat : Int) = z := ⟨_, rfl⟩
          rw [hz] at kn
          have HZ := hide hz
          clear hz
          go_wp2_with fail
          refine kn.mono ?_
          rintro e w3 ⟨rfl, n3, rfl⟩
          by_cases zz : z = 93
          · subst zz
            have m : nx s j' = 93 := UInt8.toNat_inj.1 (show (nx s j').toNat = 93 by have := HZ.out; omega)
            have F : Hid (E = (j' + 1, some (acc ++ [(lo, hi)]))) := by have := D.out; rw [class_end hf jl HR.out m] at this; exact this.symm
            have jl2 : j' < s.size := lt_of_nx (by rw [m]; decide)
            have c1 := G2.out.rd.c1
            have f1 := G2.out.rd.f1
            obtain ⟨rs, hrs⟩ : ∃ rs, rs = acc ++ [(lo, hi)] := ⟨_, rfl⟩
            rw [← hrs] at B3 F
            have B4 : Hid (Bits ((wr.drewN n3).setCell ⟨rb, 1, none⟩ (.int .i64 ((j' : Int) + 1))) (w.heap.size + 1) (inB rs)) := by
              refine Bits.upd B3.out (((Upd.of_below (below_drewN (Below.refl _ _) n3) : Upd rb [60] wr (wr.drewN n3))).trans ((G2.out.drewN n3).rd.chg _)) (by decide)
            have Z4 : Hid (Zero3 ((wr.drewN n3).setCell ⟨rb, 1, none⟩ (.int .i64 ((j' : Int) + 1))) w.heap.size) := by
              refine Zero3.upd Z2.out (((Upd.of_below (below_drewN (Below.refl _ _) n3) : Upd rb [60] wr (wr.drewN n3))).trans ((G2.out.drewN n3).rd.chg _)) (by decide)
            have HI : Hid ((Tryd.prog.info? 111).map (·.size) = some (bitsA (inB rs)).toArray.size) := by show _ = _; rw [List.size_toArray, bitsA_len]; kernel_rfl
            clear D HR hrs hf hj jl
            go_upto_region 12 with (fail)
            refine abs_wp (fun W => Hid (Go1 w W rb s (j' + 1)) ∧ Hid (Zero3 W w.heap.size) ∧ Hid (Bits W (w.heap.size + 1) (inB rs))) ⟨(G2.out.drewN n3).put (j' + 1) jl2 (by omega), Z4.out, B4.out⟩ ?_
            rintro W4 ⟨G4, Z5, B5⟩
            clear Z4 B4 G2 B3 Z2 c1 f1
            go_wp2_with fail
            refine wp_load_row 111 (.tmp 4) rfl (w.heap.size + 1) rfl 111 (bitsA (inB rs)).toArray (0, 0) _ B5.out Tryd.underlying111 rfl HI.out ?_
            go_wp2_with fail
            go_loopw [9, 41] (fun tv k w5 => ∃ n : Nat, n ≤ 128 ∧ k = .int .i64 (n : Int) ∧ Hid (w5.ownsRow w.heap.size 5 1 tv (txtN rs n).length (rowB (txtN rs n))) ∧ Hid (Go1 w w5 rb s (j' + 1)) ∧ Hid (Zero3 w5 w.heap.size)) (fun _ k _ => 128 - (intOf k).toNat)
            case atStart => exact ⟨0, by omega, rfl, World.ownsRow_nil _ _ _ _, G4.out, Z5.out⟩
            case round =>
              obtain ⟨n, hn, rfl, O5, G5, Z6⟩ := hrel
              by_cases hlt : n < 128
              · have ib := idx_bits (inB rs) n hlt
                cases hq : inB rs n
                · rw [hq] at ib
                  have O6 : Hid (wr.ownsRow w.heap.size 5 1 u9 (txtN rs (n + 1)).length (rowB (txtN rs (n + 1)))) := by rw [txtN_no rs n hq]; exact O5.out
                  clear hq
                  go_wp2_with fail
                  go_roundw
                  case rel => exact ⟨n + 1, by omega, by go_num, O6, G5, Z6⟩
                  case measure => simp [intOf]; omega
                · rw [hq] at ib
                  have TY := hide (txtN_yes rs n hq)
                  have tl := txtN_len rs n
                  have c3 : (txtN rs n).length + 1 ≤ maxLen := by unfold maxLen; omega
                  have e8 : ((UInt8.ofNat n).toNat : Int) = (n : Int) := by rw [UInt8.toNat_ofNat']; omega
                  have E8 := hide e8
                  have sz5 := G5.out.upd.size
                  obtain ⟨i0, hi0, hz0, hz1, hz2⟩ := info_parts info_byte
                  have HI2 : Hid (Tryd.prog.info? 5 = some i0 ∧ i0.zero = some (.int .u8 0) ∧ i0.size = 1 ∧ i0.bytes = 1) := ⟨hi0, hz0, hz1, hz2⟩
                  clear hi0 hz0 hz1 hz2 hq e8
                  go_wp2_with (
                    at_builtin
                    refine wpList_append_own _ rfl _ _ 54 rfl w.heap.size 5 i0 (.int .u8 0) 1 1 Tryd.underlying54 HI2.out.1 HI2.out.2.1 HI2.out.2.2.1 HI2.out.2.2.2 ?a1 ?a2 u9 (txtN rs n).length (rowB (txtN rs n)) ?a3 ?a4 ⟨wr.heap.size, 0, none⟩ 1 1 [.int .u8 (n : Int)] ?a5 ?a6 ?a7 ?a8 ?a9 ?b1 ?b2 ?_
                    case a1 => rfl
                    case a2 => decide
                    case a3 => rfl
                    case a4 => exact O5.out.alloc _
                    case a5 => rfl
                    case a6 => rfl
                    case a7 => exact cell_one_new _ _ _
                    case a8 => exact one_byt
                    case a9 => exact c3
                    case b1 => omega
                    case b2 => (simp; omega)
                    intro v' w1 hown' hgrow hnil)
                  go_roundw
                  case rel => exact ⟨n + 1, by omega, by go_num, hide (by
                    rw [TY.out, List.length_append, rowB_app]
                    have : rowB [UInt8.ofNat n] = [.int .u8 (n : Int)] := by show [Value.int .u8 ((UInt8.ofNat n).toNat : Int)] = _; rw [E8.out]
                    rw [this]; exact hown'), hide ((G5.out.later ((Below.refl _ _).alloc (Nat.le_refl _) _)).grown_new lr hgrow (fun k hk => (O5.out.lt k hk).1)), hide (Zero3.upd Z6.out ((Upd.of_below ((Below.refl _ _).alloc (Nat.le_refl _) _)).trans (Upd.of_grown (O5.out.alloc _) hgrow)) (by decide))⟩
                  case measure => simp [intOf]; omega
              · obtain rfl : n = 128 := by omega
                have cv := conv_own O5.out
                obtain ⟨z0, z1, z2, zf, zl⟩ := Z6.out.cells
                have zf0 := zf 0
                have zf1 := zf 1
                have zf2 := zf 2
                clear zf
                go_wp2_with fail
                refine bodyPost_ret (by simp [results, Tryd.results78, go_sem, z0, z1, z2]; try rfl) rfl ?_
                exact HP.out _ _ (by rw [F.out]; rfl) (by rw [F.out]; exact ((G5.out.set_new lr (by simp) _).set_new lr (by simp) _).set_new lr (by simp) _)
          · have n93 : (z == 93) = false := by rw [beq_eq_false_iff_ne]; exact zz
            have m : nx s j' ≠ 93 := fun q => zz (by have := HZ.out; rw [q] at this; exact this.symm)
            obtain ⟨f', hf', hst⟩ := class_step hf jl HR.out m
            have D2 : Hid (classA s f' j' (acc ++ [(lo, hi)]) = E) := by have := D.out; rw [hst] at this; exact this
            clear D m hst HR zz
            go_wp2_with fail
            go_roundg (s.size - j')
            case measure => omega
            case rel => exact ⟨j', f', acc ++ [(lo, hi)], by omega, hf', G2.out.drewN _, B3.out, Z2.out, D2⟩
end Go.Proofs.YteahbdhhcfoiiaaDoor
/- name: the reference's class. -/
namespace Go.Proofs.YteahbdhhcfoiiaaDoor
set_option linter.unusedVariables false
set_option linter.unusedSimpArgs false
open Go.RowKit W
theorem Ge.set_new {a b : World} {rb i : Nat} {s : ByteArray} {d : Int} (h : Ge a b rb s i d) (l : rb < a.heap.size) {p : Addr} (hp : a.heap.size ≤ p.block) (u : Value) : Ge a (b.setCell p u) rb s i d :=
  ⟨⟨(Below.heap_setCell b p u rb (by omega)).trans h.rd.blk, h.rd.le⟩, h.upd.set_new hp u⟩
theorem Ge.grown_new {a b c : World} {rb i : Nat} {s : ByteArray} {d : Int} {row : Option Nat} (h : Ge a b rb s i d) (l : rb < a.heap.size) (g : b.grownBy c row) (hr : ∀ k, row = some k → a.heap.size ≤ k) : Ge a c rb s i d :=
  ⟨⟨(g.block rb h.rd.lt (fun e => by have := hr rb e.symm; omega)).trans h.rd.blk, h.rd.le⟩, h.upd.grown_new g hr⟩
theorem sort_zero (x : Int) : sortI x = 0 ↔ famI x = 0 := by unfold sortI famI; (repeat' split) <;> omega
theorem sort_eq (x y : Int) : sortI x = sortI y ↔ famI x = famI y := by unfold sortI famI; (repeat' split) <;> omega
theorem cB_small {c : UInt8} (h : cB c = true) : c.toNat < 128 := by
  revert h
  unfold cB clsI famI; simp only [Bool.or_eq_true, decide_eq_true_eq]; (repeat split) <;> omega
theorem fam_small {x : Int} (h : famI x ≠ 0) : 0 ≤ x ∧ x < 128 := by
  revert h
  unfold famI; (repeat split) <;> omega
theorem bit_one (acc : List (UInt8 × UInt8)) (c : UInt8) (q : Nat) : inB (acc ++ [(c, c)]) q = (inB acc q || decide (q = c.toNat)) := by
  unfold inB
  rw [List.any_append]
  congr 1
  simp only [List.any_cons, List.any_nil, Bool.or_false]
  rw [Bool.eq_iff_iff]; simp only [Bool.and_eq_true, decide_eq_true_eq]; omega
theorem bit_two (acc : List (UInt8 × UInt8)) (lo hi : UInt8) (h : lo.toNat ≤ hi.toNat) : (fun i => (inB acc i || decide (i = lo.toNat)) || (decide (lo.toNat ≤ i) && decide (i < hi.toNat + 1))) = inB (acc ++ [(lo, hi)]) := by
  rw [← bit_all]
  funext i
  rw [Bool.eq_iff_iff]; simp only [Bool.or_eq_true, Bool.and_eq_true, decide_eq_true_eq]
  constructor
  · rintro ((h1 | h1) | h1)
    · exact .inl h1
    · exact .inr (by omega)
    · exact .inr h1
  · rintro (h1 | h1)
    · exact .inl (.inl h1)
    · exact .inr h1
def headA (s : ByteArray) (fb : Bool) (j f : Nat) (acc : List (UInt8 × UInt8)) : Nat × Option (List (UInt8 × UInt8)) := if fb = false ∧ nx s j = 93 then (j + 1, some acc) else classA s f j acc
theorem headA_go {s : ByteArray} {j f : Nat} {acc : List (UInt8 × UInt8)} (n : nx s j ≠ 93) : headA s false j f acc = classA s f j acc := by unfold headA; rw [if_neg (fun q => n q.2)]
theorem headA_end {s : ByteArray} {j f : Nat} {acc : List (UInt8 × UInt8)} (n : nx s j = 93) : headA s false j f acc = (j + 1, some acc) := by unfold headA; rw [if_pos ⟨rfl, n⟩]
theorem headA_first {s : ByteArray} {j f : Nat} {acc : List (UInt8 × UInt8)} : headA s true j f acc = classA s f j acc := by unfold headA; rw [if_neg (fun q => by cases q.1)]
theorem head_next {s : ByteArray} {f i j : Nat} {acc : List (UInt8 × UInt8)} {r : UInt8 × UInt8} (hf : s.size < f + i) (hi : i ≤ s.size) (e : itemA s i = (j, some r)) :
    ∃ g, s.size < g + j ∧ classA s f i acc = headA s false j g (acc ++ [r]) := by
  by_cases n : nx s j = 93
  · have := (item_pos e).1
    exact ⟨s.size, by omega, by rw [class_end hf hi e n, headA_end n]⟩
  · obtain ⟨g, hg, h⟩ := class_step (acc := acc) hf hi e n
    exact ⟨g, hg, by rw [h, headA_go n]⟩
def clsS : Option (List (UInt8 × UInt8)) → ByteArray
  | none => ⟨#[]⟩
  | some rs => ⟨(clsT rs).toArray⟩
def clsD : Option (List (UInt8 × UInt8)) → Int
  | none => 31
  | some _ => 0
def ClassE (w : World) (rb i : Nat) (s : ByteArray) (e : Ending) (w' : World) : Prop := e = .returned (.string (clsS (classA s (s.size + 1) i []).2)) ∧ Ge w w' rb s (classA s (s.size + 1) i []).1 (clsD (classA s (s.size + 1) i []).2)
set_option maxRecDepth 100000 in
set_option maxHeartbeats 16000000 in
theorem eclass_spec {w : World} {rb i : Nat} {s : ByteArray} (h : Re w rb s i 0) (hs : s.size ≤ 400) : Calls Tryd.prog 82 #[.pointer (some ⟨rb, 0, none⟩)] w (ClassE w rb i s) := by
  obtain ⟨E, hE⟩ : ∃ E, classA s (s.size + 1) i [] = E := ⟨_, rfl⟩
  have HP : Hid (∀ e w', e = .returned (.string (clsS E.2)) → Ge w w' rb s E.1 (clsD E.2) → ClassE w rb i s e w') := by
    intro e w' h1 h2; unfold ClassE; rw [hE]; exact ⟨h1, h2⟩
  have HE := hide hE
  clear hE
  have HS := hide hs
  have H := hide h
  have le := h.le
  have lr := h.lt
  clear h
  go_enter Tryd.func82, Tryd.ntmps82
  go_wp2_with fail
  go_loopg [4] (s.size - i) (fun k fv wr => ∃ (j f : Nat) (acc : List (UInt8 × UInt8)) (fb : Bool), fv = .bool fb ∧ j + k = s.size ∧ s.size < f + j ∧ Hid (Ge w wr rb s j 0) ∧ Hid (Bits wr w.heap.size (inB acc)) ∧ Hid (headA s fb j f acc = E))
  case atStart =>
    refine ⟨i, s.size + 1, [], true, rfl, by omega, by omega, hide ((Ge.refl H.out).later ((Below.refl _ _).alloc (Nat.le_refl _) _)), ?_, hide (by rw [headA_first]; exact HE.out)⟩
    show Bits _ _ _
    unfold Bits
    rw [show (bitsA (inB [])).toArray = Tryd.zeroCells111 by kernel_rfl]
    exact heap_alloc_new _ _
  case round =>
    obtain ⟨j, f, acc, fb, rfl, hj, hf, G, B, D⟩ := hrel
    have c0 := G.out.rd.c0
    have c1 := G.out.rd.c1
    have c2 := G.out.rd.c2
    have lb := blk_lt B.out
    clear H HE
    cases fb
    · have km := fun t h => more_spec G.out.rd hs 93 (by decide) t h
      cases hb : isB s j 93
      · have D1 : Hid (classA s f j acc = E) := by
          have := D.out
          rw [headA_go (fun q => by unfold isB at hb; rw [q] at hb; exact absurd hb (by decide))] at this
          exact this
        have km1 := km _ hb
        clear hb D km
        go_upto_region 5 with (go_at_call 105; refine Calls.mono km1 ?_; rintro e w1 ⟨rfl, n1, rfl⟩)
        refine abs_wp (fun W => Hid (Ge w W rb s j 0) ∧ Hid (Bits W w.heap.size (inB acc))) ⟨G.out.drewN _, B.out⟩ ?_
        rintro W ⟨GW, BW⟩
        clear km1 c0 c1 c2 lb G B
        have c0 := GW.out.rd.c0
        have c1 := GW.out.rd.c1
        have jl := GW.out.rd.le
        have kf := fun n => fail_spec (GW.out.drewN n).rd 31
        by_cases hlt : j < s.size
        · have e0 : (nx s j).toNat = s[j].toNat := by rw [nx_lt hlt]
          have d1 : decide ((s.size : Int) ≤ (j : Int)) = false := by rw [decide_eq_false_iff_not]; omega
          cases hb : cB (nx s j)
          · have kc := rclb_at s j false hb
            rw [e0] at kc
            have F : Hid (E = (j, none)) := by
              have := D1.out
              rw [class_bad (j := j) hf jl (by unfold itemA; simp only; rw [hb]; rfl)] at this
              exact this.symm
            clear hb D1 e0
            go_wp2_with fail
            go_quiet ((go_at_call 87; exact quiet_calc (kc _)))
            go_wp2_with (go_at_call 63; refine Calls.mono (kf _) ?_; rintro e w2 ⟨rfl, g2⟩; have G2 := hide g2; clear g2)
            go_returns
            exact HP.out _ _ (by rw [F.out]; rfl) (by rw [F.out]; exact (GW.out.drewN _).trans G2.out)
          · have kc := rclb_at s j true hb
            rw [e0] at kc
            have x7 := cB_small hb
            obtain ⟨x, hx⟩ : ∃ x, (nx s j).toNat = x := ⟨_, rfl⟩
            have HX := hide hx
            have HB := hide hb
            have ex : s[j].toNat = x := by rw [← e0]; exact hx
            rw [ex] at kc
            rw [hx] at x7
            have bt := BW.out.at x x7
            have bf := BW.out.free x
            have lb := blk_lt BW.out
            have f1 := GW.out.rd.f1
            clear hb e0 hx kf
            go_wp2_with fail
            go_quiet ((go_at_call 87; exact quiet_calc (kc _)))
            go_wp2_with fail
            go_quiet (fail)
            go_upto_region 11 with (fail)
            refine abs_wp (fun W2 => Hid (Ge w W2 rb s (j + 1) 0) ∧ Hid (Bits W2 w.heap.size (fun q => inB acc q || decide (q = x)))) ⟨?_, ?_⟩ ?_
            · exact hide (((GW.out.drewN _).set_new lr (p := ⟨w.heap.size, x, none⟩) (Nat.le_refl _) _).put (x := (j : Int) + 1) (j + 1) hlt (by omega))
            · exact hide (Bits.upd (Bits.put (show Bits (W.drewN _) w.heap.size (inB acc) from BW.out) x x7 (fun q _ => rfl)) (Re.chg ((GW.out.drewN _).set_new lr (p := ⟨w.heap.size, x, none⟩) (Nat.le_refl _) _).rd _ _) (by decide))
            rintro W2 ⟨G2, B2⟩
            clear c0 c1 bt bf lb f1 kc
            have km := fun t h => more_spec G2.out.rd hs 45 (by decide) t h
            cases hm : isB s (j + 1) 45
            · have km1 := km _ hm
              have m : nx s (j + 1) ≠ 45 := fun q => by unfold isB at hm; rw [q] at hm; exact absurd hm (by decide)
              have it : itemA s j = (j + 1, some (nx s j, nx s j)) := by unfold itemA; simp only; rw [HB.out, if_pos rfl, if_neg m]
              have B3 : Hid (Bits W2 w.heap.size (inB (acc ++ [(nx s j, nx s j)]))) := by
                show Bits _ _ _
                rw [show inB (acc ++ [(nx s j, nx s j)]) = (fun q => inB acc q || decide (q = x)) from funext fun q => by rw [bit_one, HX.out]]
                exact B2.out
              obtain ⟨f', hf', D2⟩ : ∃ f', s.size < f' + (j + 1) ∧ Hid (headA s false (j + 1) f' (acc ++ [(nx s j, nx s j)]) = E) := by
                obtain ⟨g, hg, h⟩ := head_next (acc := acc) hf jl it
                exact ⟨g, hg, hide (by rw [← h]; exact D1.out)⟩
              clear hm m it D1 km
              go_wp2_with (go_at_call 105; refine Calls.mono km1 ?_; rintro e w3 ⟨rfl, n3, rfl⟩)
              go_roundg (gk - 1)
              case measure => omega
              case rel => exact ⟨j + 1, f', _, false, rfl, by omega, hf', hide (G2.out.drewN _), hide (show Bits _ _ _ from B3.out), D2⟩
            · have km1 := km _ hm
              have m : nx s (j + 1) = 45 := UInt8.toNat_inj.1 (by unfold isB at hm; simpa using hm)
              have l1 : j + 1 < s.size := lt_of_nx (by rw [m]; decide)
              have ks := fun w => rsort_spec (x : Int) (by omega) (by omega) w
              have xx : famI (x : Int) = fB (nx s j) := by unfold fB; rw [HX.out]
              obtain ⟨v, hv⟩ : ∃ v, sortI (x : Int) = v := ⟨_, rfl⟩
              rw [hv] at ks
              have HV := hide hv
              have HM := hide m
              have XX := hide xx
              have c1 := G2.out.rd.c1
              have f1 := G2.out.rd.f1
              have kf := fun n => fail_spec (G2.out.drewN n).rd 31
              clear hm m hv km xx
              by_cases v0 : v = 0
              · have F : Hid (E = (j + 1, none)) := by
                  have := D1.out
                  rw [class_bad (j := j + 1) hf jl (by unfold itemA; simp only; rw [HB.out, if_pos rfl, HM.out, if_pos rfl, if_pos (by rw [← XX.out, ← sort_zero, HV.out, v0])])] at this
                  exact this.symm
                subst v0
                clear D1
                go_wp2_with (first | (go_at_call 105; refine Calls.mono km1 ?_; rintro e w3 ⟨rfl, n3, rfl⟩) | (go_at_call 59; refine (ks _).mono ?_; rintro e w4 ⟨rfl, rfl⟩) | (go_at_call 63; refine Calls.mono (kf _) ?_; rintro e w5 ⟨rfl, g5⟩; have G5 := hide g5; clear g5))
                go_returns
                exact HP.out _ _ (by rw [F.out]; rfl) (by rw [F.out]; exact (G2.out.drewN _).trans G5.out)
              · have v1 : (v == 0) = false := by rw [beq_eq_false_iff_ne]; exact v0
                go_upto_region 16 with (first | (go_at_call 105; refine Calls.mono km1 ?_; rintro e w3 ⟨rfl, n3, rfl⟩) | (go_at_call 59; refine (ks _).mono ?_; rintro e w4 ⟨rfl, rfl⟩))
                obtain ⟨p, hp⟩ : ∃ p, p = j + 2 := ⟨_, rfl⟩
                refine abs_wp (fun W3 => Hid (Ge w W3 rb s p 0) ∧ Hid (Bits W3 w.heap.size (fun q => inB acc q || decide (q = x)))) ⟨hide ((G2.out.drewN _).put (x := (j : Int) + 1 + 1) p (by omega) (by omega)), hide (Bits.upd (show Bits (W2.drewN _) w.heap.size _ from B2.out) ((G2.out.drewN _).rd.chg _ _) (by decide))⟩ ?_
                rintro W3 ⟨G3, B3⟩
                have HPp := hide hp
                have jp : j < p := by omega
                have pe : j + 2 = p := hp.symm
                clear km1 kf c1 f1 G2 B2
                have c0 := G3.out.rd.c0
                have c1 := G3.out.rd.c1
                have f1 := G3.out.rd.f1
                have kf := fun n => fail_spec (G3.out.drewN n).rd 31
                have FB : Hid (∀ (q : ¬ (fB (nx s p) = fB (nx s j) ∧ nx s j ≤ nx s p)), E = (p, none)) := by
                  intro q
                  have := D1.out
                  rw [class_bad (j := p) hf jl (by unfold itemA; simp only; rw [HB.out, if_pos rfl, HM.out, if_pos rfl, pe, if_neg (by rw [← XX.out, ← sort_zero, HV.out]; exact v0), if_neg q])] at this
                  exact this.symm
                clear hp pe
                by_cases l2 : p < s.size
                · have d2 : decide (s.size ≤ p) = false := by rw [decide_eq_false_iff_not]; omega
                  have e2 : (nx s p).toNat = s[p].toNat := by rw [nx_lt l2]
                  obtain ⟨y, hy⟩ : ∃ y, s[p].toNat = y := ⟨_, rfl⟩
                  have y7 : y < 256 := by rw [← hy]; exact UInt8.toNat_lt _
                  have YY : Hid ((nx s p).toNat = y) := by show _ = _; rw [e2, hy]
                  have YF : Hid (famI (y : Int) = fB (nx s p)) := by show _ = _; unfold fB; rw [YY.out]
                  clear e2 ks
                  by_cases uv : sortI (y : Int) = sortI (x : Int)
                  · have uv1 : (sortI (y : Int) != sortI (x : Int)) = false := by rw [uv]; simp
                    by_cases xy : x ≤ y
                    · have xy1 : decide (y < x) = false := by rw [decide_eq_false_iff_not]; omega
                      have xy2 : decide ((y : Int) < (x : Int)) = false := by rw [decide_eq_false_iff_not]; omega
                      have it : itemA s j = (j + 3, some (nx s j, nx s p)) := by
                        unfold itemA; simp only
                        rw [HB.out, if_pos rfl, HM.out, if_pos rfl, show j + 2 = p from HPp.out.symm, if_neg (by rw [← XX.out, ← sort_zero, HV.out]; exact v0), if_pos ⟨by rw [← XX.out, ← YF.out, ← sort_eq]; exact uv, by rw [UInt8.le_iff_toNat_le, HX.out, YY.out]; exact xy⟩]
                      have y8 : y < 128 := by
                        have : famI (y : Int) ≠ 0 := fun q => v0 (by rw [← HV.out, ← uv]; exact (sort_zero _).2 q)
                        have := fam_small this
                        omega
                      obtain ⟨f', hf', D2⟩ : ∃ f', s.size < f' + (j + 3) ∧ Hid (headA s false (j + 3) f' (acc ++ [(nx s j, nx s p)]) = E) := by
                        obtain ⟨g, hg, h⟩ := head_next (acc := acc) hf jl it
                        exact ⟨g, hg, hide (by rw [← h]; exact D1.out)⟩
                      clear it D1 kf FB uv
                      go_wp2_with fail
                      go_quiet ((go_at_call 59; exact quiet_calc (rsort_spec _ (by omega) (by omega) _)))
                      go_wp2_with fail
                      clear c0 c1 f1 xy1 xy2 uv1
                      go_loopw [6] (fun b w6 => ∃ n : Nat, x ≤ n ∧ n ≤ y + 1 ∧ b = .int .i64 (n : Int) ∧ Hid (Ge w w6 rb s p 0) ∧ Hid (Bits w6 w.heap.size (fun q => (inB acc q || decide (q = x)) || (decide (x ≤ q) && decide (q < n))))) (fun b _ => y + 1 - (intOf b).toNat)
                      case atStart => exact ⟨x, by omega, by omega, rfl, hide (G3.out.drewN _), hide (by rw [bit_none (fun q => inB acc q || decide (q = x)) x]; exact B3.out)⟩
                      case round =>
                        obtain ⟨n, n1, n2, rfl, G6, B6⟩ := hrel
                        have c0 := G6.out.rd.c0
                        have c1 := G6.out.rd.c1
                        by_cases hn : n ≤ y
                        · have bt := B6.out.at n (by omega)
                          have bf := B6.out.free n
                          have lb := blk_lt B6.out
                          go_wp2_with fail
                          go_quiet (fail)
                          go_wp2_with fail
                          go_roundw
                          case rel => exact ⟨n + 1, by omega, by omega, by go_num, hide ((G6.out.drewN _).set_new lr (Nat.le_refl _) _), hide ((show Bits (wr.drewN _) w.heap.size _ from B6.out).put n (by omega) (fun q _ => bit_step (fun q => inB acc q || decide (q = x)) x n q n1))⟩
                          case measure => simp [intOf]; omega
                        · obtain rfl : n = y + 1 := by omega
                          have f1 := G6.out.rd.f1
                          have B7 : Hid (Bits wr w.heap.size (inB (acc ++ [(nx s j, nx s p)]))) := by
                            show Bits _ _ _
                            rw [← bit_two _ _ _ (by rw [HX.out, YY.out]; exact xy), HX.out, YY.out]
                            exact B6.out
                          go_wp2_with fail
                          go_quiet (fail)
                          go_wp2_with fail
                          go_roundg (gk - 3)
                          case measure => have := HPp.out; omega
                          case rel => exact ⟨j + 3, f', _, false, rfl, by have := HPp.out; omega, hf', hide ((G6.out.drewN _).put (x := (p : Int) + 1) (j + 3) (by have := HPp.out; omega) (by have := HPp.out; omega)), hide (Bits.upd (show Bits (wr.drewN _) w.heap.size _ from B7.out) ((G6.out.drewN _).rd.chg _ _) (by decide)), D2⟩
                    · have xy1 : decide (y < x) = true := by rw [decide_eq_true_eq]; omega
                      have xy2 : decide ((y : Int) < (x : Int)) = true := by rw [decide_eq_true_eq]; omega
                      have F : Hid (E = (p, none)) := FB.out (fun q => xy (by have := q.2; rw [UInt8.le_iff_toNat_le, HX.out, YY.out] at this; exact this))
                      clear D1 FB uv
                      go_wp2_with fail
                      go_quiet ((go_at_call 59; exact quiet_calc (rsort_spec _ (by omega) (by omega) _)))
                      go_wp2_with (go_at_call 63; refine Calls.mono (kf _) ?_; rintro e w5 ⟨rfl, g5⟩; have G5 := hide g5; clear g5)
                      go_returns
                      exact HP.out _ _ (by rw [F.out]; rfl) (by rw [F.out]; exact (G3.out.drewN _).trans G5.out)
                  · have uv1 : (sortI (y : Int) != sortI (x : Int)) = true := by rw [bne_iff_ne]; exact uv
                    have F : Hid (E = (p, none)) := FB.out (fun q => uv (by rw [sort_eq, XX.out, YF.out]; exact q.1))
                    clear D1 FB uv
                    go_wp2_with fail
                    go_quiet ((go_at_call 59; exact quiet_calc (rsort_spec _ (by omega) (by omega) _)))
                    go_wp2_with (go_at_call 63; refine Calls.mono (kf _) ?_; rintro e w5 ⟨rfl, g5⟩; have G5 := hide g5; clear g5)
                    go_returns
                    exact HP.out _ _ (by rw [F.out]; rfl) (by rw [F.out]; exact (G3.out.drewN _).trans G5.out)
                · have d2 : decide (s.size ≤ p) = true := by rw [decide_eq_true_eq]; omega
                  have F : Hid (E = (p, none)) := FB.out (fun q => by
                    have := q.1
                    rw [nx_ge (by omega), fB0, ← XX.out] at this
                    exact v0 (by rw [← HV.out, sort_zero]; exact this.symm))
                  clear D1 FB
                  go_wp2_with fail
                  go_quiet (fail)
                  go_wp2_with (go_at_call 63; refine Calls.mono (kf _) ?_; rintro e w5 ⟨rfl, g5⟩; have G5 := hide g5; clear g5)
                  go_returns
                  exact HP.out _ _ (by rw [F.out]; rfl) (by rw [F.out]; exact (G3.out.drewN _).trans G5.out)
        · have d1 : decide ((s.size : Int) ≤ (j : Int)) = true := by rw [decide_eq_true_eq]; omega
          have F : Hid (E = (j, none)) := by
            have := D1.out
            rw [class_bad (j := j) hf jl (by unfold itemA; simp only; rw [nx_ge (by omega), cB0]; rfl)] at this
            exact this.symm
          clear D1
          go_wp2_with fail
          go_quiet (fail)
          go_wp2_with (go_at_call 63; refine Calls.mono (kf _) ?_; rintro e w2 ⟨rfl, g2⟩; have G2 := hide g2; clear g2)
          go_returns
          exact HP.out _ _ (by rw [F.out]; rfl) (by rw [F.out]; exact (GW.out.drewN _).trans G2.out)
      · have m : nx s j = 93 := UInt8.toNat_inj.1 (by unfold isB at hb; simpa using hb)
        have F : Hid (E = (j + 1, some acc)) := by
          have := D.out
          rw [headA_end m] at this
          exact this.symm
        have jl : j < s.size := lt_of_nx (by rw [m]; decide)
        have km1 := km _ hb
        have f1 := G.out.rd.f1
        clear hb D km m
        go_upto_region 25 with (go_at_call 105; refine Calls.mono km1 ?_; rintro e w1 ⟨rfl, n1, rfl⟩)
        have B2 : Hid (Bits ((wr.drewN n1).setCell ⟨rb, 1, none⟩ (.int .i64 ((j : Int) + 1))) w.heap.size (inB acc)) := Bits.upd B.out (((Upd.of_below (below_drewN (Below.refl _ _) n1) : Upd rb [89] wr (wr.drewN n1))).trans ((G.out.drewN n1).rd.chg _ _)) (by decide)
        refine abs_wp (fun W => Hid (Ge w W rb s (j + 1) 0) ∧ Hid (Bits W w.heap.size (inB acc))) ⟨(G.out.drewN _).put (j + 1) jl (by omega), B2.out⟩ ?_
        rintro W ⟨GW, BW⟩
        clear km1 c0 c1 c2 lb G B B2 f1
        go_wp2_with fail
        go_loopw [7, 8] (fun tv k w5 => ∃ n : Nat, n ≤ 128 ∧ k = .int .i64 (n : Int) ∧ Hid (w5.ownsRow W.heap.size 5 1 tv (txtN acc n).length (rowB (txtN acc n))) ∧ Hid (Below W.heap.size W w5)) (fun _ k _ => 128 - (intOf k).toNat)
        case atStart => exact ⟨0, by omega, rfl, World.ownsRow_nil _ _ _ _, hide (Below.refl _ _)⟩
        case round =>
          obtain ⟨n, hn, rfl, O5, L5⟩ := hrel
          have zl := L5.out.size
          have zb := blk_lt BW.out
          have B5 : Hid (Bits wr w.heap.size (inB acc)) := (L5.out.block _ zb).trans BW.out
          by_cases hlt : n < 128
          · have bt := B5.out.at n hlt
            have lb5 := blk_lt B5.out
            cases hq : inB acc n
            · rw [hq] at bt
              have O6 : Hid (wr.ownsRow W.heap.size 5 1 u7 (txtN acc (n + 1)).length (rowB (txtN acc (n + 1)))) := by rw [txtN_no acc n hq]; exact O5.out
              clear hq
              go_wp2_with fail
              go_roundw
              case rel => exact ⟨n + 1, by omega, by go_num, O6, L5⟩
              case measure => simp [intOf]; omega
            · rw [hq] at bt
              have TY := hide (txtN_yes acc n hq)
              have tl := txtN_len acc n
              have c3 : (txtN acc n).length + 1 ≤ maxLen := by unfold maxLen; omega
              have e8 : ((UInt8.ofNat n).toNat : Int) = (n : Int) := by rw [UInt8.toNat_ofNat']; omega
              have E8 := hide e8
              obtain ⟨i0, hi0, hz0, hz1, hz2⟩ := info_parts info_byte
              have HI2 : Hid (Tryd.prog.info? 5 = some i0 ∧ i0.zero = some (.int .u8 0) ∧ i0.size = 1 ∧ i0.bytes = 1) := ⟨hi0, hz0, hz1, hz2⟩
              clear hi0 hz0 hz1 hz2 hq e8
              go_wp2_with (
                at_builtin
                refine wpList_append_own _ rfl _ _ 54 rfl W.heap.size 5 i0 (.int .u8 0) 1 1 Tryd.underlying54 HI2.out.1 HI2.out.2.1 HI2.out.2.2.1 HI2.out.2.2.2 ?a1 ?a2 u7 (txtN acc n).length (rowB (txtN acc n)) ?a3 ?a4 ⟨wr.heap.size, 0, none⟩ 1 1 [.int .u8 (n : Int)] ?a5 ?a6 ?a7 ?a8 ?a9 ?b1 ?b2 ?_
                case a1 => rfl
                case a2 => decide
                case a3 => rfl
                case a4 => exact O5.out.alloc _
                case a5 => rfl
                case a6 => rfl
                case a7 => exact cell_one_new _ _ _
                case a8 => exact one_byt
                case a9 => exact c3
                case b1 => omega
                case b2 => (simp; omega)
                intro v' w1 hown' hgrow hnil)
              go_roundw
              case rel => exact ⟨n + 1, by omega, by go_num, hide (by
                rw [TY.out, List.length_append, rowB_app]
                have : rowB [UInt8.ofNat n] = [.int .u8 (n : Int)] := by show [Value.int .u8 ((UInt8.ofNat n).toNat : Int)] = _; rw [E8.out]
                rw [this]; exact hown'), hide (Below.grown (L5.out.alloc zl _) hgrow (by simp; omega) (fun k hk => (O5.out.lt k hk).1))⟩
              case measure => simp [intOf]; omega
          · obtain rfl : n = 128 := by omega
            have cv := conv_own O5.out
            go_wp2_with fail
            go_returns
            exact HP.out _ _ (by rw [F.out]; rfl) (by rw [F.out]; exact GW.out.later L5.out)
    · have D1 : Hid (classA s f j acc = E) := by have := D.out; rw [headA_first] at this; exact this
      clear D
      go_upto_region 5 with (fail)
      refine abs_wp (fun W => Hid (Ge w W rb s j 0) ∧ Hid (Bits W w.heap.size (inB acc))) ⟨G.out, B.out⟩ ?_
      rintro W ⟨GW, BW⟩
      clear c0 c1 c2 lb G B
      have c0 := GW.out.rd.c0
      have c1 := GW.out.rd.c1
      have jl := GW.out.rd.le
      have kf := fun n => fail_spec (GW.out.drewN n).rd 31
      by_cases hlt : j < s.size
      · have e0 : (nx s j).toNat = s[j].toNat := by rw [nx_lt hlt]
        have d1 : decide ((s.size : Int) ≤ (j : Int)) = false := by rw [decide_eq_false_iff_not]; omega
        cases hb : cB (nx s j)
        · have kc := rclb_at s j false hb
          rw [e0] at kc
          have F : Hid (E = (j, none)) := by
            have := D1.out
            rw [class_bad (j := j) hf jl (by unfold itemA; simp only; rw [hb]; rfl)] at this
            exact this.symm
          clear hb D1 e0
          go_wp2_with fail
          go_quiet ((go_at_call 87; exact quiet_calc (kc _)))
          go_wp2_with (go_at_call 63; refine Calls.mono (kf _) ?_; rintro e w2 ⟨rfl, g2⟩; have G2 := hide g2; clear g2)
          go_returns
          exact HP.out _ _ (by rw [F.out]; rfl) (by rw [F.out]; exact (GW.out.drewN _).trans G2.out)
        · have kc := rclb_at s j true hb
          rw [e0] at kc
          have x7 := cB_small hb
          obtain ⟨x, hx⟩ : ∃ x, (nx s j).toNat = x := ⟨_, rfl⟩
          have HX := hide hx
          have HB := hide hb
          have ex : s[j].toNat = x := by rw [← e0]; exact hx
          rw [ex] at kc
          rw [hx] at x7
          have bt := BW.out.at x x7
          have bf := BW.out.free x
          have lb := blk_lt BW.out
          have f1 := GW.out.rd.f1
          clear hb e0 hx kf
          go_wp2_with fail
          go_quiet ((go_at_call 87; exact quiet_calc (kc _)))
          go_wp2_with fail
          go_quiet (fail)
          go_upto_region 11 with (fail)
          refine abs_wp (fun W2 => Hid (Ge w W2 rb s (j + 1) 0) ∧ Hid (Bits W2 w.heap.size (fun q => inB acc q || decide (q = x)))) ⟨?_, ?_⟩ ?_
          · exact hide (((GW.out.drewN _).set_new lr (p := ⟨w.heap.size, x, none⟩) (Nat.le_refl _) _).put (x := (j : Int) + 1) (j + 1) hlt (by omega))
          · exact hide (Bits.upd (Bits.put (show Bits (W.drewN _) w.heap.size (inB acc) from BW.out) x x7 (fun q _ => rfl)) (Re.chg ((GW.out.drewN _).set_new lr (p := ⟨w.heap.size, x, none⟩) (Nat.le_refl _) _).rd _ _) (by decide))
          rintro W2 ⟨G2, B2⟩
          clear c0 c1 bt bf lb f1 kc
          have km := fun t h => more_spec G2.out.rd hs 45 (by decide) t h
          cases hm : isB s (j + 1) 45
          · have km1 := km _ hm
            have m : nx s (j + 1) ≠ 45 := fun q => by unfold isB at hm; rw [q] at hm; exact absurd hm (by decide)
            have it : itemA s j = (j + 1, some (nx s j, nx s j)) := by unfold itemA; simp only; rw [HB.out, if_pos rfl, if_neg m]
            have B3 : Hid (Bits W2 w.heap.size (inB (acc ++ [(nx s j, nx s j)]))) := by
              show Bits _ _ _
              rw [show inB (acc ++ [(nx s j, nx s j)]) = (fun q => inB acc q || decide (q = x)) from funext fun q => by rw [bit_one, HX.out]]
              exact B2.out
            obtain ⟨f', hf', D2⟩ : ∃ f', s.size < f' + (j + 1) ∧ Hid (headA s false (j + 1) f' (acc ++ [(nx s j, nx s j)]) = E) := by
              obtain ⟨g, hg, h⟩ := head_next (acc := acc) hf jl it
              exact ⟨g, hg, hide (by rw [← h]; exact D1.out)⟩
            clear hm m it D1 km
            go_wp2_with (go_at_call 105; refine Calls.mono km1 ?_; rintro e w3 ⟨rfl, n3, rfl⟩)
            go_roundg (gk - 1)
            case measure => omega
            case rel => exact ⟨j + 1, f', _, false, rfl, by omega, hf', hide (G2.out.drewN _), hide (show Bits _ _ _ from B3.out), D2⟩
          · have km1 := km _ hm
            have m : nx s (j + 1) = 45 := UInt8.toNat_inj.1 (by unfold isB at hm; simpa using hm)
            have l1 : j + 1 < s.size := lt_of_nx (by rw [m]; decide)
            have ks := fun w => rsort_spec (x : Int) (by omega) (by omega) w
            have xx : famI (x : Int) = fB (nx s j) := by unfold fB; rw [HX.out]
            obtain ⟨v, hv⟩ : ∃ v, sortI (x : Int) = v := ⟨_, rfl⟩
            rw [hv] at ks
            have HV := hide hv
            have HM := hide m
            have XX := hide xx
            have c1 := G2.out.rd.c1
            have f1 := G2.out.rd.f1
            have kf := fun n => fail_spec (G2.out.drewN n).rd 31
            clear hm m hv km xx
            by_cases v0 : v = 0
            · have F : Hid (E = (j + 1, none)) := by
                have := D1.out
                rw [class_bad (j := j + 1) hf jl (by unfold itemA; simp only; rw [HB.out, if_pos rfl, HM.out, if_pos rfl, if_pos (by rw [← XX.out, ← sort_zero, HV.out, v0])])] at this
                exact this.symm
              subst v0
              clear D1
              go_wp2_with (first | (go_at_call 105; refine Calls.mono km1 ?_; rintro e w3 ⟨rfl, n3, rfl⟩) | (go_at_call 59; refine (ks _).mono ?_; rintro e w4 ⟨rfl, rfl⟩) | (go_at_call 63; refine Calls.mono (kf _) ?_; rintro e w5 ⟨rfl, g5⟩; have G5 := hide g5; clear g5))
              go_returns
              exact HP.out _ _ (by rw [F.out]; rfl) (by rw [F.out]; exact (G2.out.drewN _).trans G5.out)
            · have v1 : (v == 0) = false := by rw [beq_eq_false_iff_ne]; exact v0
              go_upto_region 16 with (first | (go_at_call 105; refine Calls.mono km1 ?_; rintro e w3 ⟨rfl, n3, rfl⟩) | (go_at_call 59; refine (ks _).mono ?_; rintro e w4 ⟨rfl, rfl⟩))
              obtain ⟨p, hp⟩ : ∃ p, p = j + 2 := ⟨_, rfl⟩
              refine abs_wp (fun W3 => Hid (Ge w W3 rb s p 0) ∧ Hid (Bits W3 w.heap.size (fun q => inB acc q || decide (q = x)))) ⟨hide ((G2.out.drewN _).put (x := (j : Int) + 1 + 1) p (by omega) (by omega)), hide (Bits.upd (show Bits (W2.drewN _) w.heap.size _ from B2.out) ((G2.out.drewN _).rd.chg _ _) (by decide))⟩ ?_
              rintro W3 ⟨G3, B3⟩
              have HPp := hide hp
              have jp : j < p := by omega
              have pe : j + 2 = p := hp.symm
              clear km1 kf c1 f1 G2 B2
              have c0 := G3.out.rd.c0
              have c1 := G3.out.rd.c1
              have f1 := G3.out.rd.f1
              have kf := fun n => fail_spec (G3.out.drewN n).rd 31
              have FB : Hid (∀ (q : ¬ (fB (nx s p) = fB (nx s j) ∧ nx s j ≤ nx s p)), E = (p, none)) := by
                intro q
                have := D1.out
                rw [class_bad (j := p) hf jl (by unfold itemA; simp only; rw [HB.out, if_pos rfl, HM.out, if_pos rfl, pe, if_neg (by rw [← XX.out, ← sort_zero, HV.out]; exact v0), if_neg q])] at this
                exact this.symm
              clear hp pe
              by_cases l2 : p < s.size
              · have d2 : decide (s.size ≤ p) = false := by rw [decide_eq_false_iff_not]; omega
                have e2 : (nx s p).toNat = s[p].toNat := by rw [nx_lt l2]
                obtain ⟨y, hy⟩ : ∃ y, s[p].toNat = y := ⟨_, rfl⟩
                have y7 : y < 256 := by rw [← hy]; exact UInt8.toNat_lt _
                have YY : Hid ((nx s p).toNat = y) := by show _ = _; rw [e2, hy]
                have YF : Hid (famI (y : Int) = fB (nx s p)) := by show _ = _; unfold fB; rw [YY.out]
                clear e2 ks
                by_cases uv : sortI (y : Int) = sortI (x : Int)
                · have uv1 : (sortI (y : Int) != sortI (x : Int)) = false := by rw [uv]; simp
                  by_cases xy : x ≤ y
                  · have xy1 : decide (y < x) = false := by rw [decide_eq_false_iff_not]; omega
                    have xy2 : decide ((y : Int) < (x : Int)) = false := by rw [decide_eq_false_iff_not]; omega
                    have it : itemA s j = (j + 3, some (nx s j, nx s p)) := by
                      unfold itemA; simp only
                      rw [HB.out, if_pos rfl, HM.out, if_pos rfl, show j + 2 = p from HPp.out.symm, if_neg (by rw [← XX.out, ← sort_zero, HV.out]; exact v0), if_pos ⟨by rw [← XX.out, ← YF.out, ← sort_eq]; exact uv, by rw [UInt8.le_iff_toNat_le, HX.out, YY.out]; exact xy⟩]
                    have y8 : y < 128 := by
                      have : famI (y : Int) ≠ 0 := fun q => v0 (by rw [← HV.out, ← uv]; exact (sort_zero _).2 q)
                      have := fam_small this
                      omega
                    obtain ⟨f', hf', D2⟩ : ∃ f', s.size < f' + (j + 3) ∧ Hid (headA s false (j + 3) f' (acc ++ [(nx s j, nx s p)]) = E) := by
                      obtain ⟨g, hg, h⟩ := head_next (acc := acc) hf jl it
                      exact ⟨g, hg, hide (by rw [← h]; exact D1.out)⟩
                    clear it D1 kf FB uv
                    go_wp2_with fail
                    go_quiet ((go_at_call 59; exact quiet_calc (rsort_spec _ (by omega) (by omega) _)))
                    go_wp2_with fail
                    clear c0 c1 f1 xy1 xy2 uv1
                    go_loopw [6] (fun b w6 => ∃ n : Nat, x ≤ n ∧ n ≤ y + 1 ∧ b = .int .i64 (n : Int) ∧ Hid (Ge w w6 rb s p 0) ∧ Hid (Bits w6 w.heap.size (fun q => (inB acc q || decide (q = x)) || (decide (x ≤ q) && decide (q < n))))) (fun b _ => y + 1 - (intOf b).toNat)
                    case atStart => exact ⟨x, by omega, by omega, rfl, hide (G3.out.drewN _), hide (by rw [bit_none (fun q => inB acc q || decide (q = x)) x]; exact B3.out)⟩
                    case round =>
                      obtain ⟨n, n1, n2, rfl, G6, B6⟩ := hrel
                      have c0 := G6.out.rd.c0
                      have c1 := G6.out.rd.c1
                      by_cases hn : n ≤ y
                      · have bt := B6.out.at n (by omega)
                        have bf := B6.out.free n
                        have lb := blk_lt B6.out
                        go_wp2_with fail
                        go_quiet (fail)
                        go_wp2_with fail
                        go_roundw
                        case rel => exact ⟨n + 1, by omega, by omega, by go_num, hide ((G6.out.drewN _).set_new lr (Nat.le_refl _) _), hide ((show Bits (wr.drewN _) w.heap.size _ from B6.out).put n (by omega) (fun q _ => bit_step (fun q => inB acc q || decide (q = x)) x n q n1))⟩
                        case measure => simp [intOf]; omega
                      · obtain rfl : n = y + 1 := by omega
                        have f1 := G6.out.rd.f1
                        have B7 : Hid (Bits wr w.heap.size (inB (acc ++ [(nx s j, nx s p)]))) := by
                          show Bits _ _ _
                          rw [← bit_two _ _ _ (by rw [HX.out, YY.out]; exact xy), HX.out, YY.out]
                          exact B6.out
                        go_wp2_with fail
                        go_quiet (fail)
                        go_wp2_with fail
                        go_roundg (gk - 3)
                        case measure => have := HPp.out; omega
                        case rel => exact ⟨j + 3, f', _, false, rfl, by have := HPp.out; omega, hf', hide ((G6.out.drewN _).put (x := (p : Int) + 1) (j + 3) (by have := HPp.out; omega) (by have := HPp.out; omega)), hide (Bits.upd (show Bits (wr.drewN _) w.heap.size _ from B7.out) ((G6.out.drewN _).rd.chg _ _) (by decide)), D2⟩
                  · have xy1 : decide (y < x) = true := by rw [decide_eq_true_eq]; omega
                    have xy2 : decide ((y : Int) < (x : Int)) = true := by rw [decide_eq_true_eq]; omega
                    have F : Hid (E = (p, none)) := FB.out (fun q => xy (by have := q.2; rw [UInt8.le_iff_toNat_le, HX.out, YY.out] at this; exact this))
                    clear D1 FB uv
                    go_wp2_with fail
                    go_quiet ((go_at_call 59; exact quiet_calc (rsort_spec _ (by omega) (by omega) _)))
                    go_wp2_with (go_at_call 63; refine Calls.mono (kf _) ?_; rintro e w5 ⟨rfl, g5⟩; have G5 := hide g5; clear g5)
                    go_returns
                    exact HP.out _ _ (by rw [F.out]; rfl) (by rw [F.out]; exact (G3.out.drewN _).trans G5.out)
                · have uv1 : (sortI (y : Int) != sortI (x : Int)) = true := by rw [bne_iff_ne]; exact uv
                  have F : Hid (E = (p, none)) := FB.out (fun q => uv (by rw [sort_eq, XX.out, YF.out]; exact q.1))
                  clear D1 FB uv
                  go_wp2_with fail
                  go_quiet ((go_at_call 59; exact quiet_calc (rsort_spec _ (by omega) (by omega) _)))
                  go_wp2_with (go_at_call 63; refine Calls.mono (kf _) ?_; rintro e w5 ⟨rfl, g5⟩; have G5 := hide g5; clear g5)
                  go_returns
                  exact HP.out _ _ (by rw [F.out]; rfl) (by rw [F.out]; exact (G3.out.drewN _).trans G5.out)
              · have d2 : decide (s.size ≤ p) = true := by rw [decide_eq_true_eq]; omega
                have F : Hid (E = (p, none)) := FB.out (fun q => by
                  have := q.1
                  rw [nx_ge (by omega), fB0, ← XX.out] at this
                  exact v0 (by rw [← HV.out, sort_zero]; exact this.symm))
                clear D1 FB
                go_wp2_with fail
                go_quiet (fail)
                go_wp2_with (go_at_call 63; refine Calls.mono (kf _) ?_; rintro e w5 ⟨rfl, g5⟩; have G5 := hide g5; clear g5)
                go_returns
                exact HP.out _ _ (by rw [F.out]; rfl) (by rw [F.out]; exact (G3.out.drewN _).trans G5.out)
      · have d1 : decide ((s.size : Int) ≤ (j : Int)) = true := by rw [decide_eq_true_eq]; omega
        have F : Hid (E = (j, none)) := by
          have := D1.out
          rw [class_bad (j := j) hf jl (by unfold itemA; simp only; rw [nx_ge (by omega), cB0]; rfl)] at this
          exact this.symm
        clear D1
        go_wp2_with fail
        go_quiet (fail)
        go_wp2_with (go_at_call 63; refine Calls.mono (kf _) ?_; rintro e w2 ⟨rfl, g2⟩; have G2 := hide g2; clear g2)
        go_returns
        exact HP.out _ _ (by rw [F.out]; rfl) (by rw [F.out]; exact (GW.out.drewN _).trans G2.out)
end Go.Proofs.YteahbdhhcfoiiaaDoor
