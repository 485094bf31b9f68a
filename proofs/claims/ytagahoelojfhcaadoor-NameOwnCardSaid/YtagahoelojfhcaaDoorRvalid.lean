/- The reference of layer 3: Sort, Byte, Bytes, Valid. -/
import Derived.Test.YtagahoelojfhcaaDoorRcut3
import Derived.Test.YtagahoelojfhcaaDoorCutl
namespace Go.Proofs.YtagahoelojfhcaaDoor
set_option linter.unusedVariables false
set_option linter.unusedSimpArgs false
open Go.RowKit W
def sortI (x : Int) : Int := if 48 ≤ x ∧ x ≤ 57 then 1 else if 65 ≤ x ∧ x ≤ 90 then 2 else if 97 ≤ x ∧ x ≤ 122 then 3 else 0
set_option maxRecDepth 100000 in
set_option maxHeartbeats 4000000 in
theorem rsort_spec (x : Int) (h0 : 0 ≤ x) (h1 : x < 256) (w : World) : CalcN 46 #[.int .u8 x] w (.int .i64 (sortI x)) := by
  go_enter Tryd.func46, Tryd.ntmps46
  go_wp2
  all_goals
    go_returns
    exact ⟨ret_int (by unfold sortI; (repeat split) <;> omega), rfl⟩
theorem nam_sort (x : Int) : namI x = (decide (0 < sortI x) || decide (x = 95) || decide (x = 45)) := by
  unfold namI clsI famI sortI
  rw [Bool.eq_iff_iff]
  simp only [Bool.or_eq_true, decide_eq_true_eq]
  (repeat split) <;> omega
set_option maxRecDepth 100000 in
set_option maxHeartbeats 4000000 in
theorem rbyte_spec (x : Int) (h0 : 0 ≤ x) (h1 : x < 256) (w : World) : CalcN 31 #[.int .u8 x] w (.bool (namI x)) := by
  have k := fun w' => rsort_spec x h0 h1 w'
  rw [nam_sort]
  obtain ⟨f, hf⟩ : ∃ f, f = sortI x := ⟨_, rfl⟩
  rw [← hf] at k ⊢
  clear hf
  go_enter Tryd.func31, Tryd.ntmps31
  go_wp2_with (go_at_call 46; refine (k _).mono ?_; rintro e w1 ⟨rfl, rfl⟩)
  all_goals
    go_returns
    refine ⟨ret_bool ?_, rfl⟩
    clear k
    first | (simp_all; done) | rfl | (rw [Bool.eq_iff_iff]; simp; omega)
set_option maxRecDepth 100000 in
set_option maxHeartbeats 4000000 in
theorem rbytes_spec (s : ByteArray) (hs : s.size ≤ 140737488355328) (w : World) : CalcN 20 #[.string s] w (.bool ((lst s).all nB)) := by
  have kb := fun (x : Int) (h0 : 0 ≤ x) (h1 : x < 256) (w' : World) => rbyte_spec x h0 h1 w'
  obtain ⟨E, hE⟩ : ∃ E, E = (lst s).all nB := ⟨_, rfl⟩
  rw [← hE]
  have HE : Hid (((lst s).drop 0).all nB = E) := by show _ = _; rw [hE]; rfl
  clear hE
  go_enter Tryd.func20, Tryd.ntmps20
  go_wp2
  go_loop [3] (fun i => ∃ k : Nat, k ≤ s.size ∧ i = .int .i64 k ∧ Hid (((lst s).drop k).all nB = E)) (fun i => s.size - (intOf i).toNat)
  case atStart => exact ⟨0, by omega, rfl, HE⟩
  case round =>
    obtain ⟨k, hk, rfl, hd⟩ := hrel
    by_cases hlt : k < s.size
    · have dr := hd.out
      have dd : (lst s).drop k = s[k] :: (lst s).drop (k + 1) := drop_at hlt
      rw [dd, List.all_cons] at dr
      have D := hide dr
      clear dr dd hd
      have kb' := fun w' => kb (s[k].toNat : Int) (by omega) (by have := s[k].toNat_lt; omega) w'
      have hx : namI (s[k].toNat : Int) = nB s[k] := rfl
      rw [hx] at kb'
      obtain ⟨t, ht⟩ : ∃ t, t = nB s[k] := ⟨_, rfl⟩
      rw [← ht] at kb' D
      clear ht hx kb
      cases t
      · have F : Hid (E = false) := by have q := D.out; apply hide; simpa using q.symm
        clear D
        go_wp2_with (go_at_call 31; refine (kb' _).mono ?_; rintro e w1 ⟨rfl, rfl⟩)
        go_returns
        exact ⟨by rw [F.out]; rfl, rfl⟩
      · have F : Hid (((lst s).drop (k + 1)).all nB = E) := by have q := D.out; apply hide; simpa using q
        clear D
        go_wp2_with (go_at_call 31; refine (kb' _).mono ?_; rintro e w1 ⟨rfl, rfl⟩)
        go_round
        case rel => exact ⟨k + 1, by omega, by go_num, F⟩
        case measure => simp [intOf]; omega
    · obtain rfl : k = s.size := by omega
      have F : Hid (E = true) := by
        have := hd.out
        rw [List.drop_eq_nil_of_le (by rw [lst_len]; omega)] at this
        exact this.symm
      clear hd kb
      go_wp2
      go_returns
      exact ⟨by rw [F.out]; rfl, rfl⟩
end Go.Proofs.YtagahoelojfhcaaDoor
