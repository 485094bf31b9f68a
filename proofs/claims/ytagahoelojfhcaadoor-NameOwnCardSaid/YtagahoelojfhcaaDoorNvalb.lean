/- name: Valid. -/
import Derived.Test.YtagahoelojfhcaaDoorNval
import Derived.Test.YtagahoelojfhcaaDoorCutp
namespace Go.Proofs.YtagahoelojfhcaaDoor
set_option linter.unusedVariables false
set_option linter.unusedSimpArgs false
open Go.RowKit W
/-- A text read byte by byte: how many nodes, how long the last one is; none where a byte may not stand. -/
def scanN : List UInt8 → Nat → Nat → Option (Nat × Nat)
  | [], n, m => some (n, m)
  | c :: r, n, m => if nB c then scanN r n (m + 1) else if c = 46 ∧ 0 < m then scanN r (n + 1) 0 else none
def endN : Option (Nat × Nat) → Bool
  | some (n, m) => decide (0 < m) && decide (n ≤ 16)
  | none => false
/-- P3.1: is it a name? -/
def validN (l : List UInt8) : Bool := decide (l.length ≤ 200) && endN (scanN l 1 0)
set_option maxRecDepth 100000 in
set_option maxHeartbeats 4000000 in
theorem valid_walk (s : ByteArray) (w : World) (hs : s.size ≤ 200) : CalcN 11 #[.string s] w (.bool (endN (scanN s.data.toList 1 0))) := by
  have kb := fun (x : Int) (h0 : 0 ≤ x) (h1 : x < 256) (w' : World) => nbyte_spec x h0 h1 w'
  obtain ⟨E, hE⟩ : ∃ E, E = scanN s.data.toList 1 0 := ⟨_, rfl⟩
  rw [← hE]
  have HE := hide hE
  clear hE
  go_enter Tryd.func11, Tryd.ntmps11
  go_wp2
  go_loop [3, 4, 11] (fun a b i => ∃ (k n m : Nat), k ≤ s.size ∧ n ≤ k + 1 ∧ m ≤ k ∧ a = .int .i64 n ∧ b = .int .i64 m ∧ i = .int .i64 k ∧ Hid (scanN (s.data.toList.drop k) n m = E)) (fun _ _ i => s.size - (intOf i).toNat)
  case atStart => exact ⟨0, 1, 0, by omega, by omega, by omega, rfl, rfl, rfl, by rw [HE.out]; rfl⟩
  case round =>
    obtain ⟨k, n, m, hk, hn, hm, rfl, rfl, rfl, hd⟩ := hrel
    by_cases hlt : k < s.size
    · have dr := hd.out
      rw [drop_at hlt] at dr
      unfold scanN at dr
      have D := hide dr
      clear dr hd
      have kb' := fun w' => kb (s[k].toNat : Int) (by omega) (by have := s[k].toNat_lt; omega) w'
      have hx : namI (s[k].toNat : Int) = nB s[k] := rfl
      rw [hx] at kb'
      obtain ⟨t, ht⟩ : ∃ t, t = nB s[k] := ⟨_, rfl⟩
      rw [← ht] at kb' D
      clear ht hx kb
      cases t
      · by_cases pt : s[k] = 46
        · have pz : (s[k].toNat : Int) = 46 := by rw [pt]; rfl
          rw [pz] at kb'
          by_cases m0 : 0 < m
          · have F : Hid (scanN (s.data.toList.drop (k + 1)) (n + 1) 0 = E) := by have q := D.out; apply hide; simpa [pt, m0] using q
            clear D pt
            go_wp2_with (go_at_call 18; refine (kb' _).mono ?_; rintro e w1 ⟨rfl, rfl⟩)
            go_round
            case rel => exact ⟨k + 1, n + 1, 0, by omega, by omega, by omega, by go_num, rfl, by go_num, F⟩
            case measure => simp [intOf]; omega
          · have F : Hid (E = none) := by have q := D.out; apply hide; simpa [pt, m0] using q.symm
            clear D pt
            go_wp2_with (go_at_call 18; refine (kb' _).mono ?_; rintro e w1 ⟨rfl, rfl⟩)
            go_returns
            exact ⟨by rw [F.out]; rfl, rfl⟩
        · have F : Hid (E = none) := by have q := D.out; apply hide; simpa [pt] using q.symm
          have pz : ¬ (s[k].toNat : Int) = 46 := fun e => pt (UInt8.toNat_inj.1 (show s[k].toNat = 46 by omega))
          clear D pt
          go_wp2_with (go_at_call 18; refine (kb' _).mono ?_; rintro e w1 ⟨rfl, rfl⟩)
          go_returns
          exact ⟨by rw [F.out]; rfl, rfl⟩
      · have F : Hid (scanN (s.data.toList.drop (k + 1)) n (m + 1) = E) := by have q := D.out; apply hide; simpa using q
        clear D
        go_wp2_with (go_at_call 18; refine (kb' _).mono ?_; rintro e w1 ⟨rfl, rfl⟩)
        go_round
        case rel => exact ⟨k + 1, n, m + 1, by omega, by omega, by omega, rfl, by go_num, by go_num, F⟩
        case measure => simp [intOf]; omega
    · obtain rfl : k = s.size := by omega
      have F : Hid (E = some (n, m)) := by
        have := hd.out
        rw [List.drop_eq_nil_of_le (by simp)] at this
        exact this.symm
      clear hd
      by_cases m0 : 0 < m
      · by_cases n0 : n ≤ 16
        · go_wp2
          go_returns
          exact ⟨by rw [F.out]; simp [endN, m0, n0]; try omega, rfl⟩
        · go_wp2
          go_returns
          exact ⟨by rw [F.out]; simp [endN, m0, n0]; try omega, rfl⟩
      · obtain rfl : m = 0 := by omega
        go_wp2
        go_returns
        exact ⟨by rw [F.out]; simp [endN], rfl⟩
set_option maxRecDepth 100000 in
theorem valid_spec (s : ByteArray) (w : World) : CalcN 11 #[.string s] w (.bool (validN s.data.toList)) := by
  by_cases h : s.size ≤ 200
  · have := valid_walk s w h
    unfold validN
    rw [decide_eq_true (by simpa using h), Bool.true_and]
    exact this
  · have e : validN s.data.toList = false := by unfold validN; rw [decide_eq_false (by simpa using h)]; rfl
    rw [e]
    go_enter Tryd.func11, Tryd.ntmps11
    go_wp2
    go_returns
    exact ⟨rfl, rfl⟩
end Go.Proofs.YtagahoelojfhcaaDoor
