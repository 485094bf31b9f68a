/- The reference of layer 1: word, fits. -/
import Derived.Test.YthcgkpmlfbjagaaLfrom
namespace Go.Proofs.Ythcgkpmlfbjagaa
set_option linter.unusedVariables false
open Go.RowKit W Lb
theorem or_add (v x : Int) (k : Nat) (hk : k < 4) (a : 0 ≤ v) (b : v < pw k) (c : 0 ≤ x) (d : x < 65536) : bits .or .u64 v (x * 2 ^ (16 * k)) = v + pw k * x := by
  have e : (2 : Int) ^ (16 * k) = pw k := p2_pw' k
  have ub : pw k ≤ 281474976710656 := by have := pw_mono (show k ≤ 3 by omega); simpa [pw] using this
  have pp := pw_pos k
  have m1 : pw k * x ≤ pw k * 65535 := Int.mul_le_mul_of_nonneg_left (by omega) (by omega)
  have m0 : 0 ≤ pw k * x := Int.mul_nonneg (by omega) c
  rw [e, Int.mul_comm x]
  rw [u64_or v (pw k * x) a (by omega) m0 (by omega)]
  obtain ⟨n, rfl⟩ := Int.eq_ofNat_of_zero_le a
  obtain ⟨y, rfl⟩ := Int.eq_ofNat_of_zero_le c
  have ek : pw k = ((2 ^ (16 * k) : Nat) : Int) := by rw [← e]; simp
  rw [ek] at b ⊢
  have e2 : ((2 ^ (16 * k) : Nat) : Int) * (y : Int) = ((2 ^ (16 * k) * y : Nat) : Int) := by simp
  rw [e2]
  show ((n ||| 2 ^ (16 * k) * y : Nat) : Int) = _
  have h := Nat.two_pow_add_eq_or_of_lt (i := 16 * k) (b := n) (by omega) y
  rw [Nat.or_comm, ← h]
  simp; omega
theorem drop_at (l : List Int) (f k : Nat) : (l.drop f).getD k 0 = l.getD (f + k) 0 := by simp [List.getD_eq_getElem?_getD]
/-- Four limbs from place f on. -/
def wordV (l : List Int) (f k : Nat) : Int := val ((l.drop f).take k)
theorem wordV_succ (l : List Int) (f k : Nat) : wordV l f (k + 1) = wordV l f k + pw k * l.getD (f + k) 0 := by unfold wordV; rw [val_take, drop_at]
theorem wordV_lt {l : List Int} (o : Ok l) (f k : Nat) : 0 ≤ wordV l f k ∧ wordV l f k < pw k := by
  have h : Ok ((l.drop f).take k) := fun x hx => o x (List.mem_of_mem_drop (List.mem_of_mem_take hx))
  refine ⟨val_nonneg h, val_lt' h (by simp; omega)⟩
set_option maxHeartbeats 2000000 in
theorem word_some (b o n cap f : Nat) (l : List Int) (w : World) (hl : l.length = n) (hn : n ≤ 1000) (hf : f ≤ 4) (ok : Ok l) (hh : ∀ k, k < n → w.cell? ⟨b, o + k, none⟩ = some (.int .u32 (l.getD k 0))) :
    Same 74 #[.slice (some ⟨b, o, none⟩) n cap, .int .i64 f] w (.int .u64 (wordV l f 4)) := by
  have HH := hide hh
  have OK := hide ok
  have HL := hide hl
  clear hh ok hl
  go_enter Try.func74, Try.ntmps74
  go_wp2
  go_loop [5, 6] (fun v i => ∃ k : Nat, k ≤ 4 ∧ i = .int .i64 k ∧ v = .int .u64 (wordV l f k)) (fun _ i => 4 - (intOf i).toNat)
  case atStart => exact ⟨0, by omega, rfl, rfl⟩
  case round =>
    obtain ⟨k, hk, rfl, rfl⟩ := hrel
    by_cases h4 : k < 4
    · obtain ⟨v0, v1⟩ := wordV_lt OK.out f k
      obtain ⟨x0, x1⟩ := ok_at OK.out (f + k)
      by_cases hi : f + k < n
      · have hc := HH.out (f + k) hi
        have ho := or_add (wordV l f k) (l.getD (f + k) 0) k h4 v0 v1 x0 x1
        have ST := hide (wordV_succ l f k)
        rw [← ST.out] at ho
        have kb : 16 * (k : Int) < 64 := by omega
        have kn : 16 * k < 64 := by omega
        have xb : 0 ≤ l.getD (f + k) 0 * 2 ^ (16 * k) ∧ l.getD (f + k) 0 * 2 ^ (16 * k) < 18446744073709551616 := by
          have e : (2 : Int) ^ (16 * k) = pw k := p2_pw' k
          have ub : pw k ≤ 281474976710656 := by have := pw_mono (show k ≤ 3 by omega); simpa [pw] using this
          have pp := pw_pos k
          rw [e]
          have m1 : l.getD (f + k) 0 * pw k ≤ 65535 * pw k := Int.mul_le_mul_of_nonneg_right (by omega) (by omega)
          exact ⟨Int.mul_nonneg x0 (by omega), by omega⟩
        have wr : IntKind.u64.wrap (l.getD (f + k) 0 * 2 ^ (16 * k)) = l.getD (f + k) 0 * 2 ^ (16 * k) := by rw [IntKind.wrap_u64]; exact Int.emod_eq_of_lt xb.1 xb.2
        obtain ⟨y, hy⟩ : ∃ y, y = l.getD (f + k) 0 := ⟨_, rfl⟩
        obtain ⟨v, hv⟩ : ∃ y, y = wordV l f k := ⟨_, rfl⟩
        obtain ⟨v', hv'⟩ : ∃ y, y = wordV l f (k + 1) := ⟨_, rfl⟩
        rw [← hy] at hc ho x0 x1 wr
        rw [← hv, ← hv'] at ho
        rw [← hv]
        have HV := hide hv'
        clear ST hy hv hv' v0 v1 xb
        go_wp2
        go_round
        case rel => exact ⟨k + 1, by omega, by go_num, by rw [HV.out]⟩
        case measure => simp [intOf]; omega
      · have ST : Hid (wordV l f (k + 1) = wordV l f k) := by show _ = _; rw [wordV_succ, at_out (by rw [HL.out]; omega)]; simp
        clear v0 v1 x0 x1
        go_wp2
        go_round
        case rel => exact ⟨k + 1, by omega, by go_num, by rw [ST.out]⟩
        case measure => simp [intOf]; omega
    · obtain rfl : k = 4 := by omega
      go_wp2
      go_returns
      exact ⟨rfl, rfl⟩
set_option maxHeartbeats 2000000 in
theorem word_none (p : Option Addr) (cap f : Nat) (w : World) (hf : f ≤ 4) :
    Same 74 #[.slice p 0 cap, .int .i64 f] w (.int .u64 0) := by
  go_enter Try.func74, Try.ntmps74
  go_wp2
  go_loop [5, 6] (fun v i => v = .int .u64 0 ∧ ∃ k : Nat, k ≤ 4 ∧ i = .int .i64 k) (fun _ i => 4 - (intOf i).toNat)
  case atStart => exact ⟨rfl, 0, by omega, rfl⟩
  case round =>
    obtain ⟨rfl, k, hk, rfl⟩ := hrel
    by_cases h4 : k < 4
    · have hi : ¬ (f : Int) + k < 0 := by omega
      go_wp2
      go_round
      case rel => exact ⟨rfl, k + 1, by omega, by go_num⟩
      case measure => simp [intOf]; omega
    · obtain rfl : k = 4 := by omega
      go_wp2
      go_returns
      exact ⟨rfl, rfl⟩
theorem word_spec (p : Option Addr) (cap f : Nat) (l : List Int) (w : World) (H : Limbs w (.slice p l.length cap) l) (hn : l.length ≤ 1000) (hf : f ≤ 4) (ok : Ok l) :
    Same 74 #[.slice p l.length cap, .int .i64 f] w (.int .u64 (wordV l f 4)) := by
  rcases H with ⟨q, c, rfl, e⟩ | ⟨b, o, c, e, hc, hb, hs, hh⟩
  · have : wordV [] f 4 = 0 := by unfold wordV; simp [val]
    rw [this]; exact word_none p cap f w hf
  · simp only [Value.slice.injEq] at e
    obtain ⟨rfl, _, rfl⟩ := e
    exact word_some b o _ cap f l w rfl hn hf ok hh
theorem fits_yes (h l : Int) (w : World) (x : Int) (hx : IntKind.i64.wrap h = x) :
    Calls Try.prog 75 #[.int .u64 h, .int .u64 l, .bool true] w fun e w' => e = .returned (.tuple #[.agg #[.int .i64 x, .int .u64 l], .bool true]) ∧ Below w.heap.size w w' := by
  go_enter Try.func75, Try.ntmps75
  go_wp2
  go_returns
  exact ⟨rfl, by go_grown⟩
theorem fits_no (h l : Int) (w : World) :
    Calls Try.prog 75 #[.int .u64 h, .int .u64 l, .bool false] w fun e w' => e = .returned (.tuple #[.agg #[.int .i64 0, .int .u64 0], .bool false]) ∧ Below w.heap.size w w' := by
  go_enter Try.func75, Try.ntmps75
  go_wp2
  go_returns
  exact ⟨rfl, by go_grown⟩
end Go.Proofs.Ythcgkpmlfbjagaa
