/- 'same' of the statements of layer 6: two slices of like numbers. -/
import Derived.Test.YtpkkcdbmhgmncaaWincov
import Derived.Deep.QuietTactic
import Derived.BigQuiet
namespace Go.Proofs.Ytpkkcdbmhgmncaa
set_option linter.unusedVariables false
open Go.RowKit W
theorem winb_drewN {B : Nat} {a w : World} (h : Below B a w) (n : Nat) : Below B a (w.drewN n) := ⟨h.os, h.tape, h.output, h.size, h.block⟩
theorem same_none (a a' : Option Addr) (c c' : Nat) (w : World) :
    Calls Try.prog 16 #[.slice a 0 c, .slice a' 0 c'] w fun e w' => e = .returned (.bool true) ∧ Below w.heap.size w w' := by
  go_enter Try.func16, Try.ntmps16
  go_wp2
  refine wp_loop_rounds 1 ?_
  rw [rounds_succ]
  go_wp2
  go_returns
  exact ⟨rfl, Below.refl _ _⟩
set_option maxHeartbeats 2000000 in
theorem same_some (b off c b' off' c' n : Nat) (f : Nat → Int) (w : World) (hb : b < w.heap.size) (hb' : b' < w.heap.size) (hn : n ≤ maxLen)
    (h : ∀ j, j < n → w.cell? ⟨b, off + j, none⟩ = some (.int .i64 (f j))) (h' : ∀ j, j < n → w.cell? ⟨b', off' + j, none⟩ = some (.int .i64 (f j))) :
    Calls Try.prog 16 #[.slice (some ⟨b, off, none⟩) n c, .slice (some ⟨b', off', none⟩) n c'] w fun e w' => e = .returned (.bool true) ∧ Below w.heap.size w w' := by
  unfold maxLen at hn
  have H : Hid (∀ j, j < n → w.cell? ⟨b, off + j, none⟩ = some (.int .i64 (f j))) := h
  have H' : Hid (∀ j, j < n → w.cell? ⟨b', off' + j, none⟩ = some (.int .i64 (f j))) := h'
  clear h h'
  go_enter Try.func16, Try.ntmps16
  go_wp2
  go_loopw [5] (fun i wr => ∃ k : Nat, k ≤ n ∧ i = .int .i64 k ∧ Below w.heap.size w wr) (fun i _ => n - (intOf i).toNat)
  case atStart => exact ⟨0, by omega, rfl, Below.refl _ _⟩
  case round =>
    obtain ⟨k, hk, rfl, bl⟩ := hrel
    by_cases hlt : k < n
    · have e1 := (bl.cell (p := ⟨b, off + k, none⟩) hb).trans (H.out k hlt)
      have e2 := (bl.cell (p := ⟨b', off' + k, none⟩) hb').trans (H'.out k hlt)
      generalize f k = x at *
      have hlt' : (k : Int) < (n : Int) := by omega
      have BL : Hid (Below w.heap.size w wr) := bl
      clear bl
      go_wp2_with fail
      go_quiet (fail)
      go_wp2_with fail
      go_roundw
      case rel => exact ⟨k + 1, by omega, by go_num, winb_drewN BL.out _⟩
      case measure => simp [intOf]; omega
    · obtain rfl : k = n := by omega
      go_wp2
      go_returns
      exact ⟨rfl, bl⟩
end Go.Proofs.Ytpkkcdbmhgmncaa
