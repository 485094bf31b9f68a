/- The reference's bare. The reference of layer 5: bare, Split. -/
import Derived.Test.YthaphijkfedihaaSame5
import Derived.Test.YthaphijkfedihaaRcut5
namespace Go.Proofs.Ythaphijkfedihaa
set_option linter.unusedVariables false
set_option linter.unusedSimpArgs false
open Go.RowKit W
set_option maxRecDepth 100000 in
set_option maxHeartbeats 4000000 in
theorem rbare_spec (s : ByteArray) (w : World) (hs : s.size ≤ 140737488355328) : Calls Try.prog 34 #[.string s] w (TextPost (bareL (lst s)) w) := by
  rcases Nat.eq_zero_or_pos s.size with z | z
  · have e : lst s = [] := List.eq_nil_of_length_eq_zero (by rw [lst_len]; exact z)
    have F : Hid (TextPost (bareL (lst s)) w (.returned (.string s)) w) := ⟨s, rfl, by rw [e]; rfl, rfl⟩
    clear e
    go_enter Try.func34, Try.ntmps34
    go_wp2
    go_returns
    exact F.out
  · obtain ⟨k, hk⟩ : ∃ k, s.size = k + 1 := ⟨s.size - 1, by omega⟩
    have hl : (lst s).length = k + 1 := by rw [lst_len]; exact hk
    have t1 := fun e => bareL_13 (l := lst s) hl e
    have t2 := fun e => bareL_no (l := lst s) hl e
    have ek : (lst s)[k]'(by omega) = s[k]'(by omega) := rfl
    rw [ek] at t1 t2
    have kb : k < 140737488355328 := by omega
    have e1 : IntKind.i64.wrap ((s.size : Int) - 1) = k := by rw [IntKind.wrap_i64]; omega
    have e2 : (k : Int) < (s.size : Int) := by omega
    have e3 : k < s.size := by omega
    have e4 : (k : Int) ≤ (s.size : Int) := by omega
    have e5 : s.extract 0 k = s.extract 0 k := rfl
    by_cases e : s[k]'(by omega) = 13
    · have F : Hid (TextPost (bareL (lst s)) w (.returned (.string (s.extract 0 k))) w) := ⟨_, rfl, by rw [t1 e]; simp [lst], rfl⟩
      have xe : ((s[k]'(by omega)).toNat : Int) = 13 := by rw [e]; rfl
      have xb : (((s[k]'(by omega)).toNat : Int) == 13) = true := by rw [xe]; rfl
      clear e t1 t2 ek hl
      go_enter Try.func34, Try.ntmps34
      go_wp2
      go_returns
      exact F.out
    · have F : Hid (TextPost (bareL (lst s)) w (.returned (.string s)) w) := ⟨_, rfl, by rw [t2 e], rfl⟩
      have xe : (((s[k]'(by omega)).toNat : Int) == 13) = false := by rw [beq_eq_false_iff_ne]; intro q; exact e (UInt8.toNat_inj.1 (show (s[k]'(by omega)).toNat = 13 by omega))
      clear e t1 t2 ek hl
      go_enter Try.func34, Try.ntmps34
      go_wp2
      go_returns
      exact F.out
end Go.Proofs.Ythaphijkfedihaa
