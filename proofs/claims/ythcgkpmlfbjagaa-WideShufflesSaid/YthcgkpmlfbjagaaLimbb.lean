/- Plain numbers: limbs as words, bits of a list of limbs, division bit by bit, roots. -/
import Derived.Test.YthcgkpmlfbjagaaLimb
namespace Go.Proofs.Ythcgkpmlfbjagaa
set_option linter.unusedVariables false
namespace Lb
def p2 : Nat → Int
  | 0 => 1
  | n + 1 => 2 * p2 n
theorem p2_pos (n : Nat) : 0 < p2 n := by induction n with | zero => decide | succ n ih => show 0 < 2 * p2 n; omega
theorem p2_add (m n : Nat) : p2 (m + n) = p2 m * p2 n := by
  induction m with
  | zero => simp [p2]
  | succ m ih => rw [Nat.succ_add]; show 2 * p2 (m + n) = 2 * p2 m * p2 n; rw [ih, Int.mul_assoc]
theorem p2_pow (n : Nat) : p2 n = 2 ^ n := by
  induction n with
  | zero => rfl
  | succ n ih => show 2 * p2 n = _; rw [ih, Int.pow_succ]; omega
theorem p2_16 : p2 16 = 65536 := by decide
theorem p2_pw (n : Nat) : p2 (16 * n) = pw n := by
  induction n with
  | zero => rfl
  | succ n ih => rw [show 16 * (n + 1) = 16 + 16 * n by omega, p2_add, ih, p2_16]; rfl
/-- A limb of a list, by the number. -/
theorem at_val {l : List Int} (h : Ok l) (k : Nat) : l.getD k 0 = val l / pw k % 65536 := by
  induction l generalizing k with
  | nil => simp [val]
  | cons x l ih =>
    have hx := h x (List.mem_cons_self ..)
    have hl : Ok l := fun y hy => h y (List.mem_cons_of_mem _ hy)
    cases k with
    | zero => simp only [List.getD_cons_zero, val, pw]; omega
    | succ k =>
      rw [List.getD_cons_succ, ih hl k]
      simp only [val, pw]
      have : (x + 65536 * val l) / (65536 * pw k) = val l / pw k := by
        rw [← Int.ediv_ediv_of_nonneg (by omega)]
        congr 1; omega
      rw [this]
theorem bit_val {l : List Int} (h : Ok l) (i : Nat) : l.getD (i / 16) 0 / p2 (i % 16) % 2 = val l / p2 i % 2 := by
  rw [at_val h]
  have e : p2 i = pw (i / 16) * p2 (i % 16) := by rw [← p2_pw, ← p2_add]; congr 1; omega
  rw [e, ← Int.ediv_ediv_of_nonneg (Int.le_of_lt (pw_pos _))]
  generalize val l / pw (i / 16) = y
  have h16 : (65536 : Int) = p2 (i % 16) * p2 (16 - i % 16) := by rw [← p2_add, ← p2_16]; congr 1; omega
  have hp := p2_pos (i % 16)
  obtain ⟨m, hm⟩ : ∃ m, 16 - i % 16 = m + 1 := ⟨15 - i % 16, by omega⟩
  rw [hm] at h16
  have e2 : p2 (m + 1) = 2 * p2 m := rfl
  rw [e2] at h16
  -- y % 65536 / q % 2 = y / q % 2
  have e3 : y % 65536 = y - 65536 * (y / 65536) := by omega
  rw [e3, h16]
  generalize y / (p2 (i % 16) * (2 * p2 m)) = z
  have e4 : y - p2 (i % 16) * (2 * p2 m) * z = y + p2 (i % 16) * (-(2 * (p2 m * z))) := by grind
  rw [e4, Int.add_mul_ediv_left _ _ (by omega)]
  omega
/-- The limbs of a word, eight or four of them. -/
def words : Nat → Int → List Int
  | 0, _ => []
  | n + 1, x => x % 65536 :: words n (x / 65536)
theorem words_len (n : Nat) (x : Int) : (words n x).length = n := by induction n generalizing x with | zero => rfl | succ n ih => simp [words, ih]
theorem words_ok (n : Nat) (x : Int) : Ok (words n x) := by
  induction n generalizing x with
  | zero => exact ok_nil
  | succ n ih =>
    intro y hy; simp only [words, List.mem_cons] at hy
    rcases hy with rfl | hy
    · omega
    · exact ih _ y hy
theorem words_val (n : Nat) (x : Int) (h0 : 0 ≤ x) (h : x < pw n) : val (words n x) = x := by
  induction n generalizing x with
  | zero => simp [words, val]; simp [pw] at h; omega
  | succ n ih =>
    simp only [words, val]
    rw [ih (x / 65536) (by omega) (by simp only [pw] at h; omega)]; omega
theorem words_snoc (n : Nat) (x : Int) : words (n + 1) x = words n x ++ [x / pw n % 65536] := by
  induction n generalizing x with
  | zero => simp [words, pw]
  | succ n ih =>
    rw [words, ih]; simp only [words, List.cons_append, pw]
    rw [← Int.ediv_ediv_of_nonneg (by omega)]
/-- One round of a division by bits: a the number, m + 1 bits were left, m are. -/
theorem div_round {A Q b r r2 : Int} {m : Nat} (h : A / p2 (m + 1) = Q * b + r) (e : r2 = 2 * r + A / p2 m % 2) : A / p2 m = (2 * Q) * b + r2 := by
  have : A / p2 (m + 1) = A / p2 m / 2 := by
    show A / (2 * p2 m) = _
    rw [Int.mul_comm, ← Int.ediv_ediv_of_nonneg (Int.le_of_lt (p2_pos m))]
  rw [this] at h
  generalize A / p2 m = x at *
  have : x = 2 * (x / 2) + x % 2 := by omega
  grind
end Lb
end Go.Proofs.Ythcgkpmlfbjagaa
