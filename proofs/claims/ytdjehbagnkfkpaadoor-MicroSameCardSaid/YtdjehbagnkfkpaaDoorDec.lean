/- Plain numbers: decimal digits. No Go in sight. -/
import Init
namespace Go.Proofs.YtdjehbagnkfkpaaDoor
set_option linter.unusedVariables false
namespace Dc
/-- The digit's byte. -/
def ch (d : Nat) : UInt8 := UInt8.ofNat (48 + d)
theorem ch_toNat {d : Nat} (h : d < 10) : (ch d).toNat = 48 + d := by unfold ch; simp [UInt8.toNat_ofNat]; omega
/-- The digits of a number; of 0 none. -/
def pre (n : Nat) : List UInt8 := if h : n = 0 then [] else pre (n / 10) ++ [ch (n % 10)]
termination_by n
decreasing_by omega
/-- The digits of a number; of 0 one. -/
def dec (n : Nat) : List UInt8 := if n = 0 then [48] else pre n
theorem pre_zero : pre 0 = [] := by rw [pre]; simp
theorem pre_pos {n : Nat} (h : n ≠ 0) : pre n = pre (n / 10) ++ [ch (n % 10)] := by rw [pre]; simp [h]
theorem dec_pos {n : Nat} (h : n ≠ 0) : dec n = pre n := by unfold dec; rw [if_neg h]
theorem dec_last (n : Nat) : dec n = pre (n / 10) ++ [ch (n % 10)] := by
  by_cases h : n = 0
  · subst h; unfold dec; rw [if_pos rfl, show (0:Nat) / 10 = 0 from rfl, pre_zero]; rfl
  · rw [dec_pos h, pre_pos h]
theorem pre_length_le (k n : Nat) (h : n < 10 ^ k) : (pre n).length ≤ k := by
  induction k generalizing n with
  | zero => have : n = 0 := by simpa using h
            subst this; rw [pre_zero]; simp
  | succ k ih =>
    by_cases h0 : n = 0
    · subst h0; rw [pre_zero]; simp
    · rw [pre_pos h0, List.length_append]
      have := ih (n / 10) (by rw [Nat.pow_succ] at h; omega)
      simp; omega
/-- What a list of digits is worth. -/
def worth (l : List UInt8) : Nat := l.foldl (fun a c => a * 10 + (c.toNat - 48)) 0
theorem worth_snoc (l : List UInt8) (c : UInt8) : worth (l ++ [c]) = worth l * 10 + (c.toNat - 48) := by simp [worth]
theorem worth_nil : worth [] = 0 := rfl
theorem worth_pre (n : Nat) : worth (pre n) = n := by
  induction n using Nat.strongRecOn with
  | _ n ih =>
    by_cases h : n = 0
    · subst h; rw [pre_zero]; rfl
    · rw [pre_pos h, worth_snoc, ih (n / 10) (by omega), ch_toNat (by omega)]; omega
def isD (c : UInt8) : Bool := decide (48 ≤ c.toNat) && decide (c.toNat ≤ 57)
theorem isD_ch {d : Nat} (h : d < 10) : isD (ch d) = true := by unfold isD; rw [ch_toNat h]; simp; omega
theorem pre_digits (n : Nat) : ∀ c ∈ pre n, isD c = true := by
  induction n using Nat.strongRecOn with
  | _ n ih =>
    by_cases h : n = 0
    · subst h; rw [pre_zero]; simp
    · rw [pre_pos h]; intro c hc
      rcases List.mem_append.1 hc with h1 | h1
      · exact ih (n / 10) (by omega) c h1
      · rw [List.mem_singleton] at h1; subst h1; exact isD_ch (by omega)
theorem pre_head {n : Nat} (h : n ≠ 0) : ∃ d r, pre n = ch d :: r ∧ 1 ≤ d ∧ d < 10 := by
  induction n using Nat.strongRecOn with
  | _ n ih =>
    rw [pre_pos h]
    by_cases h1 : n / 10 = 0
    · rw [h1, pre_zero]; exact ⟨n % 10, [], rfl, by omega, by omega⟩
    · obtain ⟨d, r, e, a, b⟩ := ih (n / 10) (by omega) h1
      rw [e]; exact ⟨d, r ++ [ch (n % 10)], rfl, a, b⟩
theorem worth_append (a b : List UInt8) : worth a ≤ worth (a ++ b) := by
  induction b generalizing a with
  | nil => simp
  | cons c b ih => rw [show a ++ c :: b = (a ++ [c]) ++ b by simp]; have := ih (a ++ [c]); rw [worth_snoc] at this; omega
theorem worth_mono (l : List UInt8) (k : Nat) : worth (l.take k) ≤ worth l := by
  have := worth_append (l.take k) (l.drop k); rwa [List.take_append_drop] at this
theorem worth_take (l : List UInt8) (k : Nat) (h : k < l.length) : worth (l.take (k + 1)) = worth (l.take k) * 10 + ((l[k]).toNat - 48) := by
  rw [List.take_succ_eq_append_getElem h, worth_snoc]
end Dc
end Go.Proofs.YtdjehbagnkfkpaaDoor
