/- Plain numbers: numbers with a sign as limbs; roots; digits of limbs. -/
import Derived.Test.YthcgkpmlfbjagaaLimbb
namespace Go.Proofs.Ythcgkpmlfbjagaa
set_option linter.unusedVariables false
namespace Lb
/-- The limbs of a number's amount, without a 0 at the top. -/
structure Mag (l : List Int) (m : Int) : Prop where
  ok : Ok l
  top : Top l
  val : val l = m
theorem Mag.nonneg {l : List Int} {m : Int} (h : Mag l m) : 0 ≤ m := by rw [← h.val]; exact val_nonneg h.ok
theorem Mag.eq {a b : List Int} {m : Int} (h : Mag a m) (k : Mag b m) : a = b := val_inj h.ok h.top k.ok k.top (h.val.trans k.val.symm)
theorem Mag.len {l : List Int} {m : Int} (h : Mag l m) {n : Nat} (hm : m < pw n) : l.length ≤ n := by
  apply Decidable.byContradiction; intro g
  obtain ⟨k, hk⟩ : ∃ k, l.length = k + 1 := ⟨l.length - 1, by omega⟩
  have := val_ge h.ok h.top k hk
  have := pw_mono (show n ≤ k by omega)
  have := h.val
  omega
theorem Mag.nil : Mag [] 0 := ⟨ok_nil, .inl rfl, rfl⟩
theorem Mag.zero {l : List Int} (h : Mag l 0) : l = [] := h.eq Mag.nil
theorem Mag.nil_iff {l : List Int} {m : Int} (h : Mag l m) : l = [] ↔ m = 0 := by
  constructor
  · rintro rfl; rw [← h.val]; rfl
  · rintro rfl; exact h.zero
theorem Mag.lt_len {a b : List Int} {m n : Int} (h : Mag a m) (k : Mag b n) (hl : a.length < b.length) : m < n := by
  rw [← h.val, ← k.val]; exact val_lt_of_length h.ok k.ok k.top hl
theorem Mag.of_top {l : List Int} (h : Ok l) : Mag (l.take (Lb.top l l.length)) (Lb.val l) :=
  ⟨ok_take h _, top_top l _ (Nat.le_refl _), by rw [val_top, List.take_length]⟩
/-- A wide number's sign and amount. -/
def ab (v : Int) : Int := if v < 0 then -v else v
theorem ab_nonneg (v : Int) : 0 ≤ ab v := by unfold ab; split <;> omega
theorem ab_zero {v : Int} : ab v = 0 ↔ v = 0 := by unfold ab; split <;> omega
theorem ab_of {n : Bool} {m v : Int} (hm : 0 ≤ m) (h : v = if n then -m else m) : ab v = m ∧ (n && decide (0 < m)) = decide (v < 0) := by
  cases n <;> simp at h <;> subst h <;> unfold ab <;> constructor <;> simp <;> omega
/-- From the highest limb down: the lists from place i on. -/
theorem drop_val (l : List Int) (i : Nat) (h : i < l.length) : val (l.drop i) = l.getD i 0 + 65536 * val (l.drop (i + 1)) := by
  rw [List.drop_eq_getElem_cons h]; simp only [val]
  simp [List.getD_eq_getElem?_getD, List.getElem?_eq_getElem h]
/-- Where two lists part from the top. -/
theorem cmp_step {a b : List Int} {i : Nat} (ha : i < a.length) (hb : i < b.length) (oa : Ok a) (ob : Ok b) (hl : a.length = b.length) (e : val (a.drop (i + 1)) = val (b.drop (i + 1)))
    (h : a.getD i 0 < b.getD i 0) : val a < val b := by
  have t := val_append (a.take i) (a.drop i); rw [List.take_append_drop] at t
  have u := val_append (b.take i) (b.drop i); rw [List.take_append_drop] at u
  rw [t, u, drop_val a i ha, drop_val b i hb, e, List.length_take_of_le (by omega), List.length_take_of_le (by omega)]
  have m1 := val_lt (ok_take oa i)
  rw [List.length_take_of_le (by omega)] at m1
  have m2 := val_nonneg (ok_take ob i)
  have p := pw_pos i
  have : pw i * 1 ≤ pw i * (b.getD i 0 - a.getD i 0) := Int.mul_le_mul_of_nonneg_left (by omega) (by omega)
  grind
/-- One limb of a division by ten. -/
theorem ten_round {L Q r x v : Int} (h : L = 10 * Q + r) (hv : v = r * 65536 + x) : x + 65536 * L = 10 * (v / 10 + 65536 * Q) + v % 10 := by omega
/-- One bit of a root. -/
theorem root_yes {a r p t : Int} (h2 : a < (r + 2 * p) * (r + 2 * p)) (ht : t = r + p) : a < (t + p) * (t + p) := by
  have : t + p = r + 2 * p := by omega
  rw [this]; exact h2
theorem root_uniq {a r s : Int} (r0 : 0 ≤ r) (s0 : 0 ≤ s) (h1 : r * r ≤ a) (h2 : a < (r + 1) * (r + 1)) (h3 : s * s ≤ a) (h4 : a < (s + 1) * (s + 1)) : r = s := by
  rcases Int.lt_trichotomy r s with h | h | h
  · have : (r + 1) * (r + 1) ≤ s * s := Int.mul_le_mul (by omega) (by omega) (by omega) (by omega)
    omega
  · exact h
  · have : (s + 1) * (s + 1) ≤ r * r := Int.mul_le_mul (by omega) (by omega) (by omega) (by omega)
    omega
theorem root_start (l : List Int) (h : Ok l) : val l < (0 + p2 (8 * l.length + 9)) * (0 + p2 (8 * l.length + 9)) := by
  have a := val_lt h
  rw [← p2_pw] at a
  have : p2 (8 * l.length + 9) * p2 (8 * l.length + 9) = p2 (16 * l.length) * p2 18 := by rw [← p2_add, ← p2_add]; congr 1; omega
  rw [Int.zero_add, this]
  have p := p2_pos (16 * l.length)
  have : p2 (16 * l.length) * 1 ≤ p2 (16 * l.length) * p2 18 := Int.mul_le_mul_of_nonneg_left (by decide) (by omega)
  omega
/-- The list of one bit. -/
theorem val_bit (i : Nat) : val (List.replicate (i / 16) 0 ++ [p2 (i % 16)]) = p2 i := by
  have z : val (List.replicate (i / 16) (0 : Int)) = 0 := by have := val_zero [] (i / 16); simpa [val] using this
  rw [val_snoc, z, List.length_replicate, ← p2_pw, ← p2_add, Int.zero_add]; congr 1; omega
end Lb
end Go.Proofs.Ythcgkpmlfbjagaa
