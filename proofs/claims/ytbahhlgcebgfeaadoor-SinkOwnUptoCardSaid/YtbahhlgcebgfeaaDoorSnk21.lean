/- sink: choices that take a byte at least and do not fail. -/
import Derived.Test.YtbahhlgcebgfeaaDoorSnk17
namespace Go.Proofs.YtbahhlgcebgfeaaDoor
set_option linter.unusedVariables false
set_option linter.unusedSimpArgs false
open Go.RowKit W
/-- Choices that take a byte at least and do not fail. -/
def Gd (p : List Ch) : Prop := ∀ x ∈ p, 1 ≤ x.1 ∧ x.2 = false
theorem gd_wr {p : List Ch} (g : Gd p) {m : Nat} (hm : 0 < m) : (wrF p m).2.1 = false ∧ 0 < (wrF p m).1 ∧ Gd (wrF p m).2.2 := by
  cases p with
  | nil => exact ⟨rfl, hm, fun x h => by cases h⟩
  | cons x r =>
    have := g x List.mem_cons_self
    refine ⟨this.2, ?_, fun y h => g y (List.mem_cons_of_mem _ h)⟩
    show 0 < tk x.1 m
    unfold tk; omega
theorem gd_send (p : List Ch) (acc : List UInt8) (f : Bool) (b : List UInt8) (idle : Nat) (n : Int) (g : Gd p) : (sendL p acc f b idle n).2.1 = acc ++ b ∧ (sendL p acc f b idle n).2.2.1 = f ∧ (sendL p acc f b idle n).2.2.2.1 = [] ∧ Gd (sendL p acc f b idle n).1 ∧ n ≤ (sendL p acc f b idle n).2.2.2.2 ∧ (b ≠ [] → n + 1 ≤ (sendL p acc f b idle n).2.2.2.2) := by
  fun_induction sendL p acc f b idle n with
  | case1 p acc idle n => exact ⟨by simp, rfl, rfl, g, Int.le_refl _, fun h => absurd rfl h⟩
  | case2 p acc b idle n hb h =>
    have := (gd_wr g (List.length_pos_iff.2 hb)).1
    rw [h] at this; cases this
  | case3 p acc b idle n hb h k ih =>
    obtain ⟨h1, h2, h3, h4, h5, h6⟩ := ih (gd_wr g (List.length_pos_iff.2 hb)).2.2
    exact ⟨by rw [h1, List.append_assoc, List.take_append_drop], h2, h3, h4, by omega, fun _ => by omega⟩
  | case4 p acc b idle n hb h k i => exact absurd (gd_wr g (List.length_pos_iff.2 hb)).2.1 k
  | case5 p acc b idle n hb h k i ih => exact absurd (gd_wr g (List.length_pos_iff.2 hb)).2.1 k
theorem none_send (acc : List UInt8) (f : Bool) {b : List UInt8} (hb : b ≠ []) (n : Int) : sendL [] acc f b 0 n = ([], acc ++ b, f, [], n + 1) := by
  rw [sendL_more (p := []) hb rfl (show 0 < b.length from List.length_pos_iff.2 hb)]
  show sendL [] (acc ++ b.take b.length) f (b.drop b.length) 0 (n + 1) = _
  rw [List.take_length, List.drop_length, sendL_nil]
/-- How many of the first k are not empty. -/
def nz (L : List (List UInt8)) : Nat → Nat
  | 0 => 0
  | k + 1 => nz L k + (if L.getD k [] = [] then 0 else 1)
/-- The bytes of the first k. -/
def cat (L : List (List UInt8)) : Nat → List UInt8
  | 0 => []
  | k + 1 => cat L k ++ L.getD k []
theorem nz_le (L : List (List UInt8)) (k : Nat) : nz L k ≤ k := by
  induction k with
  | zero => exact Nat.le_refl _
  | succ k ih => rw [nz]; split <;> omega
def ids : Nat → List Int
  | 0 => []
  | k + 1 => ids k ++ [(k : Int)]
/-- What pieces come to. -/
structure Pc (S : SS) (L : List (List UInt8)) (k : Nat) : Prop where
  g : Gd S.P
  cs : S.cs = if nz L k = 0 then [] else [(cat L k, false)]
  wh : S.wh = ids k
  lo : S.lo = []
  n : (nz L k : Int) ≤ S.n
theorem opn_one (L : List (List UInt8)) (k : Nat) : opn (if nz L k = 0 then [] else [(cat L k, false)]) = ([], if nz L k = 0 then [] else cat L k) := by
  by_cases h : nz L k = 0
  · rw [if_pos h, if_pos h]; exact opn_nil
  · rw [if_neg h, if_neg h]; exact opn_old [] _
theorem cat_zero (L : List (List UInt8)) (k : Nat) (h : nz L k = 0) : cat L k = [] := by
  induction k with
  | zero => rfl
  | succ k ih =>
    rw [nz] at h
    have h1 : nz L k = 0 := by omega
    have h2 : L.getD k [] = [] := by
      by_cases q : L.getD k [] = []
      · exact q
      · rw [if_neg q] at h; omega
    rw [cat, ih h1, h2]; rfl
theorem pc_all (P : List Ch) (g : Gd P) (L : List (List UInt8)) (k : Nat) : Pc (plS P L k) L k := by
  induction k with
  | zero => exact ⟨g, rfl, rfl, rfl, by simp [plS, nz]⟩
  | succ k ih =>
    rw [plS]
    unfold frS
    rw [if_neg (pl_no P L k)]
    generalize plS P L k = S at ih
    by_cases b0 : L.getD k [] = []
    · rw [b0, sendF_nil]
      have e1 : nz L (k + 1) = nz L k := by rw [nz, if_pos b0, Nat.add_zero]
      have e2 : cat L (k + 1) = cat L k := by rw [cat, b0, List.append_nil]
      refine ⟨ih.g, ?_, ?_, ?_, ?_⟩
      · rw [e1, e2]; exact ih.cs
      · simp only [if_true]; rw [ih.wh, ids]
      · simp only [if_true]; exact ih.lo
      · rw [e1]; exact ih.n
    · rw [sendF_some _ _ _ b0]
      have e1 : nz L (k + 1) = nz L k + 1 := by rw [nz, if_neg b0]
      obtain ⟨h1, h2, h3, h4, h5, h6⟩ := gd_send S.P (opn S.cs).2 false (L.getD k []) 0 S.n ih.g
      have o1 : (opn S.cs).1 = [] := by rw [ih.cs, opn_one]
      have o2 : (opn S.cs).2 = cat L k := by
        rw [ih.cs, opn_one]
        simp only
        split
        · rename_i h; rw [cat_zero L k h]
        · rfl
      refine ⟨h4, ?_, ?_, ?_, ?_⟩
      · simp only
        rw [if_neg (by omega), o1, h1, h2, o2, cat]; rfl
      · simp only [h3, decide_true, if_true]; rw [ih.wh, ids]
      · simp only [h3, decide_true, if_true]; exact ih.lo
      · have := h6 b0
        have := ih.n
        simp only; omega
theorem none_all (L : List (List UInt8)) (k : Nat) : (plS [] L k).P = [] ∧ (plS [] L k).n = (nz L k : Int) := by
  induction k with
  | zero => exact ⟨rfl, rfl⟩
  | succ k ih =>
    rw [plS]
    unfold frS
    rw [if_neg (pl_no [] L k)]
    generalize plS [] L k = S at ih
    by_cases b0 : L.getD k [] = []
    · rw [b0, sendF_nil]
      have e1 : nz L (k + 1) = nz L k := by rw [nz, if_pos b0, Nat.add_zero]
      exact ⟨ih.1, by rw [e1]; exact ih.2⟩
    · rw [sendF_some _ _ _ b0, ih.1, none_send _ _ b0]
      have e1 : nz L (k + 1) = nz L k + 1 := by rw [nz, if_neg b0]
      exact ⟨rfl, by rw [e1]; simp only; have := ih.2; omega⟩
theorem cat_len (L : List (List UInt8)) (sb : ∀ b ∈ L, b.length ≤ 1048576) (k : Nat) : (cat L k).length ≤ 1048576 * k := by
  induction k with
  | zero => exact Nat.le_refl _
  | succ k ih =>
    have hb : (L.getD k []).length ≤ 1048576 := by
      rw [List.getD_eq_getElem?_getD]
      cases e : L[k]? with
      | none => simp
      | some b => exact sb b (List.mem_of_getElem? e)
    rw [cat, List.length_append]; omega
end Go.Proofs.YtbahhlgcebgfeaaDoor
