/- sink: bounds of what Frame makes of a sink. -/
import Derived.Test.YtbahhlgcebgfeaaDoorSnk5
namespace Go.Proofs.YtbahhlgcebgfeaaDoor
set_option linter.unusedVariables false
set_option linter.unusedSimpArgs false
open Go.RowKit W
theorem sendL_bound (p : List Ch) (acc : List UInt8) (f : Bool) (b : List UInt8) (idle : Nat) (n : Int) (hi : idle < 64) : (sendL p acc f b idle n).2.1.length ≤ acc.length + b.length ∧ n ≤ (sendL p acc f b idle n).2.2.2.2 ∧ (sendL p acc f b idle n).2.2.2.2 ≤ n + 64 * (b.length : Int) + 64 - (idle : Int) := by
  fun_induction sendL p acc f b idle n with
  | case1 p acc idle n => simp; omega
  | case2 p acc b idle n hb h =>
    have := wrF_le p b.length
    have hp : 0 < b.length := List.length_pos_iff.2 hb
    refine ⟨?_, ?_, ?_⟩
    · simp only [List.length_append, List.length_take]; omega
    · simp only []; omega
    · simp only []; omega
  | case3 p acc b idle n hb h k ih =>
    have := wrF_le p b.length
    have hp : 0 < b.length := List.length_pos_iff.2 hb
    obtain ⟨h1, h2, h3⟩ := ih (by omega)
    rw [List.length_append, List.length_take, List.length_drop] at h1
    rw [List.length_drop] at h3
    refine ⟨?_, ?_, ?_⟩ <;> omega
  | case4 p acc b idle n hb h k i =>
    have hp : 0 < b.length := List.length_pos_iff.2 hb
    refine ⟨?_, ?_, ?_⟩
    · simp only []; omega
    · simp only []; omega
    · simp only []; omega
  | case5 p acc b idle n hb h k i ih =>
    obtain ⟨h1, h2, h3⟩ := ih (by omega)
    refine ⟨?_, ?_, ?_⟩ <;> omega
/-- Bounds of a sink. -/
structure Bd (S : SS) (n : Int) (b k : Nat) : Prop where
  n0 : 0 ≤ S.n
  n : S.n ≤ n
  b : ∀ x ∈ S.cs, x.1.length ≤ b
  c : S.cs.length ≤ k
  w : S.wh.length ≤ k
  o : S.lo.length ≤ k
theorem opn_sub (cs : List (List UInt8 × Bool)) : (∀ x ∈ (opn cs).1, x ∈ cs) ∧ (opn cs).1.length ≤ cs.length ∧ ((opn cs).2 = [] ∨ ∃ x ∈ cs, (opn cs).2 = x.1) := by
  unfold opn
  cases e : cs.getLast? with
  | none => exact ⟨fun x h => h, Nat.le_refl _, .inl rfl⟩
  | some x =>
    obtain ⟨acc, f⟩ := x
    cases f
    · refine ⟨fun x h => List.dropLast_subset _ h, by simp, .inr ⟨_, List.mem_of_getLast? e, rfl⟩⟩
    · exact ⟨fun x h => h, Nat.le_refl _, .inl rfl⟩
theorem Bd.fr {S : SS} {n : Int} {b k : Nat} (h : Bd S n b k) (id : Int) (bl : List UInt8) : Bd (frS S id bl) (n + 64 * (bl.length : Int) + 64) (b + bl.length) (k + 1) := by
  have h1 := h.n0
  have h2 := h.n
  have h3 := h.c
  have h4 := h.w
  have h5 := h.o
  unfold frS
  split
  · exact ⟨h.n0, by omega, fun x hx => Nat.le_trans (h.b x hx) (by omega), by omega, by omega, by omega⟩
  · obtain ⟨o1, o2, o3⟩ := opn_sub S.cs
    have la : (opn S.cs).2.length ≤ b := by
      rcases o3 with e | ⟨x, hx, e⟩
      · rw [e]; exact Nat.zero_le _
      · rw [e]; exact h.b x hx
    obtain ⟨q1, q2, q3⟩ := sendL_bound S.P (opn S.cs).2 false bl 0 S.n (by omega)
    refine ⟨?_, ?_, ?_, ?_, ?_, ?_⟩
    · unfold sendF; split <;> simp only [] <;> omega
    · unfold sendF; split <;> simp only [] <;> omega
    · unfold sendF
      split
      · exact fun x hx => Nat.le_trans (h.b x hx) (by omega)
      · intro x hx
        rcases List.mem_append.1 hx with hx | hx
        · exact Nat.le_trans (h.b x (o1 x hx)) (by omega)
        · rw [List.mem_singleton] at hx
          subst hx
          simp only []; omega
    · unfold sendF
      split
      · simp only []; omega
      · simp only [List.length_append, List.length_singleton]; omega
    · split <;> (try simp only [List.length_append, List.length_singleton]) <;> omega
    · split <;> (try simp only [List.length_append, List.length_singleton]) <;> omega
theorem Bd.new (P : List Ch) : Bd ⟨P, [], false, 0, [], [], 0⟩ 0 0 0 := ⟨by simp, by simp, fun x hx => (by cases hx), by simp, by simp, by simp⟩
theorem Bd.sm {S : SS} {n : Int} {b k l : Nat} (h : Bd S n b k) (h1 : n + 64 * (l : Int) + 64 ≤ 4611686018427387904) (h2 : b + l ≤ 140737488355328) (h3 : k ≤ 4000000000000) : SmS S l :=
  ⟨⟨h.n0, by have := h.n; omega⟩, fun x hx => by have := h.b x hx; omega, by omega, Nat.le_trans h.c h3, Nat.le_trans h.w h3, Nat.le_trans h.o h3⟩
end Go.Proofs.YtbahhlgcebgfeaaDoor
