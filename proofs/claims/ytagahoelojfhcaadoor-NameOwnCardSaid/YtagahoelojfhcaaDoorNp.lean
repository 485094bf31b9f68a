/- name: patterns, plain: how a text is read. -/
import Derived.Test.YtagahoelojfhcaaDoorNval
namespace Go.Proofs.YtagahoelojfhcaaDoor
set_option linter.unusedVariables false
set_option linter.unusedSimpArgs false
/-- The byte at a place; 0 behind the end. -/
def nx (s : ByteArray) (i : Nat) : UInt8 := if h : i < s.size then s[i] else 0
def cB (c : UInt8) : Bool := clsI (c.toNat : Int)
def fB (c : UInt8) : Int := famI (c.toNat : Int)
/-- A piece: its kind, its text, its choice. -/
structure Gl where
  k : Int
  t : ByteArray
  al : List ByteArray
/-- Where the run of name bytes from i on ends. -/
def textE (s : ByteArray) : Nat → Nat → Nat
  | 0, i => i
  | f + 1, i => if nB (nx s i) then textE s f (i + 1) else i
/-- A byte of a class, or a range: where it ends, its first and last byte; none: where the fault is. -/
def itemA (s : ByteArray) (i : Nat) : Nat × Option (UInt8 × UInt8) :=
  let c := nx s i
  if cB c then
    if nx s (i + 1) = 45 then
      if fB c = 0 then (i + 1, none)
      else if fB (nx s (i + 2)) = fB c ∧ c ≤ nx s (i + 2) then (i + 3, some (c, nx s (i + 2))) else (i + 2, none)
    else (i + 1, some (c, c))
  else (i, none)
def inB (rs : List (UInt8 × UInt8)) (b : Nat) : Bool := rs.any fun r => decide (r.1.toNat ≤ b) && decide (b ≤ r.2.toNat)
/-- A class: where it ends, its ranges. -/
def classA (s : ByteArray) : Nat → Nat → List (UInt8 × UInt8) → Nat × Option (List (UInt8 × UInt8))
  | 0, i, _ => (i, none)
  | f + 1, i, acc => match itemA s i with
    | (j, none) => (j, none)
    | (j, some r) => if nx s j = 93 then (j + 1, some (acc ++ [r])) else classA s f j (acc ++ [r])
def clsT (rs : List (UInt8 × UInt8)) : List UInt8 := ((List.range 128).filter (inB rs)).map UInt8.ofNat
/-- A choice. -/
def choiceA (s : ByteArray) : Nat → Nat → List ByteArray → Nat × Except Int (List ByteArray)
  | 0, i, _ => (i, .error 31)
  | f + 1, i, acc =>
    let j := textE s (s.size + 1) i
    let acc' := acc ++ [s.extract i j]
    if nx s j = 125 then (j + 1, .ok acc')
    else if nx s j = 44 then (if acc'.length = 16 then (j, .error 3) else choiceA s f (j + 1) acc')
    else (j, .error 31)
def pieceA (s : ByteArray) (i : Nat) : Nat × Except Int Gl :=
  let c := nx s i
  if c = 42 then (i + 1, .ok ⟨2, .empty, []⟩)
  else if c = 63 then (i + 1, .ok ⟨3, .empty, []⟩)
  else if c = 91 then (match classA s (s.size + 1) (i + 1) [] with
    | (j, none) => (j, .error 31)
    | (j, some rs) => (j, .ok ⟨4, ⟨(clsT rs).toArray⟩, []⟩))
  else if c = 123 then (match choiceA s (s.size + 1) (i + 1) [] with
    | (j, .error e) => (j, .error e)
    | (j, .ok l) => (j, .ok ⟨5, .empty, l⟩))
  else
    let j := textE s (s.size + 1) i
    if j = i then (i, .error 31) else (j, .ok ⟨1, s.extract i j, []⟩)
def nodeA (s : ByteArray) : Nat → Nat → List Gl → Nat × Except Int (List Gl)
  | 0, i, _ => (i, .error 31)
  | f + 1, i, acc =>
    if i < s.size ∧ nx s i ≠ 46 then (match pieceA s i with
      | (j, .error e) => (j, .error e)
      | (j, .ok g) => nodeA s f j (acc ++ [g]))
    else if acc = [] then (i, .error 31) else (i, .ok acc)
def patA (s : ByteArray) : Nat → Nat → List (List Gl) → Nat × Except Int (List (List Gl))
  | 0, i, _ => (i, .error 31)
  | f + 1, i, acc => match nodeA s (s.size + 1) i [] with
    | (j, .error e) => (j, .error e)
    | (j, .ok nd) =>
      if j < s.size ∧ acc.length + 1 = 16 then (j, .error 3)
      else if j = s.size then (0, .ok (acc ++ [nd])) else patA s f (j + 1) (acc ++ [nd])
/-- P3.3. -/
def compA (s : ByteArray) : Nat × Except Int (List (List Gl)) := if 400 < s.size then (400, .error 2) else patA s (s.size + 1) 0 []
theorem nx_lt {s : ByteArray} {i : Nat} (h : i < s.size) : nx s i = s[i] := by unfold nx; rw [dif_pos h]
theorem nx_ge {s : ByteArray} {i : Nat} (h : s.size ≤ i) : nx s i = 0 := by unfold nx; rw [dif_neg (by omega)]
theorem lt_of_nx {s : ByteArray} {i : Nat} (h : nx s i ≠ 0) : i < s.size := by
  rcases Nat.lt_or_ge i s.size with q | q
  · exact q
  · exact absurd (nx_ge q) h
theorem nB0 : nB 0 = false := by decide
theorem cB0 : cB 0 = false := by decide
theorem fB0 : fB 0 = 0 := by decide
theorem nB_lt {s : ByteArray} {i : Nat} (h : nB (nx s i) = true) : i < s.size := lt_of_nx (by intro e; rw [e, nB0] at h; cases h)
theorem cB_lt {s : ByteArray} {i : Nat} (h : cB (nx s i) = true) : i < s.size := lt_of_nx (by intro e; rw [e, cB0] at h; cases h)
theorem textE_ge (s : ByteArray) (f i : Nat) : i ≤ textE s f i := by
  induction f generalizing i with
  | zero => exact Nat.le_refl _
  | succ f ih => unfold textE; split; (have := ih (i + 1); omega); exact Nat.le_refl _
theorem textE_le (s : ByteArray) (f i : Nat) (h : i ≤ s.size) : textE s f i ≤ s.size := by
  induction f generalizing i with
  | zero => exact h
  | succ f ih =>
    unfold textE; split
    · rename_i q; exact ih (i + 1) (nB_lt q)
    · exact h
theorem textE_end (s : ByteArray) (f i : Nat) (h : s.size < f + i) : nB (nx s (textE s f i)) = false := by
  induction f generalizing i with
  | zero => unfold textE; rw [nx_ge (by omega), nB0]
  | succ f ih =>
    unfold textE; split
    · exact ih (i + 1) (by omega)
    · rename_i q; simpa using q
/-- Enough is enough. -/
theorem textE_more (s : ByteArray) (f g i : Nat) (h : s.size < f + i) (k : s.size < g + i) : textE s f i = textE s g i := by
  induction f generalizing i g with
  | zero =>
    cases g with
    | zero => rfl
    | succ g => unfold textE; rw [nx_ge (by omega), nB0]; rfl
  | succ f ih =>
    cases g with
    | zero => unfold textE; rw [nx_ge (by omega), nB0]; rfl
    | succ g => unfold textE; split; exact ih g (i + 1) (by omega) (by omega); rfl
theorem textE_step {s : ByteArray} {f i : Nat} (h : s.size < f + i) (e : nB (nx s i) = true) : textE s f (i + 1) = textE s f i := by
  cases f with
  | zero => have := nB_lt e; omega
  | succ f =>
    rw [show textE s (f + 1) i = textE s f (i + 1) by rw [textE]; rw [if_pos e]]
    exact textE_more s _ _ _ (by omega) (by omega)
theorem textE_stop {s : ByteArray} {f i : Nat} (e : nB (nx s i) = false) : textE s f i = i := by
  cases f with
  | zero => rfl
  | succ f => rw [textE, e]; rfl
theorem item_pos {s : ByteArray} {i j : Nat} {r : UInt8 × UInt8} (h : itemA s i = (j, some r)) : i < j ∧ j ≤ s.size ∧ cB r.1 = true ∧ r.1.toNat ≤ r.2.toNat ∧ r.2.toNat < 128 := by
  have hc : ∀ c : UInt8, fB c ≠ 0 → c.toNat < 128 := by unfold fB famI; intro c; (repeat split) <;> omega
  have hcb : ∀ c : UInt8, cB c = true → c.toNat < 128 := by
    intro c; unfold cB clsI famI; simp only [Bool.or_eq_true, decide_eq_true_eq]; (repeat split) <;> omega
  unfold itemA at h
  simp only at h
  split at h
  · rename_i q
    have := cB_lt q
    split at h
    · split at h
      · cases h
      · rename_i z
        split at h
        · rename_i y
          obtain ⟨rfl, rfl⟩ := Prod.mk.inj h |>.imp id Option.some.inj
          have l2 : i + 2 < s.size := lt_of_nx (by intro e; rw [e, fB0] at y; exact z y.1.symm)
          exact ⟨by omega, by omega, q, y.2, hc _ (by rw [y.1]; exact z)⟩
        · cases h
    · obtain ⟨rfl, rfl⟩ := Prod.mk.inj h |>.imp id Option.some.inj
      exact ⟨by omega, by omega, q, Nat.le_refl _, hcb _ q⟩
  · cases h
theorem class_pos {s : ByteArray} {f i : Nat} {acc : List (UInt8 × UInt8)} (h : i ≤ s.size) : (classA s f i acc).1 ≤ s.size := by
  induction f generalizing i acc with
  | zero => exact h
  | succ f ih =>
    unfold classA
    split
    · rename_i j e
      show j ≤ _
      unfold itemA at e
      simp only at e
      split at e
      · rename_i q
        have := cB_lt q
        split at e
        · rename_i y
          have l1 : i + 1 < s.size := lt_of_nx (by rw [y]; decide)
          split at e
          · cases e; omega
          · split at e
            · cases e
            · cases e; omega
        · cases e
      · cases e; omega
    · rename_i j r e
      obtain ⟨h1, h2, _⟩ := item_pos e
      split
      · rename_i y
        have : j < s.size := lt_of_nx (by rw [y]; decide)
        exact this
      · exact ih h2
theorem item_le {s : ByteArray} {i : Nat} (h : i ≤ s.size) : (itemA s i).1 ≤ s.size := by
  have := class_pos (s := s) (f := 1) (acc := []) h
  unfold classA at this
  split at this
  · rename_i j e; rw [e]; exact this
  · rename_i j r e; rw [e]; exact (item_pos e).2.1
theorem choice_pos {s : ByteArray} {f i : Nat} {acc : List ByteArray} (h : i ≤ s.size) : (choiceA s f i acc).1 ≤ s.size := by
  induction f generalizing i acc with
  | zero => exact h
  | succ f ih =>
    have hj := textE_le s (s.size + 1) i h
    unfold choiceA
    simp only
    split
    · rename_i y
      exact lt_of_nx (by rw [y]; decide)
    · split
      · rename_i y
        split
        · exact hj
        · exact ih (lt_of_nx (by rw [y]; decide))
      · exact hj
theorem piece_le {s : ByteArray} {i : Nat} (h : i < s.size) : (pieceA s i).1 ≤ s.size := by
  unfold pieceA
  simp only
  split
  · exact h
  split
  · exact h
  split
  · have := class_pos (s := s) (f := s.size + 1) (i := i + 1) (acc := []) h
    split <;> (rename_i e; rw [e] at this; exact this)
  split
  · have := choice_pos (s := s) (f := s.size + 1) (i := i + 1) (acc := []) h
    split <;> (rename_i e; rw [e] at this; exact this)
  split
  · exact Nat.le_of_lt h
  · exact textE_le _ _ _ (Nat.le_of_lt h)
theorem class_gt {s : ByteArray} {f i j : Nat} {acc rs : List (UInt8 × UInt8)} (h : classA s f i acc = (j, some rs)) : i < j := by
  induction f generalizing i acc with
  | zero => cases h
  | succ f ih =>
    unfold classA at h
    split at h
    · cases h
    · rename_i k r e
      have := (item_pos e).1
      split at h
      · cases h; omega
      · have := ih h; omega
theorem choice_gt {s : ByteArray} {f i j : Nat} {acc rs : List ByteArray} (h : choiceA s f i acc = (j, .ok rs)) : i < j := by
  induction f generalizing i acc with
  | zero => cases h
  | succ f ih =>
    have := textE_ge s (s.size + 1) i
    unfold choiceA at h
    simp only at h
    split at h
    · cases h; omega
    · split at h
      · split at h
        · cases h
        · have := ih h; omega
      · cases h
theorem piece_gt {s : ByteArray} {i j : Nat} {g : Gl} (h : pieceA s i = (j, .ok g)) : i < j := by
  unfold pieceA at h
  simp only at h
  split at h
  · cases h; omega
  split at h
  · cases h; omega
  split at h
  · split at h
    · cases h
    · rename_i e; cases h; have := class_gt e; omega
  split at h
  · split at h
    · cases h
    · rename_i e; cases h; have := choice_gt e; omega
  split at h
  · cases h
  · cases h; have := textE_ge s (s.size + 1) i; omega
theorem node_le {s : ByteArray} {f i : Nat} {acc : List Gl} (h : i ≤ s.size) : (nodeA s f i acc).1 ≤ s.size := by
  induction f generalizing i acc with
  | zero => exact h
  | succ f ih =>
    unfold nodeA
    split
    · rename_i q
      have := piece_le (s := s) q.1
      split
      · rename_i e; rw [e] at this; exact this
      · rename_i e; rw [e] at this; exact ih this
    · split <;> exact h
theorem node_end {s : ByteArray} {f i j : Nat} {acc l : List Gl} (h : nodeA s f i acc = (j, .ok l)) (hi : i ≤ s.size) : j = s.size ∨ nx s j = 46 := by
  induction f generalizing i acc with
  | zero => cases h
  | succ f ih =>
    unfold nodeA at h
    split at h
    · rename_i q
      have := piece_le (s := s) q.1
      split at h
      · cases h
      · rename_i e; rw [e] at this; exact ih h this
    · rename_i q
      split at h
      · cases h
      · cases h
        by_cases z : j < s.size
        · right; exact Decidable.byContradiction fun y => q ⟨z, y⟩
        · left; omega
theorem node_gt {s : ByteArray} {f i j : Nat} {acc l : List Gl} (h : nodeA s f i acc = (j, .ok l)) : i ≤ j := by
  induction f generalizing i acc with
  | zero => cases h
  | succ f ih =>
    unfold nodeA at h
    split at h
    · split at h
      · cases h
      · rename_i e; have := piece_gt e; have := ih h; omega
    · split at h
      · cases h
      · cases h; exact Nat.le_refl _
theorem node_ne {s : ByteArray} {f i j : Nat} {acc l : List Gl} (h : nodeA s f i acc = (j, .ok l)) : l ≠ [] := by
  induction f generalizing i acc with
  | zero => cases h
  | succ f ih =>
    unfold nodeA at h
    split at h
    · split at h
      · cases h
      · exact ih h
    · split at h
      · cases h
      · cases h; assumption

/-- The plain parts as one state each: a class goes on. -/
theorem class_step {s : ByteArray} {f i j : Nat} {acc : List (UInt8 × UInt8)} {r : UInt8 × UInt8} (hf : s.size < f + i) (hi : i ≤ s.size) (e : itemA s i = (j, some r)) (n : nx s j ≠ 93) :
    ∃ g, s.size < g + j ∧ classA s f i acc = classA s g j (acc ++ [r]) := by
  obtain ⟨h1, h2, _⟩ := item_pos e
  cases f with
  | zero => omega
  | succ f => refine ⟨f, by omega, ?_⟩; rw [classA, e]; simp only; rw [if_neg n]
theorem class_end {s : ByteArray} {f i j : Nat} {acc : List (UInt8 × UInt8)} {r : UInt8 × UInt8} (hf : s.size < f + i) (hi : i ≤ s.size) (e : itemA s i = (j, some r)) (n : nx s j = 93) :
    classA s f i acc = (j + 1, some (acc ++ [r])) := by
  cases f with
  | zero => omega
  | succ f => rw [classA, e]; simp only; rw [if_pos n]
theorem class_bad {s : ByteArray} {f i j : Nat} {acc : List (UInt8 × UInt8)} (hf : s.size < f + i) (hi : i ≤ s.size) (e : itemA s i = (j, none)) : classA s f i acc = (j, none) := by
  cases f with
  | zero => omega
  | succ f => rw [classA, e]
theorem choice_end {s : ByteArray} {f i : Nat} {acc : List ByteArray} (hf : s.size < f + i) (hi : i ≤ s.size) (n : nx s (textE s (s.size + 1) i) = 125) :
    choiceA s f i acc = (textE s (s.size + 1) i + 1, .ok (acc ++ [s.extract i (textE s (s.size + 1) i)])) := by
  cases f with
  | zero => omega
  | succ f => simp only [choiceA, n, if_true]
theorem choice_bad {s : ByteArray} {f i : Nat} {acc : List ByteArray} (hf : s.size < f + i) (hi : i ≤ s.size) (n : nx s (textE s (s.size + 1) i) ≠ 125) (m : nx s (textE s (s.size + 1) i) ≠ 44) :
    choiceA s f i acc = (textE s (s.size + 1) i, .error 31) := by
  cases f with
  | zero => omega
  | succ f => simp only [choiceA, n, m, if_false]
theorem choice_many {s : ByteArray} {f i : Nat} {acc : List ByteArray} (hf : s.size < f + i) (hi : i ≤ s.size) (m : nx s (textE s (s.size + 1) i) = 44) (k : acc.length + 1 = 16) :
    choiceA s f i acc = (textE s (s.size + 1) i, .error 3) := by
  cases f with
  | zero => omega
  | succ f => simp [choiceA, m, k]
theorem choice_step {s : ByteArray} {f i : Nat} {acc : List ByteArray} (hf : s.size < f + i) (hi : i ≤ s.size) (m : nx s (textE s (s.size + 1) i) = 44) (k : acc.length + 1 ≠ 16) :
    textE s (s.size + 1) i < s.size ∧ ∃ g, s.size < g + (textE s (s.size + 1) i + 1) ∧ choiceA s f i acc = choiceA s g (textE s (s.size + 1) i + 1) (acc ++ [s.extract i (textE s (s.size + 1) i)]) := by
  have := textE_ge s (s.size + 1) i
  have l : textE s (s.size + 1) i < s.size := lt_of_nx (by rw [m]; decide)
  cases f with
  | zero => omega
  | succ f => refine ⟨l, f, by omega, ?_⟩; simp [choiceA, m]; omega
theorem node_step {s : ByteArray} {f i j : Nat} {acc : List Gl} {g : Gl} (hf : s.size < f + i) (hi : i < s.size) (n : nx s i ≠ 46) (e : pieceA s i = (j, .ok g)) :
    ∃ f', s.size < f' + j ∧ nodeA s f i acc = nodeA s f' j (acc ++ [g]) := by
  have := piece_gt e
  cases f with
  | zero => omega
  | succ f => refine ⟨f, by omega, ?_⟩; rw [nodeA, if_pos ⟨hi, n⟩, e]
theorem node_bad {s : ByteArray} {f i j : Nat} {acc : List Gl} {c : Int} (hf : s.size < f + i) (hi : i < s.size) (n : nx s i ≠ 46) (e : pieceA s i = (j, .error c)) : nodeA s f i acc = (j, .error c) := by
  cases f with
  | zero => omega
  | succ f => rw [nodeA, if_pos ⟨hi, n⟩, e]
theorem node_stop {s : ByteArray} {f i : Nat} {acc : List Gl} (hf : s.size < f + i) (hi : i ≤ s.size) (n : i < s.size → nx s i = 46) : nodeA s f i acc = if acc = [] then (i, .error 31) else (i, .ok acc) := by
  cases f with
  | zero => omega
  | succ f => rw [nodeA, if_neg (fun h => h.2 (n h.1))]
theorem choice_err {s : ByteArray} {f i j : Nat} {acc : List ByteArray} {c : Int} (h : choiceA s f i acc = (j, .error c)) : c = 31 ∨ c = 3 := by
  induction f generalizing i acc with
  | zero => cases h; exact .inl rfl
  | succ f ih =>
    unfold choiceA at h
    simp only at h
    split at h
    · cases h
    · split at h
      · split at h
        · cases h; exact .inr rfl
        · exact ih h
      · cases h; exact .inl rfl
theorem piece_err {s : ByteArray} {i j : Nat} {c : Int} (h : pieceA s i = (j, .error c)) : c = 31 ∨ c = 3 := by
  unfold pieceA at h
  simp only at h
  split at h
  · cases h
  split at h
  · cases h
  split at h
  · split at h
    · cases h; exact .inl rfl
    · cases h
  split at h
  · split at h
    · rename_i e; cases h; exact choice_err e
    · cases h
  split at h
  · cases h; exact .inl rfl
  · cases h
theorem node_err {s : ByteArray} {f i j : Nat} {acc : List Gl} {c : Int} (h : nodeA s f i acc = (j, .error c)) : c = 31 ∨ c = 3 := by
  induction f generalizing i acc with
  | zero => cases h; exact .inl rfl
  | succ f ih =>
    unfold nodeA at h
    split at h
    · split at h
      · rename_i e; cases h; exact piece_err e
      · exact ih h
    · split at h
      · cases h; exact .inl rfl
      · cases h
theorem pat_bad {s : ByteArray} {f i j : Nat} {acc : List (List Gl)} {c : Int} (hf : s.size < f + i) (hi : i ≤ s.size) (e : nodeA s (s.size + 1) i [] = (j, .error c)) : patA s f i acc = (j, .error c) := by
  cases f with
  | zero => omega
  | succ f => rw [patA, e]
theorem pat_many {s : ByteArray} {f i j : Nat} {acc : List (List Gl)} {l : List Gl} (hf : s.size < f + i) (hi : i ≤ s.size) (e : nodeA s (s.size + 1) i [] = (j, .ok l)) (h : j < s.size) (m : acc.length + 1 = 16) : patA s f i acc = (j, .error 3) := by
  cases f with
  | zero => omega
  | succ f => rw [patA, e]; simp only; rw [if_pos ⟨h, m⟩]
theorem pat_end {s : ByteArray} {f i : Nat} {acc : List (List Gl)} {l : List Gl} (hf : s.size < f + i) (hi : i ≤ s.size) (e : nodeA s (s.size + 1) i [] = (s.size, .ok l)) : patA s f i acc = (0, .ok (acc ++ [l])) := by
  cases f with
  | zero => omega
  | succ f => rw [patA, e]; simp only; simp
theorem pat_step {s : ByteArray} {f i j : Nat} {acc : List (List Gl)} {l : List Gl} (hf : s.size < f + i) (hi : i ≤ s.size) (e : nodeA s (s.size + 1) i [] = (j, .ok l)) (h : j < s.size) (m : acc.length + 1 ≠ 16) :
    ∃ g, s.size < g + (j + 1) ∧ patA s f i acc = patA s g (j + 1) (acc ++ [l]) := by
  have := node_gt e
  cases f with
  | zero => omega
  | succ f => refine ⟨f, by omega, ?_⟩; rw [patA, e]; simp only; rw [if_neg (fun h => m h.2), if_neg (by omega)]
end Go.Proofs.YtagahoelojfhcaaDoor
