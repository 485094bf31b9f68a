/- name: what is read ahead of a fault hangs on nothing behind it. Plain. -/
import Derived.Test.YteahbdhhcfoiiaaDoorNp
import Derived.Test.YteahbdhhcfoiiaaDoorCutp
namespace Go.Proofs.YteahbdhhcfoiiaaDoor
set_option linter.unusedVariables false
set_option linter.unusedSimpArgs false
/-- One text begins another. -/
structure Pre (s t : ByteArray) : Prop where
  le : s.size ≤ t.size
  nx : ∀ i, i < s.size → nx t i = nx s i
  ex : ∀ i j, j ≤ s.size → t.extract i j = s.extract i j
theorem pre_app (s m : ByteArray) : Pre s (s ++ m) := by
  refine ⟨by rw [ByteArray.size_append]; omega, fun i h => ?_, fun i j h => ?_⟩
  · rw [nx_lt h, nx_lt (by rw [ByteArray.size_append]; omega)]
    exact ByteArray.getElem_append_left h
  · apply lst_inj
    have hl : s.data.toList.length = s.size := Array.length_toList
    simp only [lst, ByteArray.data_extract, ByteArray.data_append, Array.toList_extract, Array.toList_append]
    rw [List.extract_eq_take_drop, List.extract_eq_take_drop]
    rw [show (s.data ++ m.data).toList = s.data.toList ++ m.data.toList from Array.toList_append]
    by_cases q : i ≤ s.size
    · rw [List.drop_append_of_le_length (by omega), List.take_append_of_le_length (by rw [List.length_drop]; omega)]
    · rw [show j - i = 0 by omega]; simp
theorem item_ge (s : ByteArray) (i : Nat) : i ≤ (itemA s i).1 := by
  unfold itemA
  simp only
  repeat' split
  all_goals (try dsimp only)
  all_goals omega
theorem class_ge (s : ByteArray) (f i : Nat) (acc : List (UInt8 × UInt8)) : i ≤ (classA s f i acc).1 := by
  induction f generalizing i acc with
  | zero => exact Nat.le_refl _
  | succ f ih =>
    have := item_ge s i
    unfold classA
    split
    · rename_i e; rw [e] at this; exact this
    · rename_i j r e
      rw [e] at this
      split
      · show i ≤ j + 1; omega
      · exact Nat.le_trans this (ih j _)
theorem choice_ge (s : ByteArray) (f i : Nat) (acc : List ByteArray) : i ≤ (choiceA s f i acc).1 := by
  induction f generalizing i acc with
  | zero => exact Nat.le_refl _
  | succ f ih =>
    have h1 := textE_ge s (s.size + 1) i
    unfold choiceA
    simp only
    split
    · show i ≤ _ + 1; omega
    · split
      · split
        · exact h1
        · exact Nat.le_trans (by omega) (ih (textE s (s.size + 1) i + 1) _)
      · exact h1
theorem piece_ge (s : ByteArray) (i : Nat) : i ≤ (pieceA s i).1 := by
  have h1 := textE_ge s (s.size + 1) i
  have h2 := class_ge s (s.size + 1) (i + 1) []
  have h3 := choice_ge s (s.size + 1) (i + 1) []
  unfold pieceA
  simp only
  split
  · show i ≤ i + 1; omega
  split
  · show i ≤ i + 1; omega
  split
  · split <;> (rename_i e; rw [e] at h2; simp only at h2 ⊢; omega)
  split
  · split <;> (rename_i e; rw [e] at h3; simp only at h3 ⊢; omega)
  split
  · exact Nat.le_refl _
  · exact h1
theorem node_ge (s : ByteArray) (f i : Nat) (acc : List Gl) : i ≤ (nodeA s f i acc).1 := by
  induction f generalizing i acc with
  | zero => exact Nat.le_refl _
  | succ f ih =>
    have h1 := piece_ge s i
    unfold nodeA
    split
    · split
      · rename_i e; rw [e] at h1; exact h1
      · rename_i e; rw [e] at h1; exact Nat.le_trans h1 (ih _ _)
    · split <;> exact Nat.le_refl _
theorem textE_pre {s t : ByteArray} (p : Pre s t) (f g i : Nat) (hf : s.size < f + i) (hg : t.size < g + i) (h : textE s f i < s.size) : textE t g i = textE s f i := by
  induction f generalizing i g with
  | zero => have := textE_ge s 0 i; omega
  | succ f ih =>
    have hi : i < s.size := Nat.lt_of_le_of_lt (textE_ge s (f + 1) i) h
    cases g with
    | zero => have := p.le; omega
    | succ g =>
      unfold textE at h ⊢
      rw [p.nx i hi]
      split
      · rename_i q
        rw [if_pos q] at h
        exact ih g (i + 1) (by omega) (by omega) h
      · rfl
theorem item_pre {s t : ByteArray} (p : Pre s t) (i : Nat) (h : (itemA s i).1 < s.size) : itemA t i = itemA s i := by
  have hi : i < s.size := Nat.lt_of_le_of_lt (item_ge s i) h
  have e0 := p.nx i hi
  unfold itemA at h ⊢
  simp only at h ⊢
  rw [e0]
  split
  · rename_i q0
    rw [if_pos q0] at h
    have h1 : i + 1 < s.size := by
      revert h; repeat' split
      all_goals (intro h; (try dsimp only at h); omega)
    rw [p.nx _ h1]
    split
    · rename_i q1
      rw [if_pos q1] at h
      split
      · rfl
      · rename_i q2
        rw [if_neg q2] at h
        have h2 : i + 2 < s.size := by
          revert h; split <;> (intro h; (try dsimp only at h); omega)
        rw [p.nx _ h2]
    · rfl
  · rfl
theorem class_pre {s t : ByteArray} (p : Pre s t) (f g i : Nat) (acc : List (UInt8 × UInt8)) (hf : s.size < f + i) (hg : t.size < g + i) (h : (classA s f i acc).1 < s.size) : classA t g i acc = classA s f i acc := by
  induction f generalizing i g acc with
  | zero => have := class_ge s 0 i acc; omega
  | succ f ih =>
    have hi : i < s.size := Nat.lt_of_le_of_lt (class_ge s (f + 1) i acc) h
    cases g with
    | zero => have := p.le; omega
    | succ g =>
      obtain ⟨⟨j, r⟩, hr⟩ : ∃ q, itemA s i = q := ⟨_, rfl⟩
      have ij : j < s.size := by
        unfold classA at h
        rw [hr] at h
        cases r with
        | none => exact h
        | some r =>
          simp only at h
          split at h
          · simp only at h; omega
          · exact Nat.lt_of_le_of_lt (class_ge s f j _) h
      have et : itemA t i = (j, r) := by rw [item_pre p i (by rw [hr]; exact ij), hr]
      unfold classA at h ⊢
      rw [hr] at h ⊢
      rw [et]
      cases r with
      | none => rfl
      | some r =>
        simp only at h ⊢
        rw [p.nx j ij]
        split
        · rfl
        · rename_i q
          rw [if_neg q] at h
          have := (item_pos hr).1
          exact ih g j _ (by omega) (by omega) h
theorem choice_pre {s t : ByteArray} (p : Pre s t) (f g i : Nat) (acc : List ByteArray) (hi0 : i ≤ s.size) (hf : s.size < f + i) (hg : t.size < g + i) (h : (choiceA s f i acc).1 < s.size) : choiceA t g i acc = choiceA s f i acc := by
  induction f generalizing i g acc with
  | zero => have := choice_ge s 0 i acc; omega
  | succ f ih =>
    have hi : i < s.size := Nat.lt_of_le_of_lt (choice_ge s (f + 1) i acc) h
    cases g with
    | zero => have := p.le; omega
    | succ g =>
      have h1 := textE_ge s (s.size + 1) i
      obtain ⟨j, hj⟩ : ∃ j, textE s (s.size + 1) i = j := ⟨_, rfl⟩
      have ij : j < s.size := by
        unfold choiceA at h
        simp only at h
        rw [hj] at h
        split at h
        · simp only at h; omega
        · split at h
          · split at h
            · exact h
            · have := choice_ge s f (j + 1) (acc ++ [s.extract i j]); omega
          · exact h
      have et : textE t (t.size + 1) i = j := by rw [textE_pre p (s.size + 1) (t.size + 1) i (by omega) (by omega) (by rw [hj]; exact ij), hj]
      unfold choiceA at h ⊢
      simp only at h ⊢
      rw [hj] at h ⊢
      rw [et, p.nx j ij, p.ex i j (by omega)]
      split
      · rfl
      · rename_i q1
        rw [if_neg q1] at h
        split
        · rename_i q2
          rw [if_pos q2] at h
          split
          · rfl
          · rename_i q3
            rw [if_neg q3] at h
            exact ih g (j + 1) _ (by omega) (by omega) (by omega) h
        · rfl
theorem piece_pre {s t : ByteArray} (p : Pre s t) (i : Nat) (h : (pieceA s i).1 < s.size) : pieceA t i = pieceA s i := by
  have hi : i < s.size := Nat.lt_of_le_of_lt (piece_ge s i) h
  have hle := p.le
  unfold pieceA at h ⊢
  simp only at h ⊢
  rw [p.nx i hi]
  split
  · rfl
  rename_i q1
  rw [if_neg q1] at h
  split
  · rfl
  rename_i q2
  rw [if_neg q2] at h
  split
  · rename_i q3
    rw [if_pos q3] at h
    have e : classA t (t.size + 1) (i + 1) [] = classA s (s.size + 1) (i + 1) [] := by
      refine class_pre p _ _ _ _ (by omega) (by omega) ?_
      revert h; split <;> (rename_i e; rw [e]; exact id)
    rw [e]
  rename_i q3
  rw [if_neg q3] at h
  split
  · rename_i q4
    rw [if_pos q4] at h
    have e : choiceA t (t.size + 1) (i + 1) [] = choiceA s (s.size + 1) (i + 1) [] := by
      refine choice_pre p _ _ _ _ (by omega) (by omega) (by omega) ?_
      revert h; split <;> (rename_i e; rw [e]; exact id)
    rw [e]
  rename_i q4
  rw [if_neg q4] at h
  have ht : textE s (s.size + 1) i < s.size := by
    revert h; split
    · rename_i e; rw [e]; exact id
    · exact id
  rw [textE_pre p (s.size + 1) (t.size + 1) i (by omega) (by omega) ht, p.ex _ _ (by omega)]
theorem node_pre {s t : ByteArray} (p : Pre s t) (f g i : Nat) (acc : List Gl) (hf : s.size < f + i) (hg : t.size < g + i) (h : (nodeA s f i acc).1 < s.size) : nodeA t g i acc = nodeA s f i acc := by
  induction f generalizing i g acc with
  | zero => have := node_ge s 0 i acc; omega
  | succ f ih =>
    have hi : i < s.size := Nat.lt_of_le_of_lt (node_ge s (f + 1) i acc) h
    have hle := p.le
    cases g with
    | zero => omega
    | succ g =>
      unfold nodeA at h ⊢
      rw [p.nx i hi]
      by_cases q : nx s i ≠ 46
      · rw [if_pos ⟨hi, q⟩] at h
        rw [if_pos (show i < t.size ∧ nx s i ≠ 46 from ⟨by omega, q⟩), if_pos (show i < s.size ∧ nx s i ≠ 46 from ⟨hi, q⟩)]
        obtain ⟨⟨j, r⟩, hr⟩ : ∃ q, pieceA s i = q := ⟨_, rfl⟩
        have ij : j < s.size := by
          rw [hr] at h
          cases r with
          | error e => exact h
          | ok l => exact Nat.lt_of_le_of_lt (node_ge s f j _) h
        rw [piece_pre p i (by rw [hr]; exact ij)]
        rw [hr] at h ⊢
        cases r with
        | error e => rfl
        | ok l =>
          have := piece_gt hr
          exact ih g j _ (by omega) (by omega) h
      · rw [if_neg (show ¬ (i < t.size ∧ nx s i ≠ 46) from fun z => q z.2), if_neg (show ¬ (i < s.size ∧ nx s i ≠ 46) from fun z => q z.2)]
theorem pat_pre {s t : ByteArray} (p : Pre s t) (f g i : Nat) (acc : List (List Gl)) (hi0 : i ≤ s.size) (hf : s.size < f + i) (hg : t.size < g + i) {k : Nat} {e : Int} (h : patA s f i acc = (k, .error e)) (hk : k < s.size) : patA t g i acc = (k, .error e) := by
  induction f generalizing i g acc with
  | zero => cases h; omega
  | succ f ih =>
    have hle := p.le
    cases g with
    | zero => omega
    | succ g =>
      obtain ⟨⟨j, r⟩, hr⟩ : ∃ q, nodeA s (s.size + 1) i [] = q := ⟨_, rfl⟩
      have jle : j ≤ s.size := by have := node_le (s := s) (f := s.size + 1) (acc := []) hi0; rw [hr] at this; exact this
      cases r with
      | error c =>
        rw [pat_bad (by omega) hi0 hr] at h
        cases h
        have et : nodeA t (t.size + 1) i [] = (k, .error e) := by rw [node_pre p (s.size + 1) _ _ _ (by omega) (by omega) (by rw [hr]; exact hk), hr]
        exact pat_bad (by omega) (by omega) et
      | ok l =>
        have ji := node_gt hr
        by_cases y : j < s.size
        · have et : nodeA t (t.size + 1) i [] = (j, .ok l) := by rw [node_pre p (s.size + 1) _ _ _ (by omega) (by omega) (by rw [hr]; exact y), hr]
          unfold patA at h ⊢
          rw [hr] at h
          rw [et]
          simp only at h ⊢
          by_cases z : acc.length + 1 = 16
          · rw [if_pos ⟨y, z⟩] at h
            rw [if_pos ⟨by omega, z⟩]
            exact h
          · rw [if_neg (fun q => z q.2), if_neg (by omega)] at h
            rw [if_neg (fun q => z q.2), if_neg (by omega)]
            exact ih g (j + 1) _ (by omega) (by omega) (by omega) h
        · obtain rfl : j = s.size := by omega
          rw [pat_end (by omega) hi0 hr] at h
          cases h
/-- P3.3: a fault ahead of a text's end hangs on nothing behind it. -/
theorem comp_pre (s m : ByteArray) (hs : s.size + m.size ≤ 400) {k : Nat} {e : Int} (h : compA s = (k, .error e)) (hk : k < s.size) : compA (s ++ m) = (k, .error e) := by
  unfold compA at h ⊢
  rw [if_neg (by omega)] at h
  rw [if_neg (by rw [ByteArray.size_append]; omega)]
  exact pat_pre (pre_app s m) _ _ _ _ (by omega) (by omega) (by omega) h hk
end Go.Proofs.YteahbdhhcfoiiaaDoor
