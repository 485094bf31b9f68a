/- NameJoins: the law's walk. -/
import Derived.Test.YteahbdhhcfoiiaaDoorLawnn
namespace Go.Proofs.YteahbdhhcfoiiaaDoor
set_option linter.unusedVariables false
set_option linter.unusedSimpArgs false
open Go.RowKit W
/-- Texts joined by points, the first k of them. -/
def joinN (l : List ByteArray) : Nat → ByteArray
  | 0 => ⟨#[]⟩
  | k + 1 => (if k = 0 then ⟨#[]⟩ else joinN l k ++ ⟨#[46]⟩) ++ l.getD k ⟨#[]⟩
theorem lst_app (a b : ByteArray) : lst (a ++ b) = lst a ++ lst b := by simp [lst]
theorem cutL_snoc (c : UInt8) (a b acc : List UInt8) : cutL c acc (a ++ c :: b) = cutL c acc a ++ cutL c [] b := by
  induction a generalizing acc with
  | nil => simp [cutL]
  | cons x r ih =>
    show (if x = c then acc :: cutL c [] (r ++ c :: b) else cutL c (acc ++ [x]) (r ++ c :: b)) = _
    rw [cutL]
    split
    · rw [ih]; rfl
    · rw [ih]
theorem join_cut (l : List ByteArray) (hp : ∀ x ∈ l, (46 : UInt8) ∉ lst x) : ∀ k, 0 < k → k ≤ l.length → cutL 46 [] (lst (joinN l k)) = (l.take k).map lst := by
  intro k
  induction k with
  | zero => intro h; omega
  | succ k ih =>
    intro _ hk
    have hg : l.getD k ⟨#[]⟩ = l[k] := by simp [List.getD_eq_getElem?_getD, show k < l.length by omega]
    have hn := hp l[k] (List.getElem_mem _)
    rw [List.take_succ_eq_append_getElem (by omega), List.map_append]
    unfold joinN
    by_cases z : k = 0
    · subst z
      rw [if_pos rfl, lst_app, hg]
      show cutL 46 [] ([] ++ lst l[0]) = _
      rw [List.nil_append, cutL_none 46 _ _ hn]; rfl
    · rw [if_neg z, lst_app, lst_app, hg]
      show cutL 46 [] (lst (joinN l k) ++ [46] ++ lst l[k]) = _
      rw [List.append_assoc]
      show cutL 46 [] (lst (joinN l k) ++ 46 :: lst l[k]) = _
      rw [cutL_snoc, ih (by omega) (by omega), cutL_none 46 _ _ hn]; rfl
/-- May the texts be nodes? -/
def fineN (l : List ByteArray) : Bool := (decide (1 ≤ l.length) && decide (l.length ≤ 16)) && l.all fun x => nodeB (lst x)
theorem nodeB_eq (x : ByteArray) : nodeB (lst x) = (decide (x.size ≠ 0) && bytesB x) := by
  unfold nodeB bytesB
  congr 1
  rw [← lst_len x]
  cases lst x with
  | nil => rfl
  | cons a r => simp
theorem join_valid (l : List ByteArray) (hp : ∀ x ∈ l, (46 : UInt8) ∉ lst x) : validN (lst (joinN l l.length)) = (fineN l && decide ((joinN l l.length).size ≤ 200)) := by
  rw [valid_cut, lst_len]
  by_cases z : l.length = 0
  · have : l = [] := List.length_eq_zero_iff.1 z
    subst this; decide
  · rw [join_cut l hp _ (by omega) (Nat.le_refl _), List.take_length]
    unfold fineN
    rw [List.all_map, List.length_map, decide_eq_true (show 1 ≤ l.length by omega), Bool.true_and, Bool.and_comm]
    congr 1
    rw [Bool.and_comm]; rfl
theorem join_nodes (l : List ByteArray) (hp : ∀ x ∈ l, (46 : UInt8) ∉ lst x) (h : validN (lst (joinN l l.length)) = true) : nodesL (joinN l l.length) = l := by
  refine map_lst_inj ?_
  rw [nodesL_yes h]
  by_cases z : l.length = 0
  · have : l = [] := List.length_eq_zero_iff.1 z
    subst this; exact absurd h (by decide)
  · rw [join_cut l hp _ (by omega) (Nat.le_refl _), List.take_length]
theorem join_size (l : List ByteArray) (k : Nat) (h : ∀ j (q : j < l.length), j < k → l[j].size ≤ 200) (hk : k ≤ l.length) : (joinN l k).size ≤ k * 201 := by
  induction k with
  | zero => exact Nat.zero_le _
  | succ k ih =>
    have hg : l.getD k ⟨#[]⟩ = l[k] := by simp [List.getD_eq_getElem?_getD, show k < l.length by omega]
    have h1 := h k (by omega) (by omega)
    have h2 := ih (fun j q hj => h j q (by omega)) (by omega)
    unfold joinN
    rw [ByteArray.size_append, hg]
    split
    · have : (⟨#[]⟩ : ByteArray).size = 0 := rfl
      omega
    · rw [ByteArray.size_append]
      have : (⟨#[46]⟩ : ByteArray).size = 1 := rfl
      omega
theorem long_not {x : ByteArray} (h : 200 < x.size) : validN x.data.toList = false := by
  unfold validN
  rw [decide_eq_false (by have : x.data.toList.length = x.size := Array.length_toList; omega)]; rfl
/-- So far. -/
def fineK (l : List ByteArray) (k : Nat) : Bool := (decide (1 ≤ l.length) && decide (l.length ≤ 16)) && (l.take k).all fun x => nodeB (lst x)
theorem fineK_step (l : List ByteArray) (k : Nat) (h : k < l.length) : fineK l (k + 1) = (fineK l k && nodeB (lst l[k])) := by
  unfold fineK
  rw [List.take_succ_eq_append_getElem h, List.all_append]
  simp [Bool.and_assoc]
theorem fineK_all (l : List ByteArray) : fineK l l.length = fineN l := by unfold fineK fineN; rw [List.take_length]
/-- Is there a point in the first k texts? -/
def ptsK (l : List ByteArray) (k : Nat) : Bool := (l.take k).any fun x => (lst x).contains 46
theorem ptsK_step (l : List ByteArray) (k : Nat) (h : k < l.length) : ptsK l (k + 1) = (ptsK l k || (lst l[k]).contains 46) := by
  unfold ptsK
  rw [List.take_succ_eq_append_getElem h, List.any_append]
  simp
theorem ptsK_no (l : List ByteArray) (h : ptsK l l.length = false) : ∀ x ∈ l, (46 : UInt8) ∉ lst x := by
  intro x hx q
  unfold ptsK at h
  rw [List.take_length, List.any_eq_false] at h
  exact h x hx (by simpa using q)
theorem has_step (x : ByteArray) (k : Nat) (h : k < x.size) : ((lst x).take (k + 1)).contains 46 = (((lst x).take k).contains 46 || (x[k] == 46)) := by
  have hl : k < (lst x).length := by rw [lst_len]; exact h
  rw [List.take_succ_eq_append_getElem hl]
  have e : (lst x)[k] = x[k] := rfl
  rw [Bool.eq_iff_iff]
  simp only [List.contains_iff_mem, List.mem_append, Bool.or_eq_true, List.mem_singleton, beq_iff_eq]
  rw [e]
  constructor
  · rintro (h | h); exact .inl h; exact .inr h.symm
  · rintro (h | h); exact .inl h; exact .inr h.symm
end Go.Proofs.YteahbdhhcfoiiaaDoor
