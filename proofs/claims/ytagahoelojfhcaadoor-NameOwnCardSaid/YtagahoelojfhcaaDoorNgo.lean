/- name: where pieces lead, plain. -/
import Derived.Test.YtagahoelojfhcaaDoorNp
namespace Go.Proofs.YtagahoelojfhcaaDoor
set_option linter.unusedVariables false
set_option linter.unusedSimpArgs false
/-- Does a text stand at a place? -/
def preB (a s : ByteArray) (i : Nat) : Bool := a.data.toList.isPrefixOf (s.data.toList.drop i)
/-- Can a piece that begins at i end at j? -/
def goB (g : Gl) (s : ByteArray) (i j : Nat) : Bool :=
  if g.k = 2 then decide (i ≤ j)
  else if g.k = 3 then decide (i < s.size) && decide (j = i + 1)
  else if g.k = 4 then decide (i < s.size) && decide (j = i + 1) && g.t.data.toList.contains (nx s i)
  else if g.k = 5 then g.al.any fun a => preB a s i && decide (j = i + a.size)
  else preB g.t s i && decide (j = i + g.t.size)
/-- The places that a piece leads to from some. -/
def stepR (g : Gl) (s : ByteArray) (R : List Bool) : List Bool := (List.range (s.size + 1)).map fun j => (List.range (s.size + 1)).any fun i => R.getD i false && goB g s i j
def startR (s : ByteArray) : List Bool := true :: List.replicate s.size false
def mNode (gs : List Gl) (s : ByteArray) : Bool := (gs.foldl (fun R g => stepR g s R) (startR s)).getD s.size false
theorem stepR_len (g : Gl) (s : ByteArray) (R : List Bool) : (stepR g s R).length = s.size + 1 := by simp [stepR]
theorem startR_len (s : ByteArray) : (startR s).length = s.size + 1 := by simp [startR]
theorem stepR_at (g : Gl) (s : ByteArray) (R : List Bool) (j : Nat) (h : j < s.size + 1) : (stepR g s R)[j]? = some ((List.range (s.size + 1)).any fun i => R.getD i false && goB g s i j) := by
  simp [stepR, h]
/-- What the places up to k have led to. -/
def partR (g : Gl) (s : ByteArray) (R : List Bool) (k : Nat) : List Bool := (List.range (s.size + 1)).map fun j => (List.range k).any fun i => R.getD i false && goB g s i j
theorem partR_zero (g : Gl) (s : ByteArray) (R : List Bool) : partR g s R 0 = List.replicate (s.size + 1) false := by
  apply List.ext_getElem?; intro j; simp only [partR, List.getElem?_map, List.getElem?_replicate, List.range_zero, List.any_nil]
  by_cases h : j < s.size + 1
  · simp [h]
  · simp [h]
theorem partR_all (g : Gl) (s : ByteArray) (R : List Bool) : partR g s R (s.size + 1) = stepR g s R := rfl
theorem partR_len (g : Gl) (s : ByteArray) (R : List Bool) (k : Nat) : (partR g s R k).length = s.size + 1 := by simp [partR]
theorem partR_skip (g : Gl) (s : ByteArray) (R : List Bool) (k : Nat) (h : R.getD k false = false) : partR g s R (k + 1) = partR g s R k := by
  unfold partR
  congr 1; funext j
  rw [List.range_succ, List.any_append]
  simp [List.any_cons]; intro h1; simp [List.getD_eq_getElem?_getD] at h; simp [h] at h1
/-- Beside what was reached already, the places of one more. -/
def addR (g : Gl) (s : ByteArray) (T : List Bool) (i : Nat) : List Bool := (List.range (s.size + 1)).map fun j => T.getD j false || goB g s i j
theorem partR_add (g : Gl) (s : ByteArray) (R : List Bool) (k : Nat) (h : R.getD k false = true) : partR g s R (k + 1) = addR g s (partR g s R k) k := by
  apply List.ext_getElem?; intro j
  unfold partR addR
  simp only [List.getElem?_map]
  by_cases hj : j < s.size + 1
  · rw [List.getElem?_range hj]
    simp only [Option.map_some, List.getD_eq_getElem?_getD, List.getElem?_map, List.getElem?_range hj, Option.getD_some]
    rw [List.range_succ, List.any_append]
    simp only [List.any_cons, List.any_nil, Bool.or_false]
    rw [List.getD_eq_getElem?_getD] at h
    rw [h, Bool.true_and]
  · rw [List.getElem?_eq_none (by simp; omega)]; rfl
theorem addR_len (g : Gl) (s : ByteArray) (R : List Bool) (k : Nat) : (addR g s R k).length = s.size + 1 := by simp [addR]
theorem getD_set (T : List Bool) (i j : Nat) (h : i < T.length) : (T.set i true).getD j false = (T.getD j false || decide (j = i)) := by
  simp only [List.getD_eq_getElem?_getD, List.getElem?_set]
  by_cases e : i = j
  · subst e; simp [h]
  · rw [if_neg e]; simp [Ne.symm e]
/-- A list of so many places is told by its members. -/
theorem bools_ext {A B : List Bool} (h : A.length = B.length) (g : ∀ j, j < A.length → A.getD j false = B.getD j false) : A = B := by
  apply List.ext_getElem h
  intro j h1 h2
  have := g j h1
  simpa [List.getD_eq_getElem?_getD, h1, h2] using this
theorem addR_at (g : Gl) (s : ByteArray) (T : List Bool) (i j : Nat) (h : j < s.size + 1) : (addR g s T i).getD j false = (T.getD j false || goB g s i j) := by
  simp [addR, List.getD_eq_getElem?_getD, h]
/-- Nothing new. -/
theorem addR_none {g : Gl} {s : ByteArray} {T : List Bool} {i : Nat} (hl : T.length = s.size + 1) (h : ∀ j, j < s.size + 1 → goB g s i j = false) : addR g s T i = T := by
  refine bools_ext (by rw [addR_len, hl]) fun j hj => ?_
  rw [addR_len] at hj
  rw [addR_at _ _ _ _ _ hj, h j hj, Bool.or_false]
/-- One place. -/
theorem addR_one {g : Gl} {s : ByteArray} {T : List Bool} {i k : Nat} (hl : T.length = s.size + 1) (hk : k < s.size + 1) (h : ∀ j, j < s.size + 1 → goB g s i j = decide (j = k)) : addR g s T i = T.set k true := by
  refine bools_ext (by rw [addR_len, List.length_set, hl]) fun j hj => ?_
  rw [addR_len] at hj
  rw [addR_at _ _ _ _ _ hj, h j hj, getD_set _ _ _ (by omega)]
theorem pre_le {a s : ByteArray} {i : Nat} (h : preB a s i = true) (hi : i ≤ s.size) : i + a.size ≤ s.size := by
  unfold preB at h
  have := (List.isPrefixOf_iff_prefix.1 h).length_le
  rw [List.length_drop] at this
  have h1 : a.data.toList.length = a.size := Array.length_toList
  have h2 : s.data.toList.length = s.size := Array.length_toList
  omega
/-- The texts of a choice, up to the n-th. -/
def altR (s : ByteArray) (T : List Bool) (i : Nat) (al : List ByteArray) : List Bool := (List.range (s.size + 1)).map fun j => T.getD j false || al.any fun a => preB a s i && decide (j = i + a.size)
theorem altR_len (s : ByteArray) (T : List Bool) (i : Nat) (al : List ByteArray) : (altR s T i al).length = s.size + 1 := by simp [altR]
theorem altR_at (s : ByteArray) (T : List Bool) (i j : Nat) (al : List ByteArray) (h : j < s.size + 1) : (altR s T i al).getD j false = (T.getD j false || al.any fun a => preB a s i && decide (j = i + a.size)) := by
  simp [altR, List.getD_eq_getElem?_getD, h]
theorem altR_nil (s : ByteArray) (T : List Bool) (i : Nat) (hl : T.length = s.size + 1) : altR s T i [] = T := by
  refine bools_ext (by rw [altR_len, hl]) fun j hj => ?_
  rw [altR_len] at hj
  rw [altR_at _ _ _ _ _ hj]; simp
theorem altR_yes (s : ByteArray) (T : List Bool) (i : Nat) (al : List ByteArray) (a : ByteArray) (h : preB a s i = true) (hi : i ≤ s.size) : altR s T i (al ++ [a]) = (altR s T i al).set (i + a.size) true := by
  have := pre_le h hi
  refine bools_ext (by rw [altR_len, List.length_set, altR_len]) fun j hj => ?_
  rw [altR_len] at hj
  rw [altR_at _ _ _ _ _ hj, getD_set _ _ _ (by rw [altR_len]; omega), altR_at _ _ _ _ _ hj, List.any_append]
  simp [h, Bool.or_assoc]
theorem altR_no (s : ByteArray) (T : List Bool) (i : Nat) (al : List ByteArray) (a : ByteArray) (h : preB a s i = false) : altR s T i (al ++ [a]) = altR s T i al := by
  refine bools_ext (by rw [altR_len, altR_len]) fun j hj => ?_
  rw [altR_len] at hj
  rw [altR_at _ _ _ _ _ hj, altR_at _ _ _ _ _ hj, List.any_append]
  simp [h]
theorem addR_alts {g : Gl} (hk : g.k = 5) (s : ByteArray) (T : List Bool) (i : Nat) : addR g s T i = altR s T i g.al := by
  unfold addR altR goB; rw [hk]; rfl
/-- All places from one on, up to another. -/
def anyR (s : ByteArray) (T : List Bool) (i k : Nat) : List Bool := (List.range (s.size + 1)).map fun j => T.getD j false || (decide (i ≤ j) && decide (j < k))
theorem anyR_len (s : ByteArray) (T : List Bool) (i k : Nat) : (anyR s T i k).length = s.size + 1 := by simp [anyR]
theorem anyR_at (s : ByteArray) (T : List Bool) (i k j : Nat) (h : j < s.size + 1) : (anyR s T i k).getD j false = (T.getD j false || (decide (i ≤ j) && decide (j < k))) := by
  simp [anyR, List.getD_eq_getElem?_getD, h]
theorem anyR_start (s : ByteArray) (T : List Bool) (i : Nat) (hl : T.length = s.size + 1) : anyR s T i i = T := by
  refine bools_ext (by rw [anyR_len, hl]) fun j hj => ?_
  rw [anyR_len] at hj
  rw [anyR_at _ _ _ _ _ hj, show (decide (i ≤ j) && decide (j < i)) = false by rw [Bool.and_eq_false_iff]; simp; omega, Bool.or_false]
theorem anyR_step (s : ByteArray) (T : List Bool) (i k : Nat) (h1 : i ≤ k) (h2 : k ≤ s.size) : anyR s T i (k + 1) = (anyR s T i k).set k true := by
  refine bools_ext (by rw [anyR_len, List.length_set, anyR_len]) fun j hj => ?_
  rw [anyR_len] at hj
  rw [anyR_at _ _ _ _ _ hj, getD_set _ _ _ (by rw [anyR_len]; omega), anyR_at _ _ _ _ _ hj, Bool.or_assoc]
  congr 1
  rw [Bool.eq_iff_iff]; simp only [Bool.or_eq_true, Bool.and_eq_true, decide_eq_true_eq]; omega
theorem addR_any {g : Gl} (hk : g.k = 2) (s : ByteArray) (T : List Bool) (i : Nat) : addR g s T i = anyR s T i (s.size + 1) := by
  apply List.ext_getElem?
  intro j
  unfold addR anyR goB; rw [hk]
  simp only [List.getElem?_map, if_true]
  by_cases hj : j < s.size + 1
  · simp [hj]
  · simp [hj]
end Go.Proofs.YtagahoelojfhcaaDoor
