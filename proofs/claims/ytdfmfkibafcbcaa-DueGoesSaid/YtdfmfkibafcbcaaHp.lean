/- due: heaps, plainly. -/
namespace Go.Proofs.Ytdfmfkibafcbcaa
set_option linter.unusedVariables false
set_option linter.unusedSimpArgs false
section
variable {α : Type} (lt : α → α → Bool)
/-- A strict order, of which only 'not below' is used. -/
structure Ord : Prop where
  asym : ∀ a b, lt a b = true → lt b a = false
  tr : ∀ a b c, lt a b = false → lt b c = false → lt a c = false
  tot : ∀ a b, lt a b = false → lt b a = false → a = b
def HeapF (f : Nat → α) (n : Nat) : Prop := ∀ k, 0 < k → k < n → lt (f k) (f ((k - 1) / 2)) = false
def UpInv (f : Nat → α) (n j : Nat) : Prop :=
  (∀ k, 0 < k → k < n → k ≠ j → lt (f k) (f ((k - 1) / 2)) = false) ∧ ∀ k, 0 < k → k < n → (k - 1) / 2 = j → 0 < j → lt (f k) (f ((j - 1) / 2)) = false
def DownInv (f : Nat → α) (n i0 i : Nat) : Prop :=
  (∀ k, 0 < k → k < n → (k - 1) / 2 ≠ i → (k = i0 → i ≠ i0) → lt (f k) (f ((k - 1) / 2)) = false) ∧ ∀ k, 0 < k → k < n → (k - 1) / 2 = i → 0 < i → lt (f k) (f ((i - 1) / 2)) = false
def swapF (f : Nat → α) (i j : Nat) : Nat → α := fun k => if k = i then f j else if k = j then f i else f k
theorem swapF_l (f : Nat → α) (i j : Nat) : swapF f i j i = f j := by simp [swapF]
theorem swapF_r (f : Nat → α) (i j : Nat) : swapF f i j j = f i := by unfold swapF; split <;> simp_all
theorem swapF_o (f : Nat → α) {i j k : Nat} (h1 : k ≠ i) (h2 : k ≠ j) : swapF f i j k = f k := by simp [swapF, h1, h2]
variable {lt}
theorem Ord.irr (O : Ord lt) (a : α) : lt a a = false := by
  cases h : lt a a
  · rfl
  · exact absurd (O.asym a a h) (by rw [h]; decide)
theorem UpInv.step {f : Nat → α} {n j : Nat} (O : Ord lt) (h : UpInv lt f n j) (hn : j < n) (hj : 0 < j) (hl : lt (f j) (f ((j - 1) / 2)) = true) : UpInv lt (swapF f ((j - 1) / 2) j) n ((j - 1) / 2) := by
  obtain ⟨h1, h2⟩ := h
  have pj : (j - 1) / 2 < j := by omega
  have as := O.asym _ _ hl
  obtain ⟨p, hp⟩ : ∃ p, p = (j - 1) / 2 := ⟨_, rfl⟩
  rw [← hp] at hl as pj ⊢
  constructor
  · intro k k0 kn kp
    by_cases kj : k = j
    · subst kj
      rw [← hp, swapF_l, swapF_r]
      exact as
    · rw [swapF_o f kp kj]
      by_cases e : (k - 1) / 2 = p
      · rw [e, swapF_l]
        have := h1 k k0 kn kj
        rw [e] at this
        exact O.tr _ _ _ this as
      · by_cases e2 : (k - 1) / 2 = j
        · rw [e2, swapF_r, hp]
          exact h2 k k0 kn e2 hj
        · rw [swapF_o f e e2]
          exact h1 k k0 kn kj
  · intro k k0 kn kp p0
    have q := h1 p p0 (by omega) (by omega)
    rw [swapF_o f (k := (p - 1) / 2) (by omega) (by omega)]
    by_cases kj : k = j
    · subst kj
      rw [swapF_r]
      exact q
    · rw [swapF_o f (by omega) kj]
      have := h1 k k0 kn kj
      rw [kp] at this
      exact O.tr _ _ _ this q
theorem UpInv.done {f : Nat → α} {n j : Nat} (h : UpInv lt f n j) (hl : j = 0 ∨ lt (f j) (f ((j - 1) / 2)) = false) : HeapF lt f n := by
  intro k k0 kn
  by_cases e : k = j
  · subst e
    rcases hl with h0 | h0
    · omega
    · exact h0
  · exact h.1 k k0 kn e
theorem DownInv.step {f : Nat → α} {n i0 i j : Nat} (O : Ord lt) (h : DownInv lt f n i0 i) (hi : i0 ≤ i) (hj : 0 < j) (hjn : j < n) (hp : (j - 1) / 2 = i) (hm : ∀ k, 0 < k → k < n → (k - 1) / 2 = i → lt (f k) (f j) = false) (hl : lt (f j) (f i) = true) :
    DownInv lt (swapF f i j) n i0 j := by
  obtain ⟨h1, h2⟩ := h
  have as := O.asym _ _ hl
  have ij : i < j := by omega
  constructor
  · intro k k0 kn kj k1
    by_cases e : k = j
    · subst e
      rw [hp, swapF_r, swapF_l]
      exact as
    · by_cases e2 : k = i
      · subst e2
        rw [swapF_l, swapF_o f (by omega) (by omega)]
        exact h2 j hj hjn hp k0
      · rw [swapF_o f e2 e]
        by_cases e3 : (k - 1) / 2 = i
        · rw [e3, swapF_l]
          exact hm k k0 kn e3
        · rw [swapF_o f e3 kj]
          exact h1 k k0 kn e3 (by omega)
  · intro k k0 kn kj j0
    rw [swapF_o f (by omega) (by omega), hp, swapF_l]
    have := h1 k k0 kn (by omega) (by omega)
    rw [kj] at this
    exact this
theorem DownInv.heap {f : Nat → α} {n i0 i : Nat} (h : DownInv lt f n i0 i) (hi : i0 < i ∨ i0 = 0) (hm : ∀ k, 0 < k → k < n → (k - 1) / 2 = i → lt (f k) (f i) = false) : HeapF lt f n := by
  intro k k0 kn
  by_cases e : (k - 1) / 2 = i
  · rw [e]; exact hm k k0 kn e
  · exact h.1 k k0 kn e (by omega)
theorem DownInv.up {f : Nat → α} {n i : Nat} (h : DownInv lt f n i i) (hm : ∀ k, 0 < k → k < n → (k - 1) / 2 = i → lt (f k) (f i) = false) : UpInv lt f n i := by
  refine ⟨fun k k0 kn ki => ?_, fun k k0 kn e i0 => h.2 k k0 kn e i0⟩
  by_cases e : (k - 1) / 2 = i
  · rw [e]; exact hm k k0 kn e
  · exact h.1 k k0 kn e (fun q => absurd q ki)
/-- One place holds something else. -/
theorem HeapF.fix {f g : Nat → α} {n m i : Nat} (O : Ord lt) (h : HeapF lt f n) (hm : m ≤ n) (hi : i < n) (hg : ∀ k, k < m → k ≠ i → g k = f k) : DownInv lt g m i i := by
  refine ⟨fun k k0 km kp ki => ?_, fun k k0 km e i0 => ?_⟩
  · have : k ≠ i := fun e => ki e rfl
    rw [hg k km this, hg _ (by omega) kp]
    exact h k k0 (by omega)
  · rw [hg k km (by omega), hg _ (by omega) (by omega)]
    have a := h k k0 (by omega)
    rw [e] at a
    exact O.tr _ _ _ a (h i i0 hi)
theorem HeapF.push {f g : Nat → α} {n : Nat} (h : HeapF lt f n) (hg : ∀ k, k < n → g k = f k) : UpInv lt g (n + 1) n := by
  refine ⟨fun k k0 km kp => ?_, fun k k0 km e i0 => by omega⟩
  rw [hg k (by omega), hg _ (by omega)]
  exact h k k0 (by omega)
theorem HeapF.less {f : Nat → α} {n m : Nat} (h : HeapF lt f n) (hm : m ≤ n) : HeapF lt f m := fun k k0 km => h k k0 (by omega)
theorem HeapF.congr {f g : Nat → α} {n : Nat} (h : HeapF lt f n) (hg : ∀ k, k < n → g k = f k) : HeapF lt g n := fun k k0 kn => by
  rw [hg k kn, hg _ (by omega)]; exact h k k0 kn
theorem HeapF.top {f : Nat → α} {n : Nat} (O : Ord lt) (h : HeapF lt f n) : ∀ k, k < n → lt (f k) (f 0) = false := by
  intro k
  induction k using Nat.strongRecOn with
  | ind k ih =>
    intro kn
    by_cases e : k = 0
    · rw [e]; exact O.irr _
    · exact O.tr _ _ _ (h k (by omega) kn) (ih ((k - 1) / 2) (by omega) (by omega))
/-! ### lists -/
def swapL (l : List α) (i j : Nat) : List α := match l[i]?, l[j]? with | some a, some b => (l.set i b).set j a | _, _ => l
theorem swapL_eq {l : List α} {i j : Nat} (hi : i < l.length) (hj : j < l.length) : swapL l i j = (l.set i l[j]).set j l[i] := by simp [swapL, List.getElem?_eq_getElem, hi, hj]
theorem swapL_len (l : List α) (i j : Nat) : (swapL l i j).length = l.length := by unfold swapL; split <;> simp
theorem swapL_perm {l : List α} {i j : Nat} (hi : i < l.length) (hj : j < l.length) : (swapL l i j).Perm l := by rw [swapL_eq hi hj]; exact List.set_set_perm hi hj
def fn (d : α) (l : List α) : Nat → α := fun k => l.getD k d
theorem fn_get {d : α} {l : List α} {k : Nat} (h : k < l.length) : fn d l k = l[k] := by simp [fn, List.getD_eq_getElem?_getD, List.getElem?_eq_getElem h]
theorem fn_swap {d : α} {l : List α} {i j : Nat} (hi : i < l.length) (hj : j < l.length) : fn d (swapL l i j) = swapF (fn d l) i j := by
  funext k
  rw [swapL_eq hi hj]
  unfold swapF fn
  simp only [List.getD_eq_getElem?_getD, List.getElem?_set, List.length_set]
  by_cases e1 : k = i
  · subst e1
    by_cases e2 : j = k
    · subst e2; simp [hi]
    · simp [e2, hi, hj, List.getElem?_eq_getElem]
  · by_cases e2 : k = j
    · subst e2
      simp [e1, hj, hi, List.getElem?_eq_getElem]
    · simp [e1, e2, Ne.symm e1, Ne.symm e2]
def HeapL (lt : α → α → Bool) (d : α) (l : List α) : Prop := HeapF lt (fn d l) l.length
end
/-! ### what is sorted -/
section
variable {α : Type} {lt : α → α → Bool}
def Sorted (lt : α → α → Bool) (l : List α) : Prop := l.Pairwise (fun a b => lt a b = true)
/-- Two lists that rise and hold the same are one. -/
theorem sorted_unique (O : Ord lt) : ∀ {l m : List α}, Sorted lt l → Sorted lt m → l.Perm m → l = m
  | [], m, _, _, h => by rw [List.nil_perm.1 h]
  | a :: l, [], _, _, h => by simpa using h.length_eq
  | a :: l, b :: m, h1, h2, h => by
    have h1' := List.pairwise_cons.1 h1
    have h2' := List.pairwise_cons.1 h2
    have ha : a ∈ b :: m := h.subset List.mem_cons_self
    have hb : b ∈ a :: l := h.symm.subset List.mem_cons_self
    have e : a = b := by
      rcases List.mem_cons.1 ha with e | ha
      · exact e
      · rcases List.mem_cons.1 hb with e | hb
        · exact e.symm
        · have q1 := h1'.1 b hb
          have q2 := O.asym _ _ (h2'.1 a ha)
          rw [q1] at q2; cases q2
    subst e
    rw [sorted_unique O h1'.2 h2'.2 (List.Perm.cons_inv h)]
/-- The first of a list that rises is the one that none is below. -/
theorem sorted_head (O : Ord lt) {a b : α} {r : List α} (h : Sorted lt (a :: r)) (hb : b ∈ a :: r) (hm : ∀ c ∈ a :: r, lt c b = false) : b = a := by
  rcases List.mem_cons.1 hb with e | e
  · exact e
  · have := (List.pairwise_cons.1 h).1 b e
    rw [hm a List.mem_cons_self] at this; cases this
end
end Go.Proofs.Ytdfmfkibafcbcaa
