/- Texts that belong together: Hp Hq Math Math2 Wbase Hid Ownl Upd Chg Mpg Qm Qk Ql Qs Qp. -/
import Derived.Test.YtbnlhjooimppeaaProg
import Derived.Sort.Walk0
import Init
import Derived.WalkKit
import Derived.WalkSpells
import Derived.WalkLawsBesides
import Derived.Handy
import Derived.Deep.RegionHeld3
import Derived.Deep.QuietTactic
import Derived.BigQuiet
import Derived.KernelRfl
import Derived.Deep.Cut
import Derived.SliceStrings
import Derived.Laws.Rows
import Derived.Laws.AppendOwn
import Derived.Maps.AppendAt
import Derived.Laws.AppendOwnNone
import Derived.Maps.Ext
import Derived.Maps.RangeWalk
import Derived.Maps.OwnSet
import Derived.Maps.OwnOps
import Derived.Deep.RegionLaw
import Derived.Deep.RegionWith
import Derived.BigRegion
import Derived.Deep.AppendLies
set_option linter.unusedSimpArgs false
set_option linter.unusedVariables false
/- due: heaps, plainly. -/
namespace Go.Proofs.Ytbnlhjooimppeaa
set_option linter.unusedVariables false
set_option linter.unusedSimpArgs false
section
variable {α : Type} (lt : α → α → Bool)
/-- A strict order, of which only 'not below' is used. -/
structure Ord : Prop where
  asym : ∀ a b, lt a b = true → lt b a = false
  tr : ∀ a b c, lt a b = false → lt b c = false → lt a c = false
  tot : ∀ a b, lt a b = false → lt b a = false → a = b
def HeapF (f : Nat → α) (n : Nat) : Prop := ∀ k, 0 < k → k < n → lt (f k) (f ((k - 1) / 2)) = false
def UpInv (f : Nat → α) (n j : Nat) : Prop :=
  (∀ k, 0 < k → k < n → k ≠ j → lt (f k) (f ((k - 1) / 2)) = false) ∧ ∀ k, 0 < k → k < n → (k - 1) / 2 = j → 0 < j → lt (f k) (f ((j - 1) / 2)) = false
def DownInv (f : Nat → α) (n i0 i : Nat) : Prop :=
  (∀ k, 0 < k → k < n → (k - 1) / 2 ≠ i → (k = i0 → i ≠ i0) → lt (f k) (f ((k - 1) / 2)) = false) ∧ ∀ k, 0 < k → k < n → (k - 1) / 2 = i → 0 < i → lt (f k) (f ((i - 1) / 2)) = false
def swapF (f : Nat → α) (i j : Nat) : Nat → α := fun k => if k = i then f j else if k = j then f i else f k
theorem swapF_l (f : Nat → α) (i j : Nat) : swapF f i j i = f j := by simp [swapF]
theorem swapF_r (f : Nat → α) (i j : Nat) : swapF f i j j = f i := by unfold swapF; split <;> simp_all
theorem swapF_o (f : Nat → α) {i j k : Nat} (h1 : k ≠ i) (h2 : k ≠ j) : swapF f i j k = f k := by simp [swapF, h1, h2]
variable {lt}
theorem Ord.irr (O : Ord lt) (a : α) : lt a a = false := by
  cases h : lt a a
  · rfl
  · exact absurd (O.asym a a h) (by rw [h]; decide)
theorem UpInv.step {f : Nat → α} {n j : Nat} (O : Ord lt) (h : UpInv lt f n j) (hn : j < n) (hj : 0 < j) (hl : lt (f j) (f ((j - 1) / 2)) = true) : UpInv lt (swapF f ((j - 1) / 2) j) n ((j - 1) / 2) := by
  obtain ⟨h1, h2⟩ := h
  have pj : (j - 1) / 2 < j := by omega
  have ass := O.asym _ _ hl
  obtain ⟨p, hp⟩ : ∃ p, p = (j - 1) / 2 := ⟨_, rfl⟩
  rw [← hp] at hl ass pj ⊢
  constructor
  · intro k k0 kn kp
    by_cases kj : k = j
    · subst kj
      rw [← hp, swapF_l, swapF_r]
      exact ass
    · rw [swapF_o f kp kj]
      by_cases e : (k - 1) / 2 = p
      · rw [e, swapF_l]
        have := h1 k k0 kn kj
        rw [e] at this
        exact O.tr _ _ _ this ass
      · by_cases e2 : (k - 1) / 2 = j
        · rw [e2, swapF_r, hp]
          exact h2 k k0 kn e2 hj
        · rw [swapF_o f e e2]
          exact h1 k k0 kn kj
  · intro k k0 kn kp p0
    have q := h1 p p0 (by omega) (by omega)
    rw [swapF_o f (k := (p - 1) / 2) (by omega) (by omega)]
    by_cases kj : k = j
    · subst kj
      rw [swapF_r]
      exact q
    · rw [swapF_o f (by omega) kj]
      have := h1 k k0 kn kj
      rw [kp] at this
      exact O.tr _ _ _ this q
theorem UpInv.done {f : Nat → α} {n j : Nat} (h : UpInv lt f n j) (hl : j = 0 ∨ lt (f j) (f ((j - 1) / 2)) = false) : HeapF lt f n := by
  intro k k0 kn
  by_cases e : k = j
  · subst e
    rcases hl with h0 | h0
    · omega
    · exact h0
  · exact h.1 k k0 kn e
theorem DownInv.step {f : Nat → α} {n i0 i j : Nat} (O : Ord lt) (h : DownInv lt f n i0 i) (hi : i0 ≤ i) (hj : 0 < j) (hjn : j < n) (hp : (j - 1) / 2 = i) (hm : ∀ k, 0 < k → k < n → (k - 1) / 2 = i → lt (f k) (f j) = false) (hl : lt (f j) (f i) = true) :
    DownInv lt (swapF f i j) n i0 j := by
  obtain ⟨h1, h2⟩ := h
  have ass := O.asym _ _ hl
  have ij : i < j := by omega
  constructor
  · intro k k0 kn kj k1
    by_cases e : k = j
    · subst e
      rw [hp, swapF_r, swapF_l]
      exact ass
    · by_cases e2 : k = i
      · subst e2
        rw [swapF_l, swapF_o f (by omega) (by omega)]
        exact h2 j hj hjn hp k0
      · rw [swapF_o f e2 e]
        by_cases e3 : (k - 1) / 2 = i
        · rw [e3, swapF_l]
          exact hm k k0 kn e3
        · rw [swapF_o f e3 kj]
          exact h1 k k0 kn e3 (by omega)
  · intro k k0 kn kj j0
    rw [swapF_o f (by omega) (by omega), hp, swapF_l]
    have := h1 k k0 kn (by omega) (by omega)
    rw [kj] at this
    exact this
theorem DownInv.heap {f : Nat → α} {n i0 i : Nat} (h : DownInv lt f n i0 i) (hi : i0 < i ∨ i0 = 0) (hm : ∀ k, 0 < k → k < n → (k - 1) / 2 = i → lt (f k) (f i) = false) : HeapF lt f n := by
  intro k k0 kn
  by_cases e : (k - 1) / 2 = i
  · rw [e]; exact hm k k0 kn e
  · exact h.1 k k0 kn e (by omega)
theorem DownInv.up {f : Nat → α} {n i : Nat} (h : DownInv lt f n i i) (hm : ∀ k, 0 < k → k < n → (k - 1) / 2 = i → lt (f k) (f i) = false) : UpInv lt f n i := by
  refine ⟨fun k k0 kn ki => ?_, fun k k0 kn e i0 => h.2 k k0 kn e i0⟩
  by_cases e : (k - 1) / 2 = i
  · rw [e]; exact hm k k0 kn e
  · exact h.1 k k0 kn e (fun q => absurd q ki)
/-- One place holds something else. -/
theorem HeapF.fix {f g : Nat → α} {n m i : Nat} (O : Ord lt) (h : HeapF lt f n) (hm : m ≤ n) (hi : i < n) (hg : ∀ k, k < m → k ≠ i → g k = f k) : DownInv lt g m i i := by
  refine ⟨fun k k0 km kp ki => ?_, fun k k0 km e i0 => ?_⟩
  · have : k ≠ i := fun e => ki e rfl
    rw [hg k km this, hg _ (by omega) kp]
    exact h k k0 (by omega)
  · rw [hg k km (by omega), hg _ (by omega) (by omega)]
    have a := h k k0 (by omega)
    rw [e] at a
    exact O.tr _ _ _ a (h i i0 hi)
theorem HeapF.push {f g : Nat → α} {n : Nat} (h : HeapF lt f n) (hg : ∀ k, k < n → g k = f k) : UpInv lt g (n + 1) n := by
  refine ⟨fun k k0 km kp => ?_, fun k k0 km e i0 => by omega⟩
  rw [hg k (by omega), hg _ (by omega)]
  exact h k k0 (by omega)
theorem HeapF.less {f : Nat → α} {n m : Nat} (h : HeapF lt f n) (hm : m ≤ n) : HeapF lt f m := fun k k0 km => h k k0 (by omega)
theorem HeapF.congr {f g : Nat → α} {n : Nat} (h : HeapF lt f n) (hg : ∀ k, k < n → g k = f k) : HeapF lt g n := fun k k0 kn => by
  rw [hg k kn, hg _ (by omega)]; exact h k k0 kn
theorem HeapF.top {f : Nat → α} {n : Nat} (O : Ord lt) (h : HeapF lt f n) : ∀ k, k < n → lt (f k) (f 0) = false := by
  intro k
  induction k using Nat.strongRecOn with
  | ind k ih =>
    intro kn
    by_cases e : k = 0
    · rw [e]; exact O.irr _
    · exact O.tr _ _ _ (h k (by omega) kn) (ih ((k - 1) / 2) (by omega) (by omega))
/-! ### lists -/
def swapL (l : List α) (i j : Nat) : List α := match l[i]?, l[j]? with | some a, some b => (l.set i b).set j a | _, _ => l
theorem swapL_eq {l : List α} {i j : Nat} (hi : i < l.length) (hj : j < l.length) : swapL l i j = (l.set i l[j]).set j l[i] := by simp [swapL, List.getElem?_eq_getElem, hi, hj]
theorem swapL_len (l : List α) (i j : Nat) : (swapL l i j).length = l.length := by unfold swapL; split <;> simp
theorem swapL_perm {l : List α} {i j : Nat} (hi : i < l.length) (hj : j < l.length) : (swapL l i j).Perm l := by rw [swapL_eq hi hj]; exact List.set_set_perm hi hj
def fn (d : α) (l : List α) : Nat → α := fun k => l.getD k d
theorem fn_get {d : α} {l : List α} {k : Nat} (h : k < l.length) : fn d l k = l[k] := by simp [fn, List.getD_eq_getElem?_getD, List.getElem?_eq_getElem h]
theorem fn_swap {d : α} {l : List α} {i j : Nat} (hi : i < l.length) (hj : j < l.length) : fn d (swapL l i j) = swapF (fn d l) i j := by
  funext k
  rw [swapL_eq hi hj]
  unfold swapF fn
  simp only [List.getD_eq_getElem?_getD, List.getElem?_set, List.length_set]
  by_cases e1 : k = i
  · subst e1
    by_cases e2 : j = k
    · subst e2; simp [hi]
    · simp [e2, hi, hj, List.getElem?_eq_getElem]
  · by_cases e2 : k = j
    · subst e2
      simp [e1, hj, hi, List.getElem?_eq_getElem]
    · simp [e1, e2, Ne.symm e1, Ne.symm e2]
def HeapL (lt : α → α → Bool) (d : α) (l : List α) : Prop := HeapF lt (fn d l) l.length
end
/-! ### what is sorted -/
section
variable {α : Type} {lt : α → α → Bool}
def Sorted (lt : α → α → Bool) (l : List α) : Prop := l.Pairwise (fun a b => lt a b = true)
/-- Two lists that rise and hold the same are one. -/
theorem sorted_unique (O : Ord lt) : ∀ {l m : List α}, Sorted lt l → Sorted lt m → l.Perm m → l = m
  | [], m, _, _, h => by rw [List.nil_perm.1 h]
  | a :: l, [], _, _, h => by simpa using h.length_eq
  | a :: l, b :: m, h1, h2, h => by
    have h1' := List.pairwise_cons.1 h1
    have h2' := List.pairwise_cons.1 h2
    have ha : a ∈ b :: m := h.subset List.mem_cons_self
    have hb : b ∈ a :: l := h.symm.subset List.mem_cons_self
    have e : a = b := by
      rcases List.mem_cons.1 ha with e | ha
      · exact e
      · rcases List.mem_cons.1 hb with e | hb
        · exact e.symm
        · have q1 := h1'.1 b hb
          have q2 := O.asym _ _ (h2'.1 a ha)
          rw [q1] at q2; cases q2
    subst e
    rw [sorted_unique O h1'.2 h2'.2 (List.Perm.cons_inv h)]
/-- The first of a list that rises is the one that none is below. -/
theorem sorted_head (O : Ord lt) {a b : α} {r : List α} (h : Sorted lt (a :: r)) (hb : b ∈ a :: r) (hm : ∀ c ∈ a :: r, lt c b = false) : b = a := by
  rcases List.mem_cons.1 hb with e | e
  · exact e
  · have := (List.pairwise_cons.1 h).1 b e
    rw [hm a List.mem_cons_self] at this; cases this
end
end Go.Proofs.Ytbnlhjooimppeaa
/- due: a queue, plainly: a list that rises. -/
namespace Go.Proofs.Ytbnlhjooimppeaa
set_option linter.unusedVariables false
set_option linter.unusedSimpArgs false
/-- A key and when it is due. -/
abbrev En := ByteArray × Int
theorem bytesLess_eq' (x y : List UInt8) : Op.bytesLess x y = decide (x < y) := Go.Proofs.bytesLess_eq x y
def ltB (a b : ByteArray) : Bool := Op.bytesLess a.toList b.toList
theorem toL_inj {a b : ByteArray} (h : a.toList = b.toList) : a = b := by
  rw [ByteArray.toList_eq, ByteArray.toList_eq] at h
  exact ByteArray.ext (Array.toList_inj.1 h)
theorem ltB_asym {a b : ByteArray} (h : ltB a b = true) : ltB b a = false := by
  unfold ltB at *
  rw [bytesLess_eq', decide_eq_true_eq] at h
  rw [bytesLess_eq', decide_eq_false_iff_not]
  exact fun q => List.lt_irrefl _ (List.lt_trans h q)
theorem ltB_tot {a b : ByteArray} (h : ltB a b = false) (k : ltB b a = false) : a = b := by
  unfold ltB at *
  rw [bytesLess_eq', decide_eq_false_iff_not] at h k
  exact toL_inj (List.le_antisymm k h)
theorem ltB_tr {a b c : ByteArray} (h : ltB a b = false) (k : ltB b c = false) : ltB a c = false := by
  unfold ltB at *
  rw [bytesLess_eq', decide_eq_false_iff_not] at h k ⊢
  exact fun q => absurd q (List.not_lt.2 (List.le_trans (List.not_lt.1 k) (List.not_lt.1 h)) )
theorem ltB_irr (a : ByteArray) : ltB a a = false := by
  unfold ltB
  rw [bytesLess_eq', decide_eq_false_iff_not]
  exact List.lt_irrefl _
theorem ltB_trans {a b c : ByteArray} (h : ltB a b = true) (k : ltB b c = true) : ltB a c = true := by
  unfold ltB at *
  rw [bytesLess_eq', decide_eq_true_eq] at h k ⊢
  exact List.lt_trans h k
def ltE (a b : En) : Bool := decide (a.2 < b.2) || (decide (a.2 = b.2) && ltB a.1 b.1)
theorem ltE_iff (a b : En) : ltE a b = true ↔ a.2 < b.2 ∨ a.2 = b.2 ∧ ltB a.1 b.1 = true := by simp [ltE]
theorem ltE_not (a b : En) : ltE a b = false ↔ ¬ a.2 < b.2 ∧ (a.2 = b.2 → ltB a.1 b.1 = false) := by
  rw [← Bool.not_eq_true, ltE_iff]
  constructor
  · intro h
    refine ⟨fun q => h (.inl q), fun q => ?_⟩
    cases e : ltB a.1 b.1
    · rfl
    · exact absurd (.inr ⟨q, e⟩) h
  · rintro ⟨h1, h2⟩ (q | ⟨q, q2⟩)
    · exact h1 q
    · rw [h2 q] at q2; cases q2
theorem ordE : Ord ltE where
  asym a b h := by
    rw [ltE_iff] at h
    rw [ltE_not]
    rcases h with h | ⟨h, k⟩
    · exact ⟨by omega, fun q => by omega⟩
    · exact ⟨by omega, fun _ => ltB_asym k⟩
  tr a b c h k := by
    rw [ltE_not] at *
    obtain ⟨h1, h2⟩ := h
    obtain ⟨k1, k2⟩ := k
    refine ⟨by omega, fun q => ?_⟩
    exact ltB_tr (h2 (by omega)) (k2 (by omega))
  tot a b h k := by
    rw [ltE_not] at *
    have e : a.2 = b.2 := by omega
    exact Prod.ext (ltB_tot (h.2 e) (k.2 e.symm)) e
/-- No key twice. -/
def Keys (l : List En) : Prop := l.Pairwise fun a b => a.1 ≠ b.1
theorem Keys.perm {l m : List En} (h : Keys l) (p : l.Perm m) : Keys m := (List.Perm.pairwise_iff (fun {_ _} q => Ne.symm q) p).1 h
theorem Keys.eq {l : List En} (h : Keys l) {i j : Nat} (hi : i < l.length) (hj : j < l.length) (e : l[i].1 = l[j].1) : i = j := by
  rw [Keys, List.pairwise_iff_getElem] at h
  rcases Nat.lt_trichotomy i j with q | q | q
  · exact absurd e (h i j hi hj q)
  · exact q
  · exact absurd e.symm (h j i hj hi q)
def hasK (r : List En) (key : ByteArray) : Bool := r.any fun e => decide (e.1 = key)
def delK (r : List En) (key : ByteArray) : List En := r.filter fun e => !decide (e.1 = key)
def insE (r : List En) (d : En) : List En := r.takeWhile (fun e => ltE e d) ++ d :: r.dropWhile (fun e => ltE e d)
def setR (r : List En) (key : ByteArray) (at' : Int) : List En := insE (delK r key) (key, at')
theorem hasK_iff {r : List En} {key : ByteArray} : hasK r key = true ↔ ∃ e ∈ r, e.1 = key := by simp [hasK]
theorem hasK_perm {l r : List En} (p : l.Perm r) (key : ByteArray) : hasK l key = hasK r key := by
  rw [Bool.eq_iff_iff, hasK_iff, hasK_iff]
  exact ⟨fun ⟨e, h, q⟩ => ⟨e, p.subset h, q⟩, fun ⟨e, h, q⟩ => ⟨e, p.symm.subset h, q⟩⟩
theorem delK_none {r : List En} {key : ByteArray} (h : hasK r key = false) : delK r key = r := by
  unfold delK
  rw [List.filter_eq_self]
  intro a ha
  simp only [Bool.not_eq_true', decide_eq_false_iff_not]
  exact fun e => by
    have : hasK r key = true := hasK_iff.2 ⟨a, ha, e⟩
    rw [h] at this; cases this
theorem hasK_del (r : List En) (key : ByteArray) : hasK (delK r key) key = false := by
  cases h : hasK (delK r key) key
  · rfl
  · obtain ⟨e, he, q⟩ := hasK_iff.1 h
    have := (List.mem_filter.1 he).2
    rw [q] at this
    simp at this
theorem hasK_del_ne (r : List En) {key k : ByteArray} (ne : k ≠ key) : hasK (delK r key) k = hasK r k := by
  rw [Bool.eq_iff_iff, hasK_iff, hasK_iff]
  constructor
  · rintro ⟨e, h, q⟩; exact ⟨e, (List.mem_filter.1 h).1, q⟩
  · rintro ⟨e, h, q⟩
    refine ⟨e, List.mem_filter.2 ⟨h, ?_⟩, q⟩
    subst q; simp [ne]
theorem Keys.del {r : List En} (h : Keys r) (key : ByteArray) : Keys (delK r key) := h.filter _
theorem Sorted.del {r : List En} (h : Sorted ltE r) (key : ByteArray) : Sorted ltE (delK r key) := h.filter _
theorem delK_len {r : List En} (h : Keys r) {key : ByteArray} (hk : hasK r key = true) : (delK r key).length + 1 = r.length := by
  induction r with
  | nil => cases hk
  | cons a r ih =>
    have h' := List.pairwise_cons.1 h
    by_cases e : a.1 = key
    · have : delK (a :: r) key = delK r key := by simp [delK, e]
      rw [this, delK_none]
      · rfl
      · cases q : hasK r key
        · rfl
        · obtain ⟨x, hx, hxe⟩ := hasK_iff.1 q
          exact absurd (e.trans hxe.symm) (h'.1 x hx)
    · have : delK (a :: r) key = a :: delK r key := by simp [delK, e]
      have hk' : hasK r key = true := by simpa [hasK, e] using hk
      rw [this, List.length_cons, List.length_cons, ih h'.2 hk']
/-- Without one that is there. -/
theorem delK_erase {l : List En} (h : Keys l) {i : Nat} (hi : i < l.length) : delK l l[i].1 = l.eraseIdx i := by
  induction l generalizing i with
  | nil => simp at hi
  | cons a l ih =>
    have h' := List.pairwise_cons.1 h
    cases i with
    | zero =>
      have : delK (a :: l) a.1 = delK l a.1 := by simp [delK]
      simp only [List.getElem_cons_zero, List.eraseIdx_cons_zero]
      rw [this, delK_none]
      cases q : hasK l a.1
      · rfl
      · obtain ⟨x, hx, hxe⟩ := hasK_iff.1 q
        exact absurd hxe.symm (h'.1 x hx)
    | succ i =>
      have hi' : i < l.length := by simpa using hi
      have ne : a.1 ≠ l[i].1 := h'.1 _ (List.getElem_mem hi')
      simp only [List.getElem_cons_succ, List.eraseIdx_cons_succ]
      rw [show delK (a :: l) l[i].1 = a :: delK l l[i].1 from by simp [delK, ne], ih h'.2 hi']
theorem delK_perm {l r : List En} (p : l.Perm r) (key : ByteArray) : (delK l key).Perm (delK r key) := p.filter _
theorem erase_cons_perm {α : Type} : ∀ {l : List α} {i : Nat} (hi : i < l.length), (l[i] :: l.eraseIdx i).Perm l
  | a :: l, 0, _ => List.Perm.refl _
  | a :: l, i + 1, h => by
    simp only [List.getElem_cons_succ, List.eraseIdx_cons_succ]
    exact (List.Perm.swap _ _ _).trans ((erase_cons_perm (by simpa using h)).cons a)
theorem set_perm {α : Type} {l : List α} {i : Nat} (hi : i < l.length) (x : α) : (l.set i x).Perm (x :: l.eraseIdx i) := by
  have h := (erase_cons_perm (l := l.set i x) (i := i) (by simpa using hi)).symm
  rw [List.getElem_set_self, List.eraseIdx_set_eq] at h
  exact h
theorem insE_perm (r : List En) (d : En) : (insE r d).Perm (d :: r) := by
  unfold insE
  have := List.takeWhile_append_dropWhile (p := fun e => ltE e d) (l := r)
  exact List.perm_middle.trans (by rw [this])
theorem insE_sorted {r : List En} (h : Sorted ltE r) (d : En) (hk : hasK r d.1 = false) : Sorted ltE (insE r d) := by
  induction r with
  | nil => simp [insE, Sorted]
  | cons a r ih =>
    have h' := List.pairwise_cons.1 h
    have hk' : hasK r d.1 = false := by
      cases q : hasK r d.1
      · rfl
      · obtain ⟨x, hx, e⟩ := hasK_iff.1 q
        rw [hasK_iff.2 ⟨x, List.mem_cons_of_mem _ hx, e⟩] at hk; cases hk
    have ne : a ≠ d := fun e => by rw [hasK_iff.2 ⟨a, List.mem_cons_self, by rw [e]⟩] at hk; cases hk
    by_cases e : ltE a d = true
    · have : insE (a :: r) d = a :: insE r d := by simp [insE, e]
      rw [this]
      refine List.pairwise_cons.2 ⟨fun x hx => ?_, ih h'.2 hk'⟩
      rcases List.mem_cons.1 ((insE_perm r d).subset hx) with rfl | q
      · exact e
      · exact h'.1 x q
    · have e := Bool.not_eq_true _ ▸ e
      have ed : ltE d a = true := by
        cases q : ltE d a
        · exact absurd (ordE.tot _ _ e q) ne
        · rfl
      have : insE (a :: r) d = d :: a :: r := by simp [insE, e]
      rw [this]
      refine List.pairwise_cons.2 ⟨fun x hx => ?_, h⟩
      rcases List.mem_cons.1 hx with rfl | q
      · exact ed
      · have q1 := h'.1 x q
        rw [ltE_iff] at ed q1 ⊢
        rcases ed with ed | ⟨ed, ed2⟩
        · rcases q1 with q1 | q1 <;> (left; omega)
        · rcases q1 with q1 | ⟨q1, q2⟩
          · left; omega
          · right
            exact ⟨by omega, ltB_trans ed2 q2⟩
theorem Keys.ins {r : List En} (h : Keys r) (d : En) (hk : hasK r d.1 = false) : Keys (insE r d) := by
  refine Keys.perm (l := d :: r) (List.pairwise_cons.2 ⟨fun x hx e => ?_, h⟩) (insE_perm r d).symm
  rw [hasK_iff.2 ⟨x, hx, e.symm⟩] at hk; cases hk
/-- Set, at what the program makes of it. -/
theorem set_old {l r : List En} (p : l.Perm r) (k : Keys l) {i : Nat} (hi : i < l.length) (at' : Int) : (l.set i (l[i].1, at')).Perm (setR r l[i].1 at') := by
  refine (set_perm hi _).trans (List.Perm.trans ?_ (insE_perm _ _).symm)
  refine List.Perm.cons _ ?_
  rw [← delK_erase k hi]
  exact delK_perm p _
theorem set_new {l r : List En} (p : l.Perm r) {key : ByteArray} (hk : hasK r key = false) (at' : Int) : (l ++ [(key, at')]).Perm (setR r key at') := by
  refine (List.perm_append_comm.trans (List.Perm.trans ?_ (insE_perm _ _).symm))
  rw [delK_none hk]
  exact p.cons _
theorem setR_sorted {r : List En} (h : Sorted ltE r) (key : ByteArray) (at' : Int) : Sorted ltE (setR r key at') := insE_sorted (h.del key) _ (hasK_del r key)
theorem setR_keys {r : List En} (h : Keys r) (key : ByteArray) (at' : Int) : Keys (setR r key at') := (h.del key).ins _ (hasK_del r key)
theorem setR_len {r : List En} (h : Keys r) (key : ByteArray) (at' : Int) : (setR r key at').length = if hasK r key then r.length else r.length + 1 := by
  have := (insE_perm (delK r key) (key, at')).length_eq
  unfold setR
  rw [this, List.length_cons]
  cases q : hasK r key
  · rw [delK_none q]; rfl
  · rw [delK_len h q]; rfl
/-- What stands at a key. -/
def atK (r : List En) (key : ByteArray) : Option Int := (r.find? fun e => decide (e.1 = key)).map (·.2)
theorem atK_some {r : List En} (h : Keys r) {key : ByteArray} {a : Int} : atK r key = some a ↔ (key, a) ∈ r := by
  unfold atK
  induction r with
  | nil => simp
  | cons x r ih =>
    have h' := List.pairwise_cons.1 h
    by_cases e : x.1 = key
    · rw [List.find?_cons_of_pos (by simpa using e)]
      constructor
      · intro q
        have q : x.2 = a := by simpa using q
        exact List.mem_cons.2 (.inl (Prod.ext e.symm q.symm))
      · intro q
        rcases List.mem_cons.1 q with q | q
        · rw [← q]; rfl
        · exact absurd (by rw [e]) (h'.1 _ q)
    · rw [List.find?_cons_of_neg (by simpa using e), ih h'.2]
      constructor
      · exact fun q => List.mem_cons_of_mem _ q
      · intro q
        rcases List.mem_cons.1 q with q | q
        · exact absurd (by rw [← q]) e
        · exact q
theorem atK_none {r : List En} {key : ByteArray} : atK r key = none ↔ hasK r key = false := by
  unfold atK hasK
  rw [Option.map_eq_none_iff, List.find?_eq_none]
  simp
/-- The place of a key. -/
def idxK (l : List En) (key : ByteArray) : Option Nat := l.findIdx? fun e => decide (e.1 = key)
theorem idxK_some {l : List En} (h : Keys l) {key : ByteArray} {i : Nat} : idxK l key = some i ↔ ∃ hi : i < l.length, l[i].1 = key := by
  unfold idxK
  rw [List.findIdx?_eq_some_iff_getElem]
  constructor
  · rintro ⟨hi, h1, _⟩; exact ⟨hi, by simpa using h1⟩
  · rintro ⟨hi, h1⟩
    refine ⟨hi, by simpa using h1, fun j hj => ?_⟩
    simp only [Bool.not_eq_true', decide_eq_false_iff_not, Bool.not_eq_true]
    intro q
    have := h.eq (by omega) hi (q.trans h1.symm)
    omega
theorem idxK_none {l : List En} {key : ByteArray} : idxK l key = none ↔ hasK l key = false := by
  unfold idxK hasK
  rw [List.findIdx?_eq_none_iff]
  simp
theorem idxK_has {l : List En} (key : ByteArray) : (idxK l key).isSome = hasK l key := by
  cases q : idxK l key
  · rw [idxK_none.1 q]; rfl
  · cases e : hasK l key
    · rw [idxK_none.2 e] at q; cases q
    · rfl
end Go.Proofs.Ytbnlhjooimppeaa
/- Plain numbers: a wide number (high word, low word) as one whole number; the order; what fits 128 bits. No Go in sight. -/
namespace Go.Proofs.Ytbnlhjooimppeaa
set_option linter.unusedVariables false
namespace W
def B : Int := 18446744073709551616
/-- The number of a high and a low word. -/
def V (h l : Int) : Int := h * 18446744073709551616 + l
def hi (v : Int) : Int := v / 18446744073709551616
def lo (v : Int) : Int := v % 18446744073709551616
structure IsLo (l : Int) : Prop where
  a : 0 ≤ l
  b : l < 18446744073709551616
structure IsHi (h : Int) : Prop where
  a : -9223372036854775808 ≤ h
  b : h < 9223372036854775808
instance (v : Int) : Decidable (IsHi v) :=
  if h : -9223372036854775808 ≤ v ∧ v < 9223372036854775808 then isTrue ⟨h.1, h.2⟩ else isFalse fun f => h ⟨f.a, f.b⟩
structure Fits (v : Int) : Prop where
  a : -170141183460469231731687303715884105728 ≤ v
  b : v < 170141183460469231731687303715884105728
instance (v : Int) : Decidable (Fits v) :=
  if h : -170141183460469231731687303715884105728 ≤ v ∧ v < 170141183460469231731687303715884105728 then isTrue ⟨h.1, h.2⟩ else isFalse fun f => h ⟨f.a, f.b⟩
def cmpI (x y : Int) : Int := if x < y then -1 else if x = y then 0 else 1
theorem isLo_lo (v : Int) : IsLo (lo v) := ⟨by unfold lo; omega, by unfold lo; omega⟩
theorem isHi_hi {v : Int} (f : Fits v) : IsHi (hi v) := by obtain ⟨a, b⟩ := f; exact ⟨by unfold hi; omega, by unfold hi; omega⟩
theorem V_hi_lo (v : Int) : V (hi v) (lo v) = v := by unfold V hi lo; omega
theorem hi_V {h l : Int} (i : IsLo l) : hi (V h l) = h := by obtain ⟨a, b⟩ := i; unfold hi V; omega
theorem lo_V {h l : Int} (i : IsLo l) : lo (V h l) = l := by obtain ⟨a, b⟩ := i; unfold lo V; omega
theorem fits_V {h l : Int} (j : IsHi h) (i : IsLo l) : Fits (V h l) := by obtain ⟨a, b⟩ := i; obtain ⟨c, d⟩ := j; exact ⟨by unfold V; omega, by unfold V; omega⟩
theorem V_inj {h l h' l' : Int} (i : IsLo l) (i' : IsLo l') (e : V h l = V h' l') : h = h' ∧ l = l' := by
  obtain ⟨a, b⟩ := i; obtain ⟨c, d⟩ := i'; unfold V at e; omega
theorem hl_inj {x y : Int} (h : hi x = hi y) (l : lo x = lo y) : x = y := by unfold hi at h; unfold lo at l; omega
theorem isLo_0 : IsLo 0 := ⟨by omega, by omega⟩
theorem isHi_0 : IsHi 0 := ⟨by omega, by omega⟩
theorem cmp_lt {x y : Int} (h : x < y) : cmpI x y = -1 := by unfold cmpI; rw [if_pos h]
theorem cmp_eq {x y : Int} (h : x = y) : cmpI x y = 0 := by unfold cmpI; rw [if_neg (by omega), if_pos h]
theorem cmp_gt {x y : Int} (h : y < x) : cmpI x y = 1 := by unfold cmpI; rw [if_neg (by omega), if_neg (by omega)]
theorem cmp_cases (x y : Int) : (x < y ∧ cmpI x y = -1) ∨ (x = y ∧ cmpI x y = 0) ∨ (y < x ∧ cmpI x y = 1) := by
  rcases Int.lt_trichotomy x y with h | h | h
  · exact .inl ⟨h, cmp_lt h⟩
  · exact .inr (.inl ⟨h, cmp_eq h⟩)
  · exact .inr (.inr ⟨h, cmp_gt h⟩)
theorem V_eq {h l h' l' : Int} (a : h = h') (b : l = l') : V h l = V h' l' := by rw [a, b]
theorem V_lt1 {h l h' l' : Int} (i : IsLo l) (i' : IsLo l') (a : h < h') : V h l < V h' l' := by
  obtain ⟨a, b⟩ := i; obtain ⟨c, d⟩ := i'; unfold V; omega
theorem V_lt2 {h l h' l' : Int} (a : h = h') (b : l < l') : V h l < V h' l' := by unfold V; omega
/-- math/bits: Add64's sum and carry, Sub64's difference and borrow. -/
def addD (x y c : Int) : Int := (x + y + c) % 18446744073709551616
def addC (x y c : Int) : Int := (x + y + c) / 18446744073709551616
def subD (x y b : Int) : Int := (x - y - b) % 18446744073709551616
def subB (x y b : Int) : Int := if x < y + b then 1 else 0
structure IsBit (c : Int) : Prop where
  a : 0 ≤ c
  b : c ≤ 1
theorem isBit_0 : IsBit 0 := ⟨by omega, by omega⟩
theorem isBit_1 : IsBit 1 := ⟨by omega, by omega⟩
theorem isBit_addC {x y c : Int} (i : IsLo x) (j : IsLo y) (k : IsBit c) : IsBit (addC x y c) := by
  obtain ⟨_, _⟩ := i; obtain ⟨_, _⟩ := j; obtain ⟨_, _⟩ := k; exact ⟨by unfold addC; omega, by unfold addC; omega⟩
theorem isBit_subB (x y b : Int) : IsBit (subB x y b) := by unfold subB; split <;> exact ⟨by omega, by omega⟩
theorem isLo_addD (x y c : Int) : IsLo (addD x y c) := ⟨by unfold addD; omega, by unfold addD; omega⟩
theorem isLo_subD (x y c : Int) : IsLo (subD x y c) := ⟨by unfold subD; omega, by unfold subD; omega⟩
theorem isLo_bit {c : Int} (k : IsBit c) : IsLo c := by obtain ⟨_, _⟩ := k; exact ⟨by omega, by omega⟩
/-- A word of any kind as one without a sign; a word without a sign as one with. -/
def u (h : Int) : Int := h % 18446744073709551616
def s (h : Int) : Int := if h < 9223372036854775808 then h else h - 18446744073709551616
theorem isLo_u (h : Int) : IsLo (u h) := ⟨by unfold u; omega, by unfold u; omega⟩
theorem s_u {h : Int} (j : IsHi h) : s (u h) = h := by obtain ⟨_, _⟩ := j; unfold s u; split <;> omega
theorem minus_lo (a1 a0 b1 b0 : Int) : subD a0 b0 0 = lo (V a1 a0 - V b1 b0) := by unfold subD lo V; omega
theorem minus_hi {a1 a0 b1 b0 : Int} (i : IsLo a0) (j : IsLo b0) : subD a1 b1 (subB a0 b0 0) = u (hi (V a1 a0 - V b1 b0)) := by
  obtain ⟨_, _⟩ := i; obtain ⟨_, _⟩ := j; unfold subD subB u hi V; split <;> omega
def ab (v : Int) : Int := if v < 0 then -v else v
def resV (v : Int) : Int := if Fits v then v else 0
def resE (v : Int) : Int := if Fits v then 0 else 10
theorem resV_fits {v : Int} (f : Fits v) : resV v = v := by unfold resV; rw [if_pos f]
theorem resE_fits {v : Int} (f : Fits v) : resE v = 0 := by unfold resE; rw [if_pos f]
theorem resV_not {v : Int} (f : ¬ Fits v) : resV v = 0 := by unfold resV; rw [if_neg f]
theorem resE_not {v : Int} (f : ¬ Fits v) : resE v = 10 := by unfold resE; rw [if_neg f]
theorem resE_zero {v : Int} (h : resE v = 0) : Fits v := by unfold resE at h; split at h; assumption; omega
theorem fits_0 : Fits 0 := ⟨by omega, by omega⟩
theorem fits_resV (v : Int) : Fits (resV v) := by unfold resV; split; assumption; exact fits_0
theorem ab_lo_neg {h l : Int} (i : IsLo l) (j : IsHi h) (n : h < 0) : lo (V 0 0 - V (u h) l) = lo (ab (V h l)) := by
  obtain ⟨_, _⟩ := i; obtain ⟨_, _⟩ := j; have : ab (V h l) = -(V h l) := by unfold ab V; rw [if_pos (by omega)]
  rw [this]; unfold lo V u; omega
theorem ab_hi_neg {h l : Int} (i : IsLo l) (j : IsHi h) (n : h < 0) : u (hi (V 0 0 - V (u h) l)) = hi (ab (V h l)) := by
  obtain ⟨_, _⟩ := i; obtain ⟨_, _⟩ := j; have : ab (V h l) = -(V h l) := by unfold ab V; rw [if_pos (by omega)]
  rw [this]; unfold hi V u; omega
theorem ab_lo_pos {h l : Int} (i : IsLo l) (n : 0 ≤ h) : l = lo (ab (V h l)) := by
  obtain ⟨_, _⟩ := i; have : ab (V h l) = V h l := by unfold ab V; rw [if_neg (by omega)]
  rw [this]; unfold lo V; omega
theorem ab_hi_pos {h l : Int} (i : IsLo l) (j : IsHi h) (n : 0 ≤ h) : u h = hi (ab (V h l)) := by
  obtain ⟨_, _⟩ := i; obtain ⟨_, _⟩ := j; have : ab (V h l) = V h l := by unfold ab V; rw [if_neg (by omega)]
  rw [this]; unfold hi V u; omega
def sg (n : Bool) (m : Int) : Int := if n then -m else m
theorem sg_f (m : Int) : sg false m = m := rfl
theorem sg_t (m : Int) : sg true m = -m := rfl
theorem pos_fits {m1 m0 : Int} (i : IsLo m1) (j : IsLo m0) (n : 0 ≤ s m1) : Fits (V m1 m0) ∧ hi (V m1 m0) = s m1 ∧ lo (V m1 m0) = m0 := by
  obtain ⟨_, _⟩ := i; obtain ⟨_, _⟩ := j; unfold s at n ⊢
  split at n
  · refine ⟨⟨by unfold V; omega, by unfold V; omega⟩, ?_, by unfold V lo; omega⟩
    unfold V hi; rw [if_pos ‹_›]; omega
  · omega
theorem pos_over {m1 m0 : Int} (i : IsLo m1) (j : IsLo m0) (n : s m1 < 0) : ¬ Fits (V m1 m0) := by
  obtain ⟨_, _⟩ := i; obtain ⟨_, _⟩ := j; unfold s at n
  split at n
  · omega
  · intro f; have := f.b; unfold V at this; omega
theorem neg_fits {m1 m0 : Int} (i : IsLo m1) (j : IsLo m0) (n : s (u (hi (V 0 0 - V m1 m0))) < 0 ∨ (s (u (hi (V 0 0 - V m1 m0))) = 0 ∧ lo (V 0 0 - V m1 m0) = 0)) :
    Fits (-(V m1 m0)) ∧ hi (-(V m1 m0)) = s (u (hi (V 0 0 - V m1 m0))) ∧ lo (-(V m1 m0)) = lo (V 0 0 - V m1 m0) := by
  obtain ⟨_, _⟩ := i; obtain ⟨_, _⟩ := j
  have e : V 0 0 - V m1 m0 = -(V m1 m0) := by unfold V; omega
  rw [e] at n ⊢
  have f : Fits (-(V m1 m0)) := by
    unfold s u hi lo V at n
    refine ⟨?_, ?_⟩ <;> unfold V <;> split at n <;> omega
  exact ⟨f, (s_u (isHi_hi f)).symm, rfl⟩
theorem neg_over {m1 m0 : Int} (i : IsLo m1) (j : IsLo m0) (n : 0 ≤ s (u (hi (V 0 0 - V m1 m0)))) (k : ¬ (s (u (hi (V 0 0 - V m1 m0))) = 0 ∧ lo (V 0 0 - V m1 m0) = 0)) : ¬ Fits (-(V m1 m0)) := by
  obtain ⟨_, _⟩ := i; obtain ⟨_, _⟩ := j
  have e : V 0 0 - V m1 m0 = -(V m1 m0) := by unfold V; omega
  rw [e] at n k
  intro f
  have g := isHi_hi f
  rw [s_u g] at n k
  obtain ⟨f1, f2⟩ := f
  simp only [hi, lo, V] at n k f1 f2; omega
theorem prod_lo {x y : Int} (i : IsLo x) (j : IsLo y) : 0 ≤ x * y ∧ x * y ≤ 340282366920938463426481119284349108225 := by
  obtain ⟨a, b⟩ := i; obtain ⟨c, d⟩ := j
  refine ⟨Int.mul_nonneg a c, ?_⟩
  have h : x * y ≤ 18446744073709551615 * 18446744073709551615 := Int.mul_le_mul (by omega) (by omega) c (by omega)
  omega
theorem hi_prod {x y : Int} (i : IsLo x) (j : IsLo y) : IsLo (hi (x * y)) := by
  have h := prod_lo i j
  exact ⟨by unfold hi; omega, by unfold hi; omega⟩
/-- A product of two amounts of two words, one of which has no high word. -/
theorem times_split (a1 a0 b1 b0 : Int) (z : a1 = 0 ∨ b1 = 0) : V a1 a0 * V b1 b0 = (a1 * b0 + a0 * b1) * 18446744073709551616 + a0 * b0 := by
  unfold V
  rcases z with rfl | rfl
  · simp [Int.mul_add, Int.mul_assoc, Int.mul_comm]
  · simp [Int.mul_add, Int.mul_assoc, Int.mul_comm, Int.mul_left_comm]
end W
end Go.Proofs.Ytbnlhjooimppeaa
/- Plain numbers: sums of many wide numbers in three limbs. No Go in sight. -/
namespace Go.Proofs.Ytbnlhjooimppeaa
set_option linter.unusedVariables false
namespace W
/-- Three limbs of a sum, modulo 2^192. -/
structure SumAt (t s0 s1 s2 : Int) : Prop where
  a : s0 = t % 18446744073709551616
  b : s1 = t / 18446744073709551616 % 18446744073709551616
  c : s2 = t / 18446744073709551616 / 18446744073709551616 % 18446744073709551616
theorem sumAt_0 : SumAt 0 0 0 0 := ⟨rfl, rfl, rfl⟩
theorem SumAt.lo0 {t s0 s1 s2 : Int} (h : SumAt t s0 s1 s2) : IsLo s0 := by obtain ⟨a, b, c⟩ := h; exact ⟨by omega, by omega⟩
theorem SumAt.lo1 {t s0 s1 s2 : Int} (h : SumAt t s0 s1 s2) : IsLo s1 := by obtain ⟨a, b, c⟩ := h; exact ⟨by omega, by omega⟩
theorem SumAt.lo2 {t s0 s1 s2 : Int} (h : SumAt t s0 s1 s2) : IsLo s2 := by obtain ⟨a, b, c⟩ := h; exact ⟨by omega, by omega⟩
theorem SumAt.step {t s0 s1 s2 eh el : Int} (h : SumAt t s0 s1 s2) (j : IsHi eh) (i : IsLo el) :
    SumAt (t + V eh el) (addD s0 el 0) (addD s1 (u eh) (addC s0 el 0)) (addD s2 (u (eh / 9223372036854775808)) (addC s1 (u eh) (addC s0 el 0))) := by
  obtain ⟨a, b, c⟩ := h; obtain ⟨_, _⟩ := i; obtain ⟨_, _⟩ := j
  have q : eh / 18446744073709551616 = eh / 9223372036854775808 := by omega
  have p : (t + V eh el) / 18446744073709551616 = t / 18446744073709551616 + eh + (s0 + el) / 18446744073709551616 := by simp only [V]; omega
  have r0 : 0 ≤ (s0 + el) / 18446744073709551616 := by omega
  have r1 : (s0 + el) / 18446744073709551616 ≤ 1 := by omega
  have e0 : addC s0 el 0 = (s0 + el) / 18446744073709551616 := by simp [addC]
  generalize hr : (s0 + el) / 18446744073709551616 = r at *
  have k : (t / 18446744073709551616 + eh + r) / 18446744073709551616 = t / 18446744073709551616 / 18446744073709551616 + eh / 18446744073709551616 + (s1 + eh % 18446744073709551616 + r) / 18446744073709551616 := by omega
  refine ⟨?_, ?_, ?_⟩
  · simp only [addD, V]; omega
  · rw [p, e0]; simp only [addD, u]; omega
  · rw [p, k, e0, q]; simp only [addD, addC, u]; omega
theorem SumAt.done {t s0 s1 s2 : Int} (h : SumAt t s0 s1 s2) (lo : -1569275433846670190958947355801916604025588861116008628224 ≤ t) (up : t ≤ 1569275433846670190958947355801916604025588861116008628224)
    (e : s2 = u (s s1 / 9223372036854775808)) : Fits t ∧ hi t = s s1 ∧ W.lo t = s0 := by
  obtain ⟨a, b, c⟩ := h
  have f : Fits t := by
    simp only [u, s] at e
    exact ⟨by split at e <;> omega, by split at e <;> omega⟩
  refine ⟨f, ?_, ?_⟩
  · obtain ⟨_, _⟩ := f
    simp only [hi, s]; split <;> omega
  · simp only [W.lo]; omega
theorem SumAt.over {t s0 s1 s2 : Int} (h : SumAt t s0 s1 s2) (e : s2 ≠ u (s s1 / 9223372036854775808)) : ¬ Fits t := by
  rintro ⟨x, y⟩
  obtain ⟨a, b, c⟩ := h
  apply e
  simp only [u, s]; split <;> omega
def sumV : List (Int × Int) → Int
  | [] => 0
  | p :: l => V p.1 p.2 + sumV l
theorem sumV_append (l m : List (Int × Int)) : sumV (l ++ m) = sumV l + sumV m := by
  induction l with
  | nil => simp [sumV]
  | cons p l ih => simp [sumV, ih, Int.add_assoc]
theorem sumV_take (l : List (Int × Int)) (k : Nat) (h : k < l.length) : sumV (l.take (k + 1)) = sumV (l.take k) + V (l.getD k (0, 0)).1 (l.getD k (0, 0)).2 := by
  rw [List.take_succ_eq_append_getElem h, sumV_append]
  simp [sumV, List.getD, List.getElem?_eq_getElem h]
structure IsW (p : Int × Int) : Prop where
  a : IsHi p.1
  b : IsLo p.2
theorem sumV_bound (l : List (Int × Int)) (h : ∀ p ∈ l, IsW p) : -(170141183460469231731687303715884105728 * (l.length : Int)) ≤ sumV l ∧ sumV l ≤ 170141183460469231731687303715884105728 * (l.length : Int) := by
  induction l with
  | nil => simp [sumV]
  | cons p l ih =>
    have i := ih fun q hq => h q (List.mem_cons_of_mem _ hq)
    have w := h p (List.mem_cons_self ..)
    have f := fits_V w.a w.b
    obtain ⟨f1, f2⟩ := f
    simp only [sumV, List.length_cons]
    omega
end W
end Go.Proofs.Ytbnlhjooimppeaa
/- Small lemmas for all walks: what lay below stays; worlds under a name; wide numbers as results. -/
namespace Go.Proofs.Ytbnlhjooimppeaa
set_option linter.unusedVariables false
open Go.RowKit W
theorem ret_int {k : IntKind} {a b : Int} (h : a = b) : Ending.returned (.int k a) = .returned (.int k b) := by rw [h]
theorem ret_bool {a b : Bool} (h : a = b) : Ending.returned (.bool a) = .returned (.bool b) := by rw [h]
theorem ret_two {k : IntKind} {a b c d : Int} (h : a = b) (g : c = d) : Ending.returned (.tuple #[.int k a, .int k c]) = .returned (.tuple #[.int k b, .int k d]) := by rw [h, g]
/-- What lay below stays: cells and marks, as rules for the walk. -/
theorem bcell {W w1 : World} (hb : Below W.heap.size W w1) :
    (∀ b o, b < W.heap.size → w1.cell? ⟨b, o, none⟩ = W.cell? ⟨b, o, none⟩) ∧ (∀ b o, b < W.heap.size → w1.frozen? ⟨b, o, none⟩ = W.frozen? ⟨b, o, none⟩) ∧ W.heap.size ≤ w1.heap.size :=
  ⟨fun b o h => hb.cell (p := ⟨b, o, none⟩) h, fun b o h => hb.frozen (p := ⟨b, o, none⟩) h, hb.size⟩
/-- A cell of a block that lay there ahead of a call: what it holds, that it may be written, that its block is there. -/
theorem live {W w1 : World} (v : Value) (hb : Below W.heap.size W w1) (b o : Nat) (h : b < W.heap.size) (hv : W.cell? ⟨b, o, none⟩ = some v) (hf : W.frozen? ⟨b, o, none⟩ = false) :
    w1.cell? ⟨b, o, none⟩ = some v ∧ w1.frozen? ⟨b, o, none⟩ = false ∧ b < w1.heap.size :=
  ⟨(hb.cell (p := ⟨b, o, none⟩) h).trans hv, (hb.frozen (p := ⟨b, o, none⟩) h).trans hf, Nat.lt_of_lt_of_le h hb.size⟩
theorem wrap_s {m : Int} (i : IsLo m) : IntKind.i64.wrap m = s m := by
  obtain ⟨_, _⟩ := i; rw [IntKind.wrap_i64]; unfold s; split <;> omega
/-- The sum of the numbers, or that it is over. -/
abbrev sumRes (t : Int) : Ending := .returned (.tuple #[.agg #[.int .i64 (hi (resV t)), .int .u64 (lo (resV t))], .int .i64 (resE t)])
abbrev wideRes (v : Int) : Ending := .returned (.agg #[.int .i64 (hi v), .int .u64 (lo v)])
theorem ret_res {v x1 x0 : Int} (f : Fits v) (h1 : hi v = x1) (h0 : lo v = x0) : Ending.returned (.tuple #[.agg #[.int .i64 x1, .int .u64 x0], .int .i64 0]) =
    .returned (.tuple #[.agg #[.int .i64 (hi (resV v)), .int .u64 (lo (resV v))], .int .i64 (resE v)]) := by
  rw [resV_fits f, resE_fits f, h1, h0]
theorem ret_over {v : Int} (f : ¬ Fits v) : Ending.returned (.tuple #[.agg #[.int .i64 0, .int .u64 0], .int .i64 10]) =
    .returned (.tuple #[.agg #[.int .i64 (hi (resV v)), .int .u64 (lo (resV v))], .int .i64 (resE v)]) := by
  rw [resV_not f, resE_not f]; rfl
/-- Below block B the world w is as W was. -/
structure Keeps (B : Nat) (W w : World) : Prop where
  below : Below B W w
  le : B ≤ W.heap.size
theorem Keeps.start {B : Nat} {W : World} (h : B ≤ W.heap.size) : Keeps B W W := ⟨Below.refl _ _, h⟩
theorem Keeps.size {B : Nat} {W w : World} (k : Keeps B W w) : B ≤ w.heap.size := Nat.le_trans k.le k.below.size
theorem Keeps.call {B : Nat} {W w w1 : World} (k : Keeps B W w) (hb : Below w.heap.size w w1) : Keeps B W w1 := ⟨k.below.trans (hb.mono k.size), k.le⟩
theorem Keeps.alloc {B : Nat} {W w : World} (k : Keeps B W w) (o : Obj) : Keeps B W (w.alloc o) := ⟨k.below.alloc k.size o, k.le⟩
theorem Keeps.drew {B : Nat} {W w : World} (k : Keeps B W w) : Keeps B W w.drew := ⟨k.below.drew, k.le⟩
theorem Keeps.setCell {B : Nat} {W w : World} (k : Keeps B W w) {p : Addr} (hp : B ≤ p.block) (u : Value) : Keeps B W (w.setCell p u) := ⟨k.below.setCell hp u, k.le⟩
theorem Keeps.cell {B : Nat} {W w : World} (k : Keeps B W w) {b o : Nat} {v : Value} (h : W.cell? ⟨b, o, none⟩ = some v) (hb : b < B) : w.cell? ⟨b, o, none⟩ = some v := (k.below.cell (p := ⟨b, o, none⟩) hb).trans h
theorem Keeps.free {B : Nat} {W w : World} (k : Keeps B W w) {b o : Nat} (h : W.frozen? ⟨b, o, none⟩ = false) (hb : b < B) : w.frozen? ⟨b, o, none⟩ = false := (k.below.frozen (p := ⟨b, o, none⟩) hb).trans h
/-- The world under a name, with what is known of it. -/
theorem abs_wp {P : Program} {c : Code} {Q : Exit → Act → World → Prop} {a : Act} {w : World} (F : World → Prop) (hF : F w) (h : ∀ W, F W → c.wp P Q a W) : c.wp P Q a w := h w hF
theorem abs_list {P : Program} {ops : Array Oper} {Q : Exit → Act → World → Prop} {l : List Oper} {a : Act} {w : World} (F : World → Prop) (hF : F w) (h : ∀ W, F W → wpList P ops Q l a W) : wpList P ops Q l a w := h w hF
theorem below_drewN {B : Nat} {a w : World} (h : Below B a w) (n : Nat) : Below B a (w.drewN n) := ⟨h.os, h.tape, h.output, h.size, h.block⟩
theorem lo_of_wf {x : Int} (h : (Lit.int .u64 x).wf = true) : IsLo x := by
  simp only [Lit.wf, IntKind.min, IntKind.max, IntKind.signed, IntKind.bits, Bool.and_eq_true] at h
  exact ⟨by simp at h; omega, by simp at h; omega⟩
theorem hi_of_wf {x : Int} (h : (Lit.int .i64 x).wf = true) : IsHi x := by
  simp only [Lit.wf, IntKind.min, IntKind.max, IntKind.signed, IntKind.bits, Bool.and_eq_true, decide_eq_true_eq, if_true] at h
  exact ⟨by omega, by omega⟩
theorem isW_res (v : Int) : IsW (hi (resV v), lo (resV v)) := ⟨isHi_hi (fits_resV v), isLo_lo _⟩
/-- Small: the number as an int64, if it is one. -/
def smallV (v : Int) : Int := if IsHi v then v else 0
def smallB (v : Int) : Bool := decide (IsHi v)
end Go.Proofs.Ytbnlhjooimppeaa
/- Small words for all walks: a fact behind a name; boxes of two and three cells. -/
namespace Go.Proofs.Ytbnlhjooimppeaa
set_option linter.unusedVariables false
open Go.RowKit W
/-- A contract of a function that only computes. -/
abbrev CalcN (f : Nat) (args : Array Value) (w : World) (r : Value) : Prop := Calls Try.prog f args w fun e w' => e = .returned r ∧ w = w'
theorem hide {p : Prop} (h : p) : Hid p := h
/-- A box of two cells that may be written. -/
structure Box2 (w : World) (b : Nat) (x y : Value) : Prop where
  x : w.cell? ⟨b, 0, none⟩ = some x
  y : w.cell? ⟨b, 1, none⟩ = some y
  fx : w.frozen? ⟨b, 0, none⟩ = false
  fy : w.frozen? ⟨b, 1, none⟩ = false
  lt : b < w.heap.size
theorem Box2.later {w w' : World} {b : Nat} {x y : Value} (h : Box2 w b x y) (k : Below w.heap.size w w') : Box2 w' b x y :=
  ⟨(k.cell (p := ⟨b, 0, none⟩) h.lt).trans h.x, (k.cell (p := ⟨b, 1, none⟩) h.lt).trans h.y,
   (k.frozen (p := ⟨b, 0, none⟩) h.lt).trans h.fx, (k.frozen (p := ⟨b, 1, none⟩) h.lt).trans h.fy, Nat.lt_of_lt_of_le h.lt k.size⟩
/-- A box of three cells that may be written. -/
structure Box3 (w : World) (b : Nat) (x y z : Value) : Prop where
  x : w.cell? ⟨b, 0, none⟩ = some x
  y : w.cell? ⟨b, 1, none⟩ = some y
  z : w.cell? ⟨b, 2, none⟩ = some z
  fx : w.frozen? ⟨b, 0, none⟩ = false
  fy : w.frozen? ⟨b, 1, none⟩ = false
  fz : w.frozen? ⟨b, 2, none⟩ = false
  lt : b < w.heap.size
theorem Box3.later {w w' : World} {b : Nat} {x y z : Value} (h : Box3 w b x y z) (k : Below w.heap.size w w') : Box3 w' b x y z :=
  ⟨(k.cell (p := ⟨b, 0, none⟩) h.lt).trans h.x, (k.cell (p := ⟨b, 1, none⟩) h.lt).trans h.y, (k.cell (p := ⟨b, 2, none⟩) h.lt).trans h.z,
   (k.frozen (p := ⟨b, 0, none⟩) h.lt).trans h.fx, (k.frozen (p := ⟨b, 1, none⟩) h.lt).trans h.fy, (k.frozen (p := ⟨b, 2, none⟩) h.lt).trans h.fz, Nat.lt_of_lt_of_le h.lt k.size⟩
/-- A box of one cell that may be written. -/
structure Box1 (w : World) (b : Nat) (x : Value) : Prop where
  x : w.cell? ⟨b, 0, none⟩ = some x
  fx : w.frozen? ⟨b, 0, none⟩ = false
  lt : b < w.heap.size
theorem Box1.later {w w' : World} {b : Nat} {x : Value} (h : Box1 w b x) (k : Below w.heap.size w w') : Box1 w' b x :=
  ⟨(k.cell (p := ⟨b, 0, none⟩) h.lt).trans h.x, (k.frozen (p := ⟨b, 0, none⟩) h.lt).trans h.fx, Nat.lt_of_lt_of_le h.lt k.size⟩
theorem box1 {w w' : World} (k : Below w.heap.size w w') (b : Nat) (x : Value) (hx : w.cell? ⟨b, 0, none⟩ = some x) (fx : w.frozen? ⟨b, 0, none⟩ = false) (lt : b < w.heap.size) : Box1 w' b x :=
  Box1.later ⟨hx, fx, lt⟩ k
theorem box2 {w w' : World} (k : Below w.heap.size w w') (b : Nat) (x y : Value) (hx : w.cell? ⟨b, 0, none⟩ = some x) (hy : w.cell? ⟨b, 1, none⟩ = some y) (fx : w.frozen? ⟨b, 0, none⟩ = false) (fy : w.frozen? ⟨b, 1, none⟩ = false) (lt : b < w.heap.size) : Box2 w' b x y :=
  Box2.later ⟨hx, hy, fx, fy, lt⟩ k
theorem box3 {w w' : World} (k : Below w.heap.size w w') (b : Nat) (x y z : Value) (hx : w.cell? ⟨b, 0, none⟩ = some x) (hy : w.cell? ⟨b, 1, none⟩ = some y) (hz : w.cell? ⟨b, 2, none⟩ = some z) (fx : w.frozen? ⟨b, 0, none⟩ = false) (fy : w.frozen? ⟨b, 1, none⟩ = false) (fz : w.frozen? ⟨b, 2, none⟩ = false) (lt : b < w.heap.size) : Box3 w' b x y z :=
  Box3.later ⟨hx, hy, hz, fx, fy, fz, lt⟩ k
end Go.Proofs.Ytbnlhjooimppeaa
/- Lists that a call makes by append; lists that lie in memory: of texts. -/
namespace Go.Proofs.Ytbnlhjooimppeaa
set_option linter.unusedVariables false
set_option linter.unusedSimpArgs false
open Go.RowKit W
theorem info_txt : (Try.prog.info? 9).map (fun i => (i.zero, i.size, i.bytes)) = some (some (.string ByteArray.empty), 1, 16) := by kernel_rfl
/-- A list of texts that was made since the world w. -/
structure OwnT (w wr : World) (v : Value) (ps : List ByteArray) : Prop where
  own : wr.ownsRow w.heap.size 9 1 v ps.length (ps.map Value.string)
  below : Below w.heap.size w wr
  nil : ps = [] → v = .slice none 0 0
theorem OwnT.none_ (w : World) : OwnT w w (.slice none 0 0) [] := ⟨⟨rfl, .inl ⟨rfl, rfl⟩⟩, Below.refl _ _, fun _ => rfl⟩
/-- Texts in a block. -/
structure LieT (w : World) (g o : Nat) (ps : List ByteArray) : Prop where
  cell : ∀ j (h : j < ps.length), w.cell? ⟨g, o + j, none⟩ = some (.string ps[j])
  lt : g < w.heap.size
theorem LieT.later {w w' : World} {g o : Nat} {ps : List ByteArray} (h : LieT w g o ps) (b : Below w.heap.size w w') : LieT w' g o ps :=
  ⟨fun j hj => (b.cell (p := ⟨g, o + j, none⟩) h.lt).trans (h.cell j hj), Nat.lt_of_lt_of_le h.lt b.size⟩
theorem OwnT.got {w wr : World} {v : Value} {ps : List ByteArray} (h : OwnT w wr v ps) (hn : 0 < ps.length) :
    ∃ g cap, v = .slice (some ⟨g, 0, none⟩) ps.length cap ∧ LieT wr g 0 ps ∧ w.heap.size ≤ g := by
  obtain ⟨hl, hx | ⟨g, cap, cur, rfl, hg, hb, hnc, hcm, hs, hxs⟩⟩ := h.own
  · exact absurd hx.2 (by omega)
  · refine ⟨g, cap, rfl, ⟨fun j hj => ?_, (h.own.lt g rfl).2⟩, (h.own.lt g rfl).1⟩
    have := h.own.cellAt j (by simpa using hj)
    rw [Nat.zero_add, this]
    simp [hj]
/-- A slice of texts that came in, nil too. -/
def IsTxts (w : World) (a : Option Addr) (ps : List ByteArray) : Prop := ps = [] ∨ ∃ g o, a = some ⟨g, o, none⟩ ∧ LieT w g o ps
theorem IsTxts.later {w w' : World} {a : Option Addr} {ps : List ByteArray} (h : IsTxts w a ps) (b : Below w.heap.size w w') : IsTxts w' a ps := by
  rcases h with h | ⟨g, o, rfl, h⟩
  · exact .inl h
  · exact .inr ⟨g, o, rfl, h.later b⟩
theorem OwnT.is {w wr : World} {v : Value} {ps : List ByteArray} (h : OwnT w wr v ps) : ∃ a cap, v = .slice a ps.length cap ∧ IsTxts wr a ps := by
  by_cases z : ps = []
  · subst z; exact ⟨none, 0, h.nil rfl, .inl rfl⟩
  · obtain ⟨g, cap, hv, hl, _⟩ := h.got (by cases ps; exact absurd rfl z; simp)
    exact ⟨_, cap, hv, .inr ⟨g, 0, rfl, hl⟩⟩
theorem one_txt {x : ByteArray} : ∀ u ∈ [Value.string x], u.oneCell' = true := by intro u hu; rw [List.mem_singleton] at hu; subst hu; rfl
theorem OwnT.more {w wr w1 : World} {v v' : Value} {ps : List ByteArray} {x : ByteArray} {o : Obj} (h : OwnT w wr v ps)
    (hown : w1.ownsRow w.heap.size 9 1 v' (ps.length + 1) (ps.map Value.string ++ [.string x])) (hg : (wr.alloc o).grownBy w1 v.ownBlock) : OwnT w w1 v' (ps ++ [x]) :=
  ⟨by simpa using hown, (h.below.alloc h.below.size _).grown hg (by have := h.below.size; simp; omega) (fun j hj => (h.own.lt j hj).1), fun e => by simp at e⟩
open Go.ChangeShapes Go.WideShapes in
/-- A slice of texts as it is read. -/
theorem isTxts_of {H : Type} {enc : TypeId × Value → H} {P : Program} {w : World} {base : Nat} {spare : Nat → Bool} {held : Bool} {n : Nat} {t e : TypeId} {v : Value} {y : DataW H × List MemPlace}
    (ht : P.underlying t = some (.slice e)) (he : P.underlying e = some .string) (hc : P.cellsOf e = 1) (h : DataW.trod enc P w base spare held n t [v] = some y) :
    ∃ a c ps, v = .slice a (List.length ps) c ∧ IsTxts w a ps ∧ (ps = [] ∨ ∃ sp, y.1 = .slice (strs ps) sp) := by
  rcases open_strings ht he hc h with ⟨hcs, _⟩ | ⟨x, len, cap, ss, hcs, _, hl, hm, hz, hy, hcell, _⟩
  · simp at hcs
    exact ⟨none, 0, [], hcs, .inl rfl, .inl rfl⟩
  · simp at hcs
    have lz : len ≤ ss.length := by rw [hz]; split <;> omega
    have lt : (ss.take len).length = len := by rw [List.length_take]; omega
    refine ⟨some x, cap, ss.take len, by rw [lt]; exact hcs, ?_, .inr ⟨_, by rw [hy]⟩⟩
    rcases Nat.eq_zero_or_pos len with rfl | hpos
    · exact .inl (by simp)
    · have g0 := hcell 0 (by omega)
      obtain ⟨b, off, spot⟩ := x
      have hspot : spot = none := by simpa [Addr.add] using World.cell?_spot g0
      subst hspot
      refine .inr ⟨b, off, rfl, ⟨fun j hj => ?_, ?_⟩⟩
      · rw [lt] at hj
        have := hcell j (by omega)
        rw [add_plain] at this
        rw [this]
        simp [List.getD_eq_getElem?_getD, List.getElem?_eq_getElem (show j < ss.length by omega)]
      · have := hcell 0 (by omega)
        rw [add_plain] at this
        rcases Nat.lt_or_ge b w.heap.size with hlt | hge
        · exact hlt
        · unfold World.cell? at this; simp [Array.getElem?_eq_none hge] at this
end Go.Proofs.Ytbnlhjooimppeaa
/- Worlds in which only blocks of some types have changed, none below B. -/
namespace Go.Proofs.Ytbnlhjooimppeaa
set_option linter.unusedVariables false
set_option linter.unusedSimpArgs false
open Go.RowKit W
/-- Old blocks that lie below B, or are no cells of a type among T, are as they were. -/
structure Upd (B : Nat) (T : List TypeId) (a b : World) : Prop where
  os : b.os = a.os
  tape : b.tape = a.tape
  output : b.output = a.output
  size : a.heap.size ≤ b.heap.size
  block : ∀ k, k < a.heap.size → (k < B ∨ ∀ cs t fr, a.heap[k]? = some (.cells cs t fr) → t ∉ T) → b.heap[k]? = a.heap[k]?
theorem Upd.refl (B : Nat) (T : List TypeId) (a : World) : Upd B T a a := ⟨rfl, rfl, rfl, Nat.le_refl _, fun _ _ _ => rfl⟩
theorem Upd.trans {B : Nat} {T : List TypeId} {a b c : World} (h : Upd B T a b) (k : Upd B T b c) : Upd B T a c :=
  ⟨k.os.trans h.os, k.tape.trans h.tape, k.output.trans h.output, Nat.le_trans h.size k.size, fun j hj hc => by
    have e := h.block j hj hc
    rw [k.block j (Nat.lt_of_lt_of_le hj h.size) (hc.imp id (fun f cs t fr g => f cs t fr (e ▸ g))), e]⟩
theorem Upd.more {B B' : Nat} {T T' : List TypeId} {a b : World} (h : Upd B T a b) (hB : B' ≤ B) (hT : ∀ t ∈ T, t ∈ T') : Upd B' T' a b :=
  ⟨h.os, h.tape, h.output, h.size, fun k hk hc => h.block k hk (hc.imp (fun q => Nat.lt_of_lt_of_le q hB) (fun f cs t fr g q => f cs t fr g (hT t q)))⟩
theorem Upd.of_below {B : Nat} {T : List TypeId} {a b : World} (h : Below a.heap.size a b) : Upd B T a b := ⟨h.os, h.tape, h.output, h.size, fun k hk _ => h.block k hk⟩
theorem Upd.below {B : Nat} {T : List TypeId} {a b : World} (h : Upd B T a b) (hB : B ≤ a.heap.size) : Below B a b :=
  ⟨h.os, h.tape, h.output, h.size, fun k hk => h.block k (Nat.lt_of_lt_of_le hk hB) (.inl hk)⟩
theorem Upd.alloc {B : Nat} {T : List TypeId} {a b : World} (h : Upd B T a b) (o : Obj) : Upd B T a (b.alloc o) := h.trans (.of_below ((Below.refl _ _).alloc (Nat.le_refl _) o))
theorem Upd.drewN {B : Nat} {T : List TypeId} {a b : World} (h : Upd B T a b) (n : Nat) : Upd B T a (b.drewN n) := h.trans (.of_below (below_drewN (Below.refl _ _) n))
/-- A row is grown. -/
theorem Upd.grown {B : Nat} {T : List TypeId} {a b c : World} {row : Option Nat} (h : Upd B T a b) (g : b.grownBy c row) (hr : ∀ k, row = some k → B ≤ k ∧ ∃ cs t fr, b.heap[k]? = some (.cells cs t fr) ∧ t ∈ T) : Upd B T a c :=
  h.trans ⟨g.os, g.tape, g.output, g.size, fun k hk hc => g.block k hk (fun e => by
    obtain ⟨h1, cs, t, fr, h2, h3⟩ := hr k e.symm
    rcases hc with q | q
    · omega
    · exact q cs t fr h2 h3)⟩
theorem Upd.set {B : Nat} {T : List TypeId} {a b : World} (h : Upd B T a b) {g : Nat} {i : Nat} {cs : Array Value} {t : TypeId} {fr : Nat × Nat} (hg : b.heap[g]? = some (.cells cs t fr)) (hB : B ≤ g) (ht : t ∈ T) (u : Value) : Upd B T a (b.setCell ⟨g, i, none⟩ u) :=
  h.trans ⟨rfl, rfl, rfl, by simp, fun k hk hc => by
    by_cases e : k = g
    · subst e
      rcases hc with q | q
      · omega
      · exact absurd ht (q _ _ _ hg)
    · exact Below.heap_setCell b ⟨g, i, none⟩ u k e⟩
/-- A row of another type stays. -/
theorem Upd.row {B base size n : Nat} {T : List TypeId} {a b : World} {e : TypeId} {v : Value} {xs : List Value} (h : Upd B T a b) (ho : a.ownsRow base e size v n xs) (he : e ∉ T) : b.ownsRow base e size v n xs := by
  refine ⟨ho.1, ho.2.imp id ?_⟩
  rintro ⟨g, cap, cur, hv, hb, hh, r⟩
  refine ⟨g, cap, cur, hv, hb, ?_, r⟩
  have lt : g < a.heap.size := by
    rcases Nat.lt_or_ge g a.heap.size with q | q
    · exact q
    · rw [Array.getElem?_eq_none q] at hh; cases hh
  rw [h.block g lt (.inr fun cs t fr q => by rw [hh] at q; injection q with q; injection q with _ q; rw [← q]; exact he)]
  exact hh
/-- A block of another type stays. -/
theorem Upd.blk {B g : Nat} {T : List TypeId} {a b : World} {t : TypeId} {cs : Array Value} {fr : Nat × Nat} (h : Upd B T a b) (hg : a.heap[g]? = some (.cells cs t fr)) (ht : t ∉ T) : b.heap[g]? = some (.cells cs t fr) := by
  have lt : g < a.heap.size := by
    rcases Nat.lt_or_ge g a.heap.size with q | q
    · exact q
    · rw [Array.getElem?_eq_none q] at hg; cases hg
  rw [h.block g lt (.inr fun cs' t' fr' q => by rw [hg] at q; injection q with q; injection q with _ q; rw [← q]; exact ht)]
  exact hg
theorem blk_lt {a : World} {g : Nat} {o : Obj} (hg : a.heap[g]? = some o) : g < a.heap.size := by
  rcases Nat.lt_or_ge g a.heap.size with q | q
  · exact q
  · rw [Array.getElem?_eq_none q] at hg; cases hg
/-- What an owned row's block is. -/
theorem own_blk {w : World} {base size n k : Nat} {e : TypeId} {v : Value} {xs : List Value} (ho : w.ownsRow base e size v n xs) (hk : v.ownBlock = some k) : base ≤ k ∧ ∃ cs, w.heap[k]? = some (.cells cs e (0, 0)) := by
  rcases ho.2 with ⟨rfl, _⟩ | ⟨g, cap, cur, rfl, hb, hh, _⟩
  · simp [Value.ownBlock] at hk
  · simp [Value.ownBlock] at hk
    subst hk
    exact ⟨hb, cur, hh⟩
theorem own_form {w : World} {base size n : Nat} {e : TypeId} {v : Value} {xs : List Value} (ho : w.ownsRow base e size v n xs) : ∃ A c, v = .slice A n c ∧ n ≤ c ∧ (A = none → n = 0 ∧ c = 0) := by
  rcases ho.2 with ⟨rfl, rfl⟩ | ⟨g, cap, cur, rfl, hb, hh, hn, _⟩
  · exact ⟨none, 0, rfl, Nat.le_refl _, fun _ => ⟨rfl, rfl⟩⟩
  · exact ⟨_, cap, rfl, hn, fun q => by cases q⟩
end Go.Proofs.Ytbnlhjooimppeaa
/- Worlds in which only old blocks of a set have changed. -/
namespace Go.Proofs.Ytbnlhjooimppeaa
set_option linter.unusedVariables false
set_option linter.unusedSimpArgs false
open Go.RowKit W
/-- Only old blocks of S have changed. -/
structure Chg (S : Nat → Prop) (a b : World) : Prop where
  os : b.os = a.os
  tape : b.tape = a.tape
  output : b.output = a.output
  size : a.heap.size ≤ b.heap.size
  block : ∀ k, k < a.heap.size → ¬ S k → b.heap[k]? = a.heap[k]?
theorem Chg.refl (S : Nat → Prop) (a : World) : Chg S a a := ⟨rfl, rfl, rfl, Nat.le_refl _, fun _ _ _ => rfl⟩
theorem Chg.trans {S S' : Nat → Prop} {a b c : World} (h : Chg S a b) (k : Chg S' b c) (f : ∀ j, j < a.heap.size → S' j → S j) : Chg S a c :=
  ⟨k.os.trans h.os, k.tape.trans h.tape, k.output.trans h.output, Nat.le_trans h.size k.size, fun j hj hS => by
    rw [k.block j (Nat.lt_of_lt_of_le hj h.size) (fun q => hS (f j hj q)), h.block j hj hS]⟩
theorem Chg.mono {S S' : Nat → Prop} {a b : World} (h : Chg S a b) (f : ∀ k, S k → S' k) : Chg S' a b := ⟨h.os, h.tape, h.output, h.size, fun k hk q => h.block k hk (fun s => q (f k s))⟩
theorem Chg.of_below {S : Nat → Prop} {a b : World} (h : Below a.heap.size a b) : Chg S a b := ⟨h.os, h.tape, h.output, h.size, fun k hk _ => h.block k hk⟩
theorem Chg.below {S : Nat → Prop} {B : Nat} {a b : World} (h : Chg S a b) (hS : ∀ k, S k → B ≤ k) (hB : B ≤ a.heap.size) : Below B a b :=
  ⟨h.os, h.tape, h.output, h.size, fun k hk => h.block k (Nat.lt_of_lt_of_le hk hB) (fun q => by have := hS k q; omega)⟩
theorem Chg.set {S : Nat → Prop} {a : World} {g i : Nat} (u : Value) (h : S g) : Chg S a (a.setCell ⟨g, i, none⟩ u) :=
  ⟨rfl, rfl, rfl, by simp, fun k hk hS => Below.heap_setCell a ⟨g, i, none⟩ u k (fun e => hS (e ▸ h))⟩
theorem Chg.grown {S : Nat → Prop} {a b : World} {row : Option Nat} (h : a.grownBy b row) (f : ∀ k, row = some k → S k) : Chg S a b :=
  ⟨h.os, h.tape, h.output, h.size, fun k hk hS => h.block k hk (fun e => hS (f k e.symm))⟩
theorem Chg.drewN {S : Nat → Prop} {a b : World} (h : Chg S a b) (n : Nat) : Chg S a (b.drewN n) := ⟨h.os, h.tape, h.output, h.size, h.block⟩
theorem Chg.drew {S : Nat → Prop} {a b : World} (h : Chg S a b) : Chg S a b.drew := ⟨h.os, h.tape, h.output, h.size, h.block⟩
theorem Chg.alloc {S : Nat → Prop} {a b : World} (h : Chg S a b) (o : Obj) : Chg S a (b.alloc o) := h.trans (.of_below (S := S) ((Below.refl _ _).alloc (Nat.le_refl _) o)) (fun _ _ q => q)
theorem Chg.cell {S : Nat → Prop} {a b : World} (h : Chg S a b) {k o : Nat} (hk : k < a.heap.size) (hl : ¬ S k) : b.cell? ⟨k, o, none⟩ = a.cell? ⟨k, o, none⟩ := World.cell?_of_block (h.block k hk hl)
theorem chg_row {S : Nat → Prop} {a b : World} {base n e sz : Nat} {v : Value} {xs : List Value} (h : a.ownsRow base e sz v n xs) (c : Chg S a b) (f : ∀ k, v.ownBlock = some k → ¬ S k) : b.ownsRow base e sz v n xs := by
  refine ⟨h.1, h.2.imp id ?_⟩
  rintro ⟨g, cap, cur, rfl, hb, hh, r⟩
  exact ⟨g, cap, cur, rfl, hb, (c.block g (blk_lt hh) (f g rfl)).trans hh, r⟩
/-- A cell of an own row is written. -/
theorem row_put {w : World} {base e sz g n c : Nat} {xs : List Value} (o : w.ownsRow base e sz (.slice (some ⟨g, 0, none⟩) n c) n xs) (i : Nat) (hi : i < n * sz) (u : Value) :
    (w.setCell ⟨g, i, none⟩ u).ownsRow base e sz (.slice (some ⟨g, 0, none⟩) n c) n (xs.set i u) := by
  obtain ⟨hl, h⟩ := o
  rcases h with ⟨e, _⟩ | ⟨g', cap, cur, e, hb, hh, hn, hm, hs, ht⟩
  · cases e
  · injection e with e1 e2 e3
    injection e1 with e1
    injection e1 with e1
    subst e1 e3
    refine ⟨by rw [List.length_set]; exact hl, .inr ⟨g, c, cur.setIfInBounds i u, rfl, hb, ?_, hn, hm, by rw [Array.size_setIfInBounds]; exact hs, ?_⟩⟩
    · simp [World.setCell, Array.getElem?_modify, hh]
    · rw [Array.toList_setIfInBounds, List.take_set, ht]
/-- An own row's cells. -/
theorem row_look {w : World} {base e sz g n c : Nat} {xs : List Value} (o : w.ownsRow base e sz (.slice (some ⟨g, 0, none⟩) n c) n xs) : (∀ i u, xs[i]? = some u → w.cell? ⟨g, i, none⟩ = some u) ∧ (∀ i, w.frozen? ⟨g, i, none⟩ = false) ∧ g < w.heap.size ∧ base ≤ g := by
  refine ⟨fun i u hu => ?_, fun i => ?_, ?_, ?_⟩
  · obtain ⟨hl, h⟩ := o
    rcases h with ⟨e, _⟩ | ⟨g', cap, cur, e, hb, hh, hn, hm, hs, ht⟩
    · cases e
    · injection e with e1 e2 e3
      injection e1 with e1
      injection e1 with e1
      subst e1 e3
      rw [← ht] at hu
      have hi : i < n * sz := by
        have := (List.getElem?_eq_some_iff.1 hu).1
        rw [List.length_take] at this
        omega
      rw [List.getElem?_take_of_lt hi] at hu
      simp [World.cell?, hh]
      simpa using hu
  · obtain ⟨_, cs, h⟩ := own_blk o (k := g) rfl
    simp [World.frozen?, h]
  · obtain ⟨_, cs, h⟩ := own_blk o (k := g) rfl
    exact blk_lt h
  · exact (own_blk o (k := g) rfl).1
/-- Two own rows of unlike types lie apart. -/
theorem own_ne {w : World} {b1 b2 e1 e2 s1 s2 n1 n2 : Nat} {u v : Value} {xs ys : List Value} (h : w.ownsRow b1 e1 s1 u n1 xs) (k : w.ownsRow b2 e2 s2 v n2 ys) (ne : e1 ≠ e2) {j : Nat} (hu : u.ownBlock = some j) : v.ownBlock ≠ some j := by
  intro hv
  obtain ⟨_, c1, h1⟩ := own_blk h hu
  obtain ⟨_, c2, h2⟩ := own_blk k hv
  rw [h1] at h2
  injection h2 with h2
  injection h2 with _ h2
  exact ne h2
theorem own_ne_blk {w : World} {b1 e1 s1 n1 g e2 : Nat} {u : Value} {xs : List Value} {cs : Array Value} {fr : Nat × Nat} (h : w.ownsRow b1 e1 s1 u n1 xs) (hg : w.heap[g]? = some (.cells cs e2 fr)) (ne : e1 ≠ e2) {j : Nat} (hu : u.ownBlock = some j) : j ≠ g := by
  rintro rfl
  obtain ⟨_, c1, h1⟩ := own_blk h hu
  rw [h1] at hg
  injection hg with hg
  injection hg with _ hg
  exact ne hg
theorem own_old {w : World} {b1 e1 s1 n1 : Nat} {u : Value} {xs : List Value} (h : w.ownsRow b1 e1 s1 u n1 xs) {j : Nat} (hu : u.ownBlock = some j) : b1 ≤ j ∧ j < w.heap.size := by
  obtain ⟨hb, c1, h1⟩ := own_blk h hu
  exact ⟨hb, blk_lt h1⟩
/-- Two values whose own blocks are apart. -/
def Apt (u v : Value) : Prop := ∀ k, u.ownBlock = some k → v.ownBlock ≠ some k
theorem Apt.symm {u v : Value} (h : Apt u v) : Apt v u := fun k e q => h k q e
theorem Apt.nil (v : Value) : Apt (.slice none 0 0) v := fun k e => by cases e
theorem Apt.moved {w : World} {b1 e1 s1 n1 : Nat} {u u' v : Value} {xs : List Value} (h : Apt u v) (k : w.ownsRow b1 e1 s1 v n1 xs) (m : u'.ownBlock = u.ownBlock ∨ u'.ownBlock = some w.heap.size) : Apt u' v := by
  intro j hj q
  rcases m with e | e
  · exact h j (e ▸ hj) q
  · rw [e] at hj
    injection hj with hj
    have := (own_old k q).2
    omega
end Go.Proofs.Ytbnlhjooimppeaa
/- Maps with texts as keys, plainly: what stands at each key. -/
namespace Go.Proofs.Ytbnlhjooimppeaa
set_option linter.unusedVariables false
set_option linter.unusedSimpArgs false
open Go.RowKit W Go.Maps
/-- How a map's elements read. -/
structure ElR (α : Type) where
  R : Value → Option (DataW Unit × List MemPlace)
  enc : α → Value
  dat : α → DataW Unit
  ok : ∀ a, R (enc a) = some (dat a, [])
  inv : ∀ v a ps, R v = some (dat a, ps) → v = enc a
abbrev kSt (nm : ByteArray) : Lit := .string nm.data.toList
theorem kSt_inj {a b : ByteArray} (h : kSt a = kSt b) : a = b := by
  injection h with h
  exact ByteArray.ext (Array.toList_inj.1 h)
theorem keyedS : Keyed Try.prog 9 := string_keyed Try.underlying9
theorem keyS {nm : ByteArray} (h : nm.size ≤ maxLen) : keyOf Try.prog 9 (.string nm) = some (kSt nm) := Go.WideMaps.keyOf_string_mk Try.underlying9 h
theorem own_tight {H : Type} {P : Program} {k : TypeId} {R : Value → Option (DataW H × List MemPlace)} {w : World} {b n : Nat} {D : DataW H} (h : w.ownsMap P k R b n D) : w.ownsMap P k R b (Maps.size D) D := by
  obtain ⟨es, clock, hb, F, hs, rfl⟩ := h
  exact ⟨es, clock, hb, F, by simp [Maps.size, length_sorted], rfl⟩
section
variable {α : Type} (E : ElR α)
/-- The map in block mb holds n keys, M's. -/
def MapG (w : World) (mb n : Nat) (M : ByteArray → Option α) : Prop :=
  ∃ D : DataW Unit, w.ownsMap Try.prog 9 E.R mb n D ∧ Maps.size D = n ∧ (∀ key, has D (kSt key) = (M key).isSome) ∧ ∀ key a, M key = some a → ∀ z, D.atKey (kSt key) z = E.dat a
variable {E}
theorem MapG.lt {w : World} {mb n : Nat} {M : ByteArray → Option α} (h : MapG E w mb n M) : mb < w.heap.size := by
  obtain ⟨D, o, _⟩ := h; exact o.lt
theorem MapG.block {w : World} {mb n : Nat} {M : ByteArray → Option α} (h : MapG E w mb n M) : ∃ es c, w.heap[mb]? = some (.map es c) := by
  obtain ⟨D, ⟨es, c, hb, _⟩, _⟩ := h; exact ⟨es, c, hb⟩
theorem MapG.chg {S : Nat → Prop} {w w' : World} {mb n : Nat} {M : ByteArray → Option α} (h : MapG E w mb n M) (c : Chg S w w') (hm : ¬ S mb) : MapG E w' mb n M := by
  have lt := h.lt
  obtain ⟨D, ⟨es, clock, hb, r⟩, q⟩ := h
  exact ⟨D, ⟨es, clock, (c.block mb lt hm).trans hb, r⟩, q⟩
theorem MapG.new (w : World) : MapG E (w.alloc (.map #[] 0)) w.heap.size 0 (fun _ => none) :=
  ⟨.map [], World.ownsMap_made w _ _ _, rfl, fun key => rfl, fun key a h => by cases h⟩
/-- 'v, ok := m[key]'. -/
theorem MapG.look {w : World} {mb n : Nat} {M : ByteArray → Option α} {t e : TypeId} (h : MapG E w mb n M) (ht : Try.prog.underlying t = some (.map 9 e)) {z : α} (hz : (zeroValue e).run Try.prog w = .ok (E.enc z) w) (key : ByteArray) (hs : key.size ≤ maxLen) :
    (Instr.lookup t (.map (some mb)) (.string key) true).run Try.prog w = .ok (.tuple #[E.enc ((M key).getD z), .bool (M key).isSome]) w := by
  obtain ⟨D, o, _, h1, h2⟩ := h
  obtain ⟨v, ps, hr, hv⟩ := o.look_ok keyedS ht hz (E.ok z) (keyS hs)
  rw [hr, h1 key]
  have : v = E.enc ((M key).getD z) := by
    cases e : M key with
    | none =>
      rw [atKey_of_not_has (by rw [h1 key, e]; rfl)] at hv
      exact E.inv _ _ _ hv
    | some a =>
      rw [h2 key a e] at hv
      exact E.inv _ _ _ hv
  rw [this]
/-- 'm[key]'. -/
theorem MapG.look1 {w : World} {mb n : Nat} {M : ByteArray → Option α} {t e : TypeId} (h : MapG E w mb n M) (ht : Try.prog.underlying t = some (.map 9 e)) {z : α} (hz : (zeroValue e).run Try.prog w = .ok (E.enc z) w) (key : ByteArray) (hs : key.size ≤ maxLen) :
    (Instr.lookup t (.map (some mb)) (.string key) false).run Try.prog w = .ok (E.enc ((M key).getD z)) w := by
  obtain ⟨D, o, _, h1, h2⟩ := h
  obtain ⟨v, ps, hr, hv⟩ := o.lookup keyedS ht hz (E.ok z) (keyS hs)
  rw [hr]
  have : v = E.enc ((M key).getD z) := by
    cases e : M key with
    | none =>
      rw [atKey_of_not_has (by rw [h1 key, e]; rfl)] at hv
      exact E.inv _ _ _ hv
    | some a =>
      rw [h2 key a e] at hv
      exact E.inv _ _ _ hv
  rw [this]
def updM (M : ByteArray → Option α) (key : ByteArray) (o : Option α) : ByteArray → Option α := fun k => if k = key then o else M k
/-- 'm[key] = v'. -/
theorem MapG.put {w : World} {mb n : Nat} {M : ByteArray → Option α} {t e : TypeId} (h : MapG E w mb n M) (ht : Try.prog.underlying t = some (.map 9 e)) (hn : n < maxLen) (key : ByteArray) (hs : key.size ≤ maxLen) (a : α) :
    ∃ w', (Instr.mapUpdate t (.map (some mb)) (.string key) (E.enc a)).run Try.prog w = .ok () w' ∧ MapG E w' mb (if (M key).isSome then n else n + 1) (updM M key (some a)) ∧ w.mapTurned w' mb := by
  obtain ⟨D, o, hsz, h1, h2⟩ := h
  obtain ⟨w', hr, o', tn⟩ := o.store keyedS ht hn (keyS hs) (E.ok a)
  have td := o.tidy keyedS
  have im := o.isMap
  have sz : Maps.size (D.put (kSt key) (E.dat a)) = if (M key).isSome then n else n + 1 := by rw [size_put td, h1 key, hsz]
  refine ⟨w', hr, ⟨_, by rw [← sz]; exact own_tight o', sz, fun k => ?_, fun k b hb z => ?_⟩, tn⟩
  · unfold updM
    by_cases e : k = key
    · subst e; rw [if_pos rfl, has_put_same im (show WideAt.IsKeyLit (kSt k) from trivial)]; rfl
    · rw [if_neg e, has_put_other (fun q => e (kSt_inj q)), h1 k]
  · unfold updM at hb
    by_cases e : k = key
    · subst e
      rw [if_pos rfl] at hb
      cases hb
      exact atKey_put_same im (show WideAt.IsKeyLit (kSt k) from trivial) _ _
    · rw [if_neg e] at hb
      rw [atKey_put_other (fun q => e (kSt_inj q))]
      exact h2 k b hb z
/-- 'delete(m, key)'. -/
theorem MapG.del {w : World} {mb n : Nat} {M : ByteArray → Option α} {t e : TypeId} (h : MapG E w mb n M) (ht : Try.prog.underlying t = some (.map 9 e)) (key : ByteArray) (hs : key.size ≤ maxLen) (ty : TypeId) :
    ∃ w', (Builtin.delete_ #[t, 9] ty #[.map (some mb), .string key]).run Try.prog w = .ok (.tuple #[]) w' ∧ MapG E w' mb (if (M key).isSome then n - 1 else n) (updM M key none) ∧ w.mapTurned w' mb := by
  obtain ⟨D, o, hsz, h1, h2⟩ := h
  obtain ⟨w', hr, o', tn⟩ := o.drop keyedS ht (keyS hs) ty
  have td := o.tidy keyedS
  have sz : Maps.size (D.del (kSt key)) = if (M key).isSome then n - 1 else n := by
    have := size_del (k := kSt key) td
    rw [h1 key, hsz] at this
    cases e : (M key).isSome <;> simp [e] at this ⊢ <;> omega
  refine ⟨w', hr, ⟨_, by rw [← sz]; exact own_tight o', sz, fun k => ?_, fun k b hb z => ?_⟩, tn⟩
  · unfold updM
    by_cases e : k = key
    · subst e; rw [if_pos rfl, has_del_same]; rfl
    · rw [if_neg e, has_del_other (fun q => e (kSt_inj q)), h1 k]
  · unfold updM at hb
    by_cases e : k = key
    · subst e; rw [if_pos rfl] at hb; cases hb
    · rw [if_neg e] at hb
      rw [atKey_del_other (fun q => e (kSt_inj q))]
      exact h2 k b hb z
theorem MapG.len_ {w : World} {mb n : Nat} {M : ByteArray → Option α} {t e : TypeId} (h : MapG E w mb n M) (ht : Try.prog.underlying t = some (.map 9 e)) (ty : TypeId) : (Builtin.len_ #[t] ty #[.map (some mb)]).run Try.prog w = .ok (.int .i64 n) w := by
  obtain ⟨D, o, hsz, _⟩ := h
  rw [o.len ht ty, hsz]
theorem MapG.ext {w : World} {mb n : Nat} {M M' : ByteArray → Option α} (h : MapG E w mb n M) (e : ∀ k, M k = M' k) : MapG E w mb n M' := by
  have : M = M' := funext e
  exact this ▸ h
end
theorem mapTurned_chg {w w' : World} {mb : Nat} (h : w.mapTurned w' mb) : Chg (· = mb) w w' := Chg.grown h.grown (fun k e => by injection e with e; exact e.symm)
end Go.Proofs.Ytbnlhjooimppeaa
/- due: a queue in memory. -/
namespace Go.Proofs.Ytbnlhjooimppeaa
set_option linter.unusedVariables false
set_option linter.unusedSimpArgs false
open Go.RowKit W Go.Maps
/-- A block known whole, which may be written. -/
def Bw (w : World) (b : Nat) (t : TypeId) (cs : Array Value) : Prop := w.heap[b]? = some (.cells cs t (0, 0))
theorem Bw.lt {w : World} {b : Nat} {t : TypeId} {cs : Array Value} (h : Bw w b t cs) : b < w.heap.size := blk_lt h
theorem Bw.cell {w : World} {b : Nat} {t : TypeId} {cs : Array Value} (h : Bw w b t cs) (i : Nat) (v : Value) (hv : cs[i]? = some v) : w.cell? ⟨b, i, none⟩ = some v := by
  unfold Bw at h; simp [World.cell?, h]; simpa using hv
theorem Bw.frz {w : World} {b : Nat} {t : TypeId} {cs : Array Value} (h : Bw w b t cs) (i : Nat) : w.frozen? ⟨b, i, none⟩ = false := by
  unfold Bw at h; simp [World.frozen?, h]
theorem Bw.chg {S : Nat → Prop} {w w' : World} {b : Nat} {t : TypeId} {cs : Array Value} (h : Bw w b t cs) (c : Chg S w w') (n : ¬ S b) : Bw w' b t cs := (c.block b h.lt n).trans h
theorem Bw.set {w : World} {b : Nat} {t : TypeId} {cs : Array Value} (h : Bw w b t cs) (i : Nat) (u : Value) : Bw (w.setCell ⟨b, i, none⟩ u) b t (cs.setIfInBounds i u) := by
  unfold Bw at *; simp [World.setCell, Array.getElem?_modify, h]
theorem Bw.set_ne {w : World} {b g : Nat} {t : TypeId} {cs : Array Value} (h : Bw w b t cs) (ne : b ≠ g) (i : Nat) (u : Value) : Bw (w.setCell ⟨g, i, none⟩ u) b t cs := (Below.heap_setCell w ⟨g, i, none⟩ u b ne).trans h
theorem Bw.new (w : World) (t : TypeId) (cs : Array Value) : Bw (w.alloc (.cells cs t)) w.heap.size t cs := by
  unfold Bw; show (w.heap.push _)[w.heap.size]? = _; simp
theorem Bw.later {w w' : World} {b : Nat} {t : TypeId} {cs : Array Value} (h : Bw w b t cs) (k : Below w.heap.size w w') : Bw w' b t cs := (k.block b h.lt).trans h
theorem Bw.ne {w : World} {a b : Nat} {s t : TypeId} {cs ds : Array Value} (h : Bw w a s cs) (k : Bw w b t ds) (ne : s ≠ t) : a ≠ b := by
  rintro rfl
  unfold Bw at *
  rw [h] at k
  injection k with k
  injection k with _ k
  exact ne k
theorem Bw.ne_row {w : World} {b base e sz n : Nat} {t : TypeId} {cs : Array Value} {v : Value} {xs : List Value} (h : Bw w b t cs) (o : w.ownsRow base e sz v n xs) (ne : e ≠ t) : v.ownBlock ≠ some b := fun q => own_ne_blk o h ne q rfl
theorem Bw.ne_map {α : Type} {E : ElR α} {w : World} {b mb n : Nat} {t : TypeId} {cs : Array Value} {M : ByteArray → Option α} (h : Bw w b t cs) (m : MapG E w mb n M) : b ≠ mb := by
  rintro rfl
  obtain ⟨es, c, hb⟩ := m.block
  unfold Bw at h
  rw [hb] at h
  cases h
theorem row_ne_map {α : Type} {E : ElR α} {w : World} {mb n m base e sz : Nat} {v : Value} {xs : List Value} {M : ByteArray → Option α} (o : w.ownsRow base e sz v m xs) (k : MapG E w mb n M) : v.ownBlock ≠ some mb := by
  intro q
  obtain ⟨_, cs, h⟩ := own_blk o q
  obtain ⟨es, c, hb⟩ := k.block
  rw [hb] at h
  cases h
/-! ### a list of entries as cells -/
def dueC (e : En) : List Value := [.string e.1, .int .i64 e.2]
def dues : List En → List Value
  | [] => []
  | e :: l => .string e.1 :: .int .i64 e.2 :: dues l
theorem dues_len : ∀ l : List En, (dues l).length = l.length * 2
  | [] => rfl
  | e :: l => by simp [dues, dues_len l]; omega
theorem dues_key : ∀ {l : List En} {i : Nat} (h : i < l.length), (dues l)[i * 2]? = some (.string l[i].1)
  | e :: l, 0, _ => rfl
  | e :: l, i + 1, h => by
    rw [show (i + 1) * 2 = i * 2 + 1 + 1 from by omega]
    simp only [dues, List.getElem?_cons_succ, List.getElem_cons_succ]
    exact dues_key (by simpa using h)
theorem dues_at : ∀ {l : List En} {i : Nat} (h : i < l.length), (dues l)[i * 2 + 1]? = some (.int .i64 l[i].2)
  | e :: l, 0, _ => rfl
  | e :: l, i + 1, h => by
    rw [show (i + 1) * 2 + 1 = (i * 2 + 1) + 1 + 1 from by omega]
    simp only [dues, List.getElem?_cons_succ, List.getElem_cons_succ]
    exact dues_at (by simpa using h)
theorem dues_app : ∀ (l m : List En), dues (l ++ m) = dues l ++ dues m
  | [], m => rfl
  | e :: l, m => by simp [dues, dues_app l m]
theorem dues_set : ∀ (l : List En) (i : Nat) (e : En), dues (l.set i e) = ((dues l).set (i * 2) (.string e.1)).set (i * 2 + 1) (.int .i64 e.2)
  | [], i, e => by simp [dues]
  | x :: l, 0, e => by simp [dues]
  | x :: l, i + 1, e => by
    rw [show (i + 1) * 2 = i * 2 + 1 + 1 from by omega, show i * 2 + 1 + 1 + 1 = (i * 2 + 1) + 1 + 1 from by omega]
    simp only [List.set_cons_succ, dues]
    rw [dues_set l i e]
theorem dues_take : ∀ (l : List En) (k : Nat), dues (l.take k) = (dues l).take (k * 2)
  | [], k => by simp [dues]
  | e :: l, 0 => by simp [dues]
  | e :: l, k + 1 => by
    rw [show (k + 1) * 2 = k * 2 + 1 + 1 from by omega]
    simp [dues, dues_take l k]
theorem dues_one (l : List En) : ∀ u ∈ dues l, u.oneCell' = true := by
  induction l with
  | nil => intro u h; cases h
  | cons e l ih =>
    intro u h
    simp only [dues, List.mem_cons] at h
    rcases h with rfl | rfl | h
    · rfl
    · rfl
    · exact ih u h
/-! ### the map of places -/
def intR : Value → Option (DataW Unit × List MemPlace)
  | .int .i64 x => some (.lit (.int .i64 x), [])
  | _ => none
def elI : ElR Int where
  R := intR
  enc x := .int .i64 x
  dat x := .lit (.int .i64 x)
  ok x := rfl
  inv v a ps h := by
    unfold intR at h
    split at h
    · injection h with h
      injection h with h _
      injection h with h
      injection h with _ h
      rw [h]
    · cases h
theorem elI_enc (x : Int) : elI.enc x = .int .i64 x := rfl
abbrev idxI (l : List En) : ByteArray → Option Int := fun key => (idxK l key).map Int.ofNat
/-! ### the queue -/
/-- What the queue's list and map hold. -/
structure KM (B : Nat) (w : World) (kb mb : Nat) (v : Value) (l : List En) (m : Nat) (M : ByteArray → Option Int) : Prop where
  k : Bw w kb 97 #[v, .map (some mb)]
  row : w.ownsRow B 43 2 v l.length (dues l)
  map : MapG elI w mb m M
  bk : B ≤ kb
  bm : B ≤ mb
  sz : ∀ e ∈ l, e.1.size ≤ maxLen
/-- The blocks that are written. -/
abbrev kS3 (kb mb : Nat) (v : Value) : Nat → Prop := fun k => k = kb ∨ k = mb ∨ v.ownBlock = some k
theorem KM.chg {B : Nat} {S : Nat → Prop} {w w' : World} {kb mb m : Nat} {v : Value} {l : List En} {M : ByteArray → Option Int} (h : KM B w kb mb v l m M) (c : Chg S w w') (n : ∀ k, kS3 kb mb v k → ¬ S k) : KM B w' kb mb v l m M :=
  ⟨h.k.chg c (n _ (.inl rfl)), chg_row h.row c (fun k e => n k (.inr (.inr e))), h.map.chg c (n _ (.inr (.inl rfl))), h.bk, h.bm, h.sz⟩
theorem KM.later {B : Nat} {w w' : World} {kb mb m : Nat} {v : Value} {l : List En} {M : ByteArray → Option Int} (h : KM B w kb mb v l m M) (c : Below w.heap.size w w') : KM B w' kb mb v l m M := h.chg (S := fun _ => False) (Chg.of_below c) (fun _ _ q => q)
theorem KM.old {B : Nat} {w : World} {kb mb m : Nat} {v : Value} {l : List En} {M : ByteArray → Option Int} (h : KM B w kb mb v l m M) : ∀ k, kS3 kb mb v k → B ≤ k ∧ k < w.heap.size := by
  rintro k (rfl | rfl | e)
  · exact ⟨h.bk, h.k.lt⟩
  · exact ⟨h.bm, h.map.lt⟩
  · exact own_old h.row e
theorem KM.nkm {B : Nat} {w : World} {kb mb m : Nat} {v : Value} {l : List En} {M : ByteArray → Option Int} (h : KM B w kb mb v l m M) : kb ≠ mb := h.k.ne_map h.map
theorem KM.nrk {B : Nat} {w : World} {kb mb m : Nat} {v : Value} {l : List En} {M : ByteArray → Option Int} (h : KM B w kb mb v l m M) : v.ownBlock ≠ some kb := h.k.ne_row h.row (by decide)
theorem KM.nrm {B : Nat} {w : World} {kb mb m : Nat} {v : Value} {l : List En} {M : ByteArray → Option Int} (h : KM B w kb mb v l m M) : v.ownBlock ≠ some mb := row_ne_map h.row h.map
/-- All of it fits together. -/
structure KQ (B : Nat) (w : World) (kb mb : Nat) (v : Value) (l : List En) : Prop where
  km : KM B w kb mb v l l.length (idxI l)
  keys : Keys l
  len : l.length ≤ 65536
theorem KQ.chg {B : Nat} {S : Nat → Prop} {w w' : World} {kb mb : Nat} {v : Value} {l : List En} (h : KQ B w kb mb v l) (c : Chg S w w') (n : ∀ k, kS3 kb mb v k → ¬ S k) : KQ B w' kb mb v l := ⟨h.km.chg c n, h.keys, h.len⟩
theorem KQ.later {B : Nat} {w w' : World} {kb mb : Nat} {v : Value} {l : List En} (h : KQ B w kb mb v l) (c : Below w.heap.size w w') : KQ B w' kb mb v l := ⟨h.km.later c, h.keys, h.len⟩
/-- The places behind a swap. -/
theorem idx_swap {l : List En} (k : Keys l) {i j : Nat} (hi : i < l.length) (hj : j < l.length) :
    updM (updM (idxI l) l[j].1 (some (i : Int))) l[i].1 (some (j : Int)) = idxI (swapL l i j) := by
  have kp := k.perm (swapL_perm hi hj).symm
  have sl := swapL_len l i j
  have e1 : ∀ (h : i < (swapL l i j).length), (swapL l i j)[i] = if i = j then l[i] else l[j] := by
    intro h
    simp only [swapL_eq hi hj]
    by_cases q : j = i
    · subst q; simp
    · rw [List.getElem_set_ne q, List.getElem_set_self, if_neg (Ne.symm q)]
  have e2 : ∀ (h : j < (swapL l i j).length), (swapL l i j)[j] = l[i] := by
    intro h
    simp only [swapL_eq hi hj]
    rw [List.getElem_set_self]
  funext key
  unfold updM
  show _ = (idxK (swapL l i j) key).map Int.ofNat
  by_cases q1 : key = l[i].1
  · rw [if_pos q1]
    have : idxK (swapL l i j) key = some j := (idxK_some kp).2 ⟨by omega, by rw [e2, q1]⟩
    rw [this]; rfl
  · rw [if_neg q1]
    by_cases q2 : key = l[j].1
    · rw [if_pos q2]
      have ne : i ≠ j := fun e => q1 (by subst e; exact q2)
      have : idxK (swapL l i j) key = some i := (idxK_some kp).2 ⟨by omega, by rw [e1, if_neg ne, q2]⟩
      rw [this]; rfl
    · rw [if_neg q2]
      show (idxK l key).map Int.ofNat = _
      congr 1
      cases e : idxK l key with
      | none =>
        rw [idxK_none] at e
        rw [hasK_perm (swapL_perm hi hj).symm key] at e
        exact (idxK_none.2 e).symm
      | some m =>
        obtain ⟨hm, hme⟩ := (idxK_some k).1 e
        have mi : m ≠ i := by rintro rfl; exact q1 hme.symm
        have mj : m ≠ j := by rintro rfl; exact q2 hme.symm
        refine ((idxK_some kp).2 ⟨by omega, ?_⟩).symm
        simp only [swapL_eq hi hj]
        rw [List.getElem_set_ne (Ne.symm mj), List.getElem_set_ne (Ne.symm mi)]
        exact hme
theorem idx_push {l : List En} (x : En) (hk : hasK l x.1 = false) (k : Keys l) : updM (idxI l) x.1 (some (l.length : Int)) = idxI (l ++ [x]) := by
  have kp : Keys (l ++ [x]) := by
    refine List.pairwise_append.2 ⟨k, by simp, fun a ha b hb e => ?_⟩
    rw [List.mem_singleton] at hb
    subst hb
    rw [hasK_iff.2 ⟨a, ha, e⟩] at hk; cases hk
  funext key
  unfold updM
  show _ = (idxK (l ++ [x]) key).map Int.ofNat
  by_cases q : key = x.1
  · rw [if_pos q]
    have : idxK (l ++ [x]) key = some l.length := (idxK_some kp).2 ⟨by simp, by simp [q]⟩
    rw [this]; rfl
  · rw [if_neg q]
    show (idxK l key).map Int.ofNat = _
    congr 1
    cases e : idxK l key with
    | none =>
      rw [idxK_none] at e
      refine (idxK_none.2 ?_).symm
      simp [hasK, List.any_append] at e ⊢
      exact ⟨e, fun h => q h.symm⟩
    | some m =>
      obtain ⟨hm, hme⟩ := (idxK_some k).1 e
      refine ((idxK_some kp).2 ⟨by simp; omega, ?_⟩).symm
      rw [List.getElem_append_left hm]
      exact hme
theorem Keys.push {l : List En} (k : Keys l) (x : En) (hk : hasK l x.1 = false) : Keys (l ++ [x]) := by
  refine List.pairwise_append.2 ⟨k, by simp, fun a ha b hb e => ?_⟩
  rw [List.mem_singleton] at hb
  subst hb
  rw [hasK_iff.2 ⟨a, ha, e⟩] at hk; cases hk
theorem idx_pop {l : List En} (k : Keys l) {n : Nat} (hn : l.length = n + 1) : updM (idxI l) (l[n]'(by omega)).1 none = idxI (l.take n) := by
  have kp : Keys (l.take n) := k.take
  have lt : (l.take n).length = n := by rw [List.length_take]; omega
  funext key
  unfold updM
  show _ = (idxK (l.take n) key).map Int.ofNat
  by_cases q : key = (l[n]'(by omega)).1
  · rw [if_pos q]
    have : idxK (l.take n) key = none := by
      cases e : idxK (l.take n) key with
      | none => rfl
      | some m =>
        obtain ⟨hm, hme⟩ := (idxK_some kp).1 e
        rw [List.getElem_take] at hme
        have := k.eq (by omega) (by omega) (hme.trans q)
        omega
    rw [this]; rfl
  · rw [if_neg q]
    show (idxK l key).map Int.ofNat = _
    congr 1
    cases e : idxK l key with
    | none =>
      rw [idxK_none] at e
      refine (idxK_none.2 ?_).symm
      cases h : hasK (l.take n) key
      · rfl
      · obtain ⟨x, hx, hxe⟩ := hasK_iff.1 h
        rw [hasK_iff.2 ⟨x, List.mem_of_mem_take hx, hxe⟩] at e; cases e
    | some m =>
      obtain ⟨hm, hme⟩ := (idxK_some k).1 e
      have : m ≠ n := by rintro rfl; exact q hme.symm
      refine ((idxK_some kp).2 ⟨by omega, ?_⟩).symm
      rw [List.getElem_take]
      exact hme
end Go.Proofs.Ytbnlhjooimppeaa
/- due: the methods of the heap's list. -/
namespace Go.Proofs.Ytbnlhjooimppeaa
set_option linter.unusedVariables false
set_option linter.unusedSimpArgs false
open Go.RowKit W Go.Maps
def cmpI (a b : Int) : Int := if a < b then -1 else if b < a then 1 else 0
def cmpS (a b : ByteArray) : Int := if ltB a b = true then -1 else if a = b then 0 else 1
def ordI (a b : En) : Int := if a.2 = b.2 then cmpS a.1 b.1 else cmpI a.2 b.2
theorem ordI_lt (a b : En) : decide (ordI a b < 0) = ltE a b := by
  unfold ordI cmpS cmpI
  rw [Bool.eq_iff_iff, decide_eq_true_eq, ltE_iff]
  split
  · rename_i h
    split
    · rename_i k; simp [h, k]
    · rename_i k
      have k : ltB a.1 b.1 = false := by simpa using k
      split <;> simp [h, k]
  · rename_i h
    split
    · rename_i k; simp [h, k]
    · rename_i k
      split <;> simp [h, k]
abbrev enV (e : En) : Value := .agg #[.string e.1, .int .i64 e.2]
set_option maxRecDepth 100000 in
theorem cmpI_spec (a b : Int) (w : World) : CalcN 73 #[.int .i64 a, .int .i64 b] w (.int .i64 (cmpI a b)) := by
  have kn := fun (x : Int) (w : World) => (show CalcN 88 #[.int .i64 x] w (.bool false) from by
    go_enter Try.func88, Try.ntmps88
    go_wp2
    go_returns
    exact ⟨rfl, rfl⟩)
  unfold cmpI
  by_cases h : a < b
  · rw [if_pos h]
    have d := decide_eq_true h
    go_enter Try.func73, Try.ntmps73
    go_wp2_with (go_at_call 88; refine (kn _ _).mono ?_; rintro e w' ⟨rfl, rfl⟩)
    go_returns
    exact ⟨rfl, rfl⟩
  · rw [if_neg h]
    have d := decide_eq_false h
    by_cases k : b < a
    · rw [if_pos k]
      have d2 := decide_eq_true k
      go_enter Try.func73, Try.ntmps73
      go_wp2_with (go_at_call 88; refine (kn _ _).mono ?_; rintro e w' ⟨rfl, rfl⟩)
      go_returns
      exact ⟨rfl, rfl⟩
    · rw [if_neg k]
      have d2 := decide_eq_false k
      go_enter Try.func73, Try.ntmps73
      go_wp2_with (go_at_call 88; refine (kn _ _).mono ?_; rintro e w' ⟨rfl, rfl⟩)
      go_returns
      exact ⟨rfl, rfl⟩
set_option maxRecDepth 100000 in
theorem cmpS_spec (a b : ByteArray) (w : World) : CalcN 74 #[.string a, .string b] w (.int .i64 (cmpS a b)) := by
  have kn := fun (x : ByteArray) (w : World) => (show CalcN 89 #[.string x] w (.bool false) from by
    go_enter Try.func89, Try.ntmps89
    go_wp2
    go_returns
    exact ⟨rfl, rfl⟩)
  unfold cmpS
  by_cases h : ltB a b = true
  · rw [if_pos h]
    unfold ltB at h
    go_enter Try.func74, Try.ntmps74
    go_wp2_with (go_at_call 89; refine (kn _ _).mono ?_; rintro e w' ⟨rfl, rfl⟩)
    go_returns
    exact ⟨rfl, rfl⟩
  · rw [if_neg h]
    have h : Op.bytesLess a.toList b.toList = false := by simpa [ltB] using h
    by_cases k : a = b
    · subst k
      rw [if_pos rfl]
      go_enter Try.func74, Try.ntmps74
      go_wp2_with (go_at_call 89; refine (kn _ _).mono ?_; rintro e w' ⟨rfl, rfl⟩)
      go_returns
      exact ⟨rfl, rfl⟩
    · rw [if_neg k]
      have k : (a.toList == b.toList) = false := by
        cases q : a.toList == b.toList
        · rfl
        · exact absurd (toL_inj (by simpa using q)) k
      go_enter Try.func74, Try.ntmps74
      go_wp2_with (go_at_call 89; refine (kn _ _).mono ?_; rintro e w' ⟨rfl, rfl⟩)
      go_returns
      exact ⟨rfl, rfl⟩
end Go.Proofs.Ytbnlhjooimppeaa
/- due: order and Less. -/
namespace Go.Proofs.Ytbnlhjooimppeaa
set_option linter.unusedVariables false
set_option linter.unusedSimpArgs false
open Go.RowKit W Go.Maps
set_option maxRecDepth 100000 in
theorem order_spec (a b : En) (w : World) : Calls Try.prog 54 #[enV a, enV b] w fun e w' => e = .returned (.int .i64 (ordI a b)) ∧ Below w.heap.size w w' := by
  have k1 := cmpI_spec a.2 b.2
  have k2 := cmpS_spec a.1 b.1
  unfold ordI
  by_cases h : a.2 = b.2
  · rw [if_pos h]
    have d : (a.2 == b.2) = true := by simpa using h
    have d2 : (a.2 != b.2) = false := by simpa using h
    clear h
    go_enter Try.func54, Try.ntmps54
    go_wp2_with (go_at_call 74; refine (k2 _).mono ?_; rintro e w' ⟨rfl, rfl⟩)
    go_returns
    exact ⟨rfl, by go_grown⟩
  · rw [if_neg h]
    have d : (a.2 == b.2) = false := by simpa using h
    have d2 : (a.2 != b.2) = true := by simpa using h
    clear h
    go_enter Try.func54, Try.ntmps54
    go_wp2_with (go_at_call 73; refine (k1 _).mono ?_; rintro e w' ⟨rfl, rfl⟩)
    go_returns
    exact ⟨rfl, by go_grown⟩
theorem KM.form {B : Nat} {w : World} {kb mb m : Nat} {v : Value} {l : List En} {M : ByteArray → Option Int} (h : KM B w kb mb v l m M) (n : Nat) (hn : n = l.length) (h0 : 0 < n) : ∃ g c, v = .slice (some ⟨g, 0, none⟩) n c ∧ n ≤ c ∧ g < w.heap.size ∧ B ≤ g ∧ (∀ o, w.frozen? ⟨g, o, none⟩ = false) := by
  subst hn
  rcases h.row.2 with ⟨_, e⟩ | ⟨g, cap, cur, rfl, hb, hh, hc, _⟩
  · omega
  · exact ⟨g, cap, rfl, hc, blk_lt hh, hb, (row_look h.row).2.1⟩
theorem KM.key {B : Nat} {w : World} {kb mb m g n c : Nat} {l : List En} {M : ByteArray → Option Int} (h : KM B w kb mb (.slice (some ⟨g, 0, none⟩) n c) l m M) (hn : n = l.length) {i : Nat} (hi : i < l.length) : w.cell? ⟨g, i * 2, none⟩ = some (.string l[i].1) ∧ w.cell? ⟨g, i * 2 + 1, none⟩ = some (.int .i64 l[i].2) := by
  subst hn
  exact ⟨(row_look h.row).1 _ _ (dues_key hi), (row_look h.row).1 _ _ (dues_at hi)⟩
set_option maxRecDepth 100000 in
set_option maxHeartbeats 4000000 in
theorem less_spec {B : Nat} {w : World} {kb mb m : Nat} {v : Value} {l : List En} {M : ByteArray → Option Int} (h : KM B w kb mb v l m M) {i j : Nat} (hi : i < l.length) (hj : j < l.length) (hl : l.length ≤ 65536) :
    Calls Try.prog 126 #[.pointer (some ⟨kb, 0, none⟩), .int .i64 (i : Int), .int .i64 (j : Int)] w fun e w' => e = .returned (.bool (ltE l[i] l[j])) ∧ Below w.heap.size w w' := by
  obtain ⟨n, hn⟩ : ∃ n, n = l.length := ⟨_, rfl⟩
  obtain ⟨g, c, rfl, nc, gl, _, fz⟩ := h.form n hn (by omega)
  obtain ⟨x0, x1⟩ := h.key hn hi
  obtain ⟨y0, y1⟩ := h.key hn hj
  have c0 := h.k.cell 0 _ rfl
  have ko := order_spec l[i] l[j]
  have kl := h.k.lt
  rw [← ordI_lt]
  obtain ⟨a, ha⟩ : ∃ a, a = l[i] := ⟨_, rfl⟩
  obtain ⟨b, hb⟩ : ∃ b, b = l[j] := ⟨_, rfl⟩
  rw [← ha] at x0 x1 ko ⊢
  rw [← hb] at y0 y1 ko ⊢
  obtain ⟨r, hr⟩ : ∃ r, r = ordI a b := ⟨_, rfl⟩
  rw [← hr] at ko ⊢
  rw [← hn] at hi hj hl
  clear h ha hb hr hn
  go_enter Try.func126, Try.ntmps126
  go_wp2_with fail
  go_region_held3 (fun w' => w'.cell? ⟨kb, 0, none⟩ = some (.slice (some ⟨g, 0, none⟩) n c) ∧ w'.cell? ⟨g, i * 2, none⟩ = some (.string a.1) ∧ w'.cell? ⟨g, i * 2 + 1, none⟩ = some (.int .i64 a.2) ∧ w'.cell? ⟨g, j * 2, none⟩ = some (.string b.1) ∧ w'.cell? ⟨g, j * 2 + 1, none⟩ = some (.int .i64 b.2) ∧ Keeps w.heap.size w w')
    ((refine (fun K => ⟨Keeps.cell K c0 kl, Keeps.cell K x0 gl, Keeps.cell K x1 gl, Keeps.cell K y0 gl, Keeps.cell K y1 gl, K⟩) (?_ : Keeps w.heap.size w _); (repeat (first | assumption | exact Keeps.start (Nat.le_refl _) | refine Keeps.drew ?_ | refine Keeps.call ?_ (by assumption)))))
    ((go_at_call 54; refine (ko _).mono ?_; rintro e w' ⟨rfl, b1⟩; have K9 := Keeps.call (B := w.heap.size) (W := w) (by (repeat (first | assumption | exact Keeps.start (Nat.le_refl _) | refine Keeps.drew ?_))) b1))
  go_wp2_with fail
  go_returns
  exact ⟨rfl, K9.below⟩
end Go.Proofs.Ytbnlhjooimppeaa
/- due: Swap, Len. -/
namespace Go.Proofs.Ytbnlhjooimppeaa
set_option linter.unusedVariables false
set_option linter.unusedSimpArgs false
open Go.RowKit W Go.Maps
set_option maxRecDepth 100000 in
theorem klen_spec {B : Nat} {w : World} {kb mb m : Nat} {v : Value} {l : List En} {M : ByteArray → Option Int} (h : KM B w kb mb v l m M) :
    CalcN 45 #[.pointer (some ⟨kb, 0, none⟩)] w (.int .i64 (l.length : Int)) := by
  obtain ⟨A, c, rfl, _, _⟩ := own_form h.row
  have c0 := h.k.cell 0 _ rfl
  clear h
  go_enter Try.func45, Try.ntmps45
  go_wp2_with fail
  go_returns
  exact ⟨rfl, rfl⟩
theorem zeroI (w : World) : (zeroValue 3).run Try.prog w = .ok (.int .i64 0) w := by kernel_rfl
/-- The four stores of a swap. -/
theorem KM.swapped {B : Nat} {w : World} {kb mb m g n c : Nat} {l : List En} {M : ByteArray → Option Int} (h : KM B w kb mb (.slice (some ⟨g, 0, none⟩) n c) l m M) (hn : n = l.length) {i j : Nat} (hi : i < l.length) (hj : j < l.length) {w' : World}
    (hw : w' = (((w.setCell ⟨g, i * 2, none⟩ (.string l[j].1)).setCell ⟨g, i * 2 + 1, none⟩ (.int .i64 l[j].2)).setCell ⟨g, j * 2, none⟩ (.string l[i].1)).setCell ⟨g, j * 2 + 1, none⟩ (.int .i64 l[i].2)) :
    KM B w' kb mb (.slice (some ⟨g, 0, none⟩) n c) (swapL l i j) m M ∧ Chg (· = g) w w' := by
  subst hn hw
  have r0 := h.row
  have r1 := row_put r0 (i * 2) (by omega) (.string l[j].1)
  have r2 := row_put r1 (i * 2 + 1) (by omega) (.int .i64 l[j].2)
  have r3 := row_put r2 (j * 2) (by omega) (.string l[i].1)
  have r4 := row_put r3 (j * 2 + 1) (by omega) (.int .i64 l[i].2)
  have e : ((((dues l).set (i * 2) (.string l[j].1)).set (i * 2 + 1) (.int .i64 l[j].2)).set (j * 2) (.string l[i].1)).set (j * 2 + 1) (.int .i64 l[i].2) = dues (swapL l i j) := by
    rw [swapL_eq hi hj, dues_set, dues_set]
  rw [e] at r4
  have C : Chg (· = g) w ((((w.setCell ⟨g, i * 2, none⟩ (.string l[j].1)).setCell ⟨g, i * 2 + 1, none⟩ (.int .i64 l[j].2)).setCell ⟨g, j * 2, none⟩ (.string l[i].1)).setCell ⟨g, j * 2 + 1, none⟩ (.int .i64 l[i].2)) :=
    (((Chg.set (S := (· = g)) _ rfl).trans (Chg.set (S := (· = g)) _ rfl) (fun _ _ q => q)).trans (Chg.set (S := (· = g)) _ rfl) (fun _ _ q => q)).trans (Chg.set (S := (· = g)) _ rfl) (fun _ _ q => q)
  have n1 : ¬ kb = g := fun q => h.nrk (by rw [← q]; rfl)
  have n2 : ¬ mb = g := fun q => h.nrm (by rw [← q]; rfl)
  refine ⟨⟨h.k.chg C n1, by rw [swapL_len]; exact r4, h.map.chg C n2, h.bk, h.bm, fun e he => h.sz e ((swapL_perm hi hj).subset he)⟩, C⟩
theorem KM.putM {B : Nat} {w w' : World} {kb mb m m' : Nat} {v : Value} {l : List En} {M M' : ByteArray → Option Int} (h : KM B w kb mb v l m M) (tz : w.mapTurned w' mb) (mz : MapG elI w' mb m' M') : KM B w' kb mb v l m' M' :=
  have C := mapTurned_chg tz
  ⟨h.k.chg C h.nkm, chg_row h.row C (fun k e q => h.nrm (by rw [← q]; exact e)), mz, h.bk, h.bm, h.sz⟩
theorem swapL_at {α : Type} {l : List α} {i j : Nat} (hi : i < l.length) (hj : j < l.length) : (swapL l i j)[i]'(by rw [swapL_len]; exact hi) = l[j] ∧ (swapL l i j)[j]'(by rw [swapL_len]; exact hj) = l[i] := by
  constructor
  · simp only [swapL_eq hi hj]
    by_cases q : j = i
    · subst q; simp
    · rw [List.getElem_set_ne q, List.getElem_set_self]
  · simp only [swapL_eq hi hj]
    rw [List.getElem_set_self]
theorem idxI_is {l : List En} (k : Keys l) {i : Nat} (hi : i < l.length) : idxI l l[i].1 = some (i : Int) := by
  show (idxK l l[i].1).map Int.ofNat = _
  rw [(idxK_some k).2 ⟨hi, rfl⟩]; rfl
theorem unMap : Try.prog.underlying 95 = some (.map 9 3) := Try.underlying95
set_option maxRecDepth 100000 in
set_option maxHeartbeats 8000000 in
theorem swap_spec {B : Nat} {w : World} {kb mb : Nat} {v : Value} {l : List En} (h : KQ B w kb mb v l) {i j : Nat} (hi : i < l.length) (hj : j < l.length) :
    Calls Try.prog 129 #[.pointer (some ⟨kb, 0, none⟩), .int .i64 (i : Int), .int .i64 (j : Int)] w fun e w' => e = .returned (.tuple #[]) ∧ KQ B w' kb mb v (swapL l i j) ∧ Chg (kS3 kb mb v) w w' := by
  obtain ⟨n, hn⟩ : ∃ n, n = l.length := ⟨_, rfl⟩
  obtain ⟨g, c, rfl, nc, gl, gB, fz⟩ := h.km.form n hn (by omega)
  obtain ⟨x0, x1⟩ := h.km.key hn hi
  obtain ⟨y0, y1⟩ := h.km.key hn hj
  have c0 := h.km.k.cell 0 _ rfl
  have c1 := h.km.k.cell 1 _ rfl
  have kl := h.km.k.lt
  have SW := hide (fun w' => @KM.swapped B w kb mb l.length g n c l _ h.km hn i j hi hj w')
  have nk : kb ≠ g := fun q => h.km.nrk (by rw [← q]; rfl)
  have H := hide h
  obtain ⟨a, ha⟩ : ∃ a, a = l[i] := ⟨_, rfl⟩
  obtain ⟨b, hb⟩ : ∃ b, b = l[j] := ⟨_, rfl⟩
  have HA := hide ha
  have HB := hide hb
  rw [← ha] at x0 x1 SW
  rw [← hb] at y0 y1 SW
  have hl := h.len
  rw [← hn] at hl
  have HN := hide hn
  have HI := hide hi
  have HJ := hide hj
  rw [← hn] at hi hj
  have F0 := fz (i * 2)
  have F1 := fz (i * 2 + 1)
  have F2 := fz (j * 2)
  have F3 := fz (j * 2 + 1)
  have fz1 := fz 0
  clear h ha hb hn fz
  by_cases ij : i = j
  · subst ij
    obtain rfl : b = a := by rw [HA.out, HB.out]
    go_enter Try.func129, Try.ntmps129
    go_wp2_with fail
    go_region
    go_wp2_with fail
    refine abs_wp (fun W1 => Hid (KM B W1 kb mb (.slice (some ⟨g, 0, none⟩) n c) (swapL l i i) l.length (idxI l)) ∧ Hid (Chg (· = g) w W1)) ?_ ?_
    · exact ⟨hide ((SW.out _ rfl).1.later ((Below.refl _ _).drew)), hide ((SW.out _ rfl).2.drew)⟩
    rintro W1 ⟨H1, C1⟩
    have c0 := H1.out.k.cell 0 _ rfl
    have c1 := H1.out.k.cell 1 _ rfl
    have hn' : n = (swapL l i i).length := by rw [swapL_len]; exact HN.out
    have x0 := (H1.out.key hn' (i := i) (by omega)).1
    have y0 := (H1.out.key hn' (i := i) (by omega)).1
    rw [(swapL_at HI.out HJ.out).1, ← HB.out] at x0
    rw [(swapL_at HI.out HJ.out).2, ← HA.out] at y0
    have hm := hide hn'
    have K1 := H1.out.later (w' := W1.drew) ((Below.refl _ _).drew)
    have ki : (idxI l b.1).isSome = true := by rw [HB.out, idxI_is H.out.keys HJ.out]; rfl
    have kj : (updM (idxI l) b.1 (some (i : Int)) b.1).isSome = true := by
      unfold updM
      by_cases q : b.1 = b.1
      · rw [if_pos q]; rfl
      · rw [if_neg q, HA.out, idxI_is H.out.keys HI.out]; rfl
    have lm : l.length < maxLen := by have := HN.out; unfold maxLen; omega
    have sb : b.1.size ≤ maxLen := by rw [HB.out]; exact H.out.km.sz _ (List.getElem_mem HJ.out)
    have sa : b.1.size ≤ maxLen := by rw [HA.out]; exact H.out.km.sz _ (List.getElem_mem HI.out)
    obtain ⟨w2, hz, mz, tz⟩ := K1.map.put unMap lm b.1 sb (i : Int)
    rw [if_pos ki] at mz
    have K2 := hide (K1.putM tz mz)
    have C2 := hide (mapTurned_chg tz)
    rw [elI_enc] at hz
    have MZ := hide mz
    have KJ := hide kj
    clear hn' K1 tz mz ki kj x1 y1 F0 F1 F2 F3 SW fz1
    go_wp2_with fail
    go_region
    go_wp2_with fail
    clear hz
    have c0 := K2.out.k.cell 0 _ rfl
    have c1 := K2.out.k.cell 1 _ rfl
    have y0 := (K2.out.key hm.out (i := i) (by have := hm.out; omega)).1
    rw [(swapL_at HI.out HJ.out).2, ← HA.out] at y0
    have K3 := K2.out.later (w' := w2.drew) ((Below.refl _ _).drew)
    obtain ⟨w4, hz, mz, tz⟩ := K3.map.put unMap lm b.1 sa (i : Int)
    rw [if_pos KJ.out] at mz
    have K4 := hide (K3.putM tz mz)
    have C4 := hide (mapTurned_chg tz)
    rw [elI_enc] at hz
    clear K3 tz mz
    go_region
    go_end0
    refine ⟨rfl, ⟨?_, H.out.keys.perm (swapL_perm HI.out HJ.out).symm, by rw [swapL_len]; exact H.out.len⟩, ?_⟩
    · have q := K4.out
      rw [HA.out, idx_swap H.out.keys HI.out HJ.out] at q
      rw [swapL_len]
      exact q
    · exact ((C1.out.mono (fun k (e : k = g) => .inr (.inr (by rw [e]; rfl)))).trans ((Chg.refl (kS3 kb mb (.slice (some ⟨g, 0, none⟩) n c)) W1).drew.trans ((C2.out.mono (fun k (e : k = mb) => .inr (.inl e))).trans ((Chg.refl (kS3 kb mb (.slice (some ⟨g, 0, none⟩) n c)) w2).drew.trans (C4.out.mono (fun k (e : k = mb) => .inr (.inl e))) (fun _ _ q => q)) (fun _ _ q => q)) (fun _ _ q => q)) (fun _ _ q => q))

  have n1 : ¬ i * 2 = j * 2 := by omega
  have n2 : ¬ j * 2 = i * 2 := by omega
  have n3 : ¬ i * 2 + 1 = j * 2 := by omega
  have n4 : ¬ j * 2 + 1 = i * 2 := by omega
  have n5 : ¬ i * 2 = j * 2 + 1 := by omega
  have n6 : ¬ j * 2 = i * 2 + 1 := by omega
  go_enter Try.func129, Try.ntmps129
  go_wp2_with fail
  go_region
  go_wp2_with fail
  clear n1 n2 n3 n4 n5 n6
  refine abs_wp (fun W1 => Hid (KM B W1 kb mb (.slice (some ⟨g, 0, none⟩) n c) (swapL l i j) l.length (idxI l)) ∧ Hid (Chg (· = g) w W1)) ?_ ?_
  · exact ⟨hide ((SW.out _ rfl).1.later ((Below.refl _ _).drew)), hide ((SW.out _ rfl).2.drew)⟩
  rintro W1 ⟨H1, C1⟩
  have c0 := H1.out.k.cell 0 _ rfl
  have c1 := H1.out.k.cell 1 _ rfl
  have hn' : n = (swapL l i j).length := by rw [swapL_len]; exact HN.out
  have x0 := (H1.out.key hn' (i := i) (by omega)).1
  have y0 := (H1.out.key hn' (i := j) (by omega)).1
  rw [(swapL_at HI.out HJ.out).1, ← HB.out] at x0
  rw [(swapL_at HI.out HJ.out).2, ← HA.out] at y0
  have hm := hide hn'
  have K1 := H1.out.later (w' := W1.drew) ((Below.refl _ _).drew)
  have ki : (idxI l b.1).isSome = true := by rw [HB.out, idxI_is H.out.keys HJ.out]; rfl
  have kj : (updM (idxI l) b.1 (some (i : Int)) a.1).isSome = true := by
    unfold updM
    by_cases q : a.1 = b.1
    · rw [if_pos q]; rfl
    · rw [if_neg q, HA.out, idxI_is H.out.keys HI.out]; rfl
  have lm : l.length < maxLen := by have := HN.out; unfold maxLen; omega
  have sb : b.1.size ≤ maxLen := by rw [HB.out]; exact H.out.km.sz _ (List.getElem_mem HJ.out)
  have sa : a.1.size ≤ maxLen := by rw [HA.out]; exact H.out.km.sz _ (List.getElem_mem HI.out)
  obtain ⟨w2, hz, mz, tz⟩ := K1.map.put unMap lm b.1 sb (i : Int)
  rw [if_pos ki] at mz
  have K2 := hide (K1.putM tz mz)
  have C2 := hide (mapTurned_chg tz)
  rw [elI_enc] at hz
  have MZ := hide mz
  have KJ := hide kj
  clear hn' K1 tz mz ki kj x1 y1 F0 F1 F2 F3 SW fz1
  go_wp2_with fail
  go_region
  go_wp2_with fail
  clear hz
  have c0 := K2.out.k.cell 0 _ rfl
  have c1 := K2.out.k.cell 1 _ rfl
  have y0 := (K2.out.key hm.out (i := j) (by have := hm.out; omega)).1
  rw [(swapL_at HI.out HJ.out).2, ← HA.out] at y0
  have K3 := K2.out.later (w' := w2.drew) ((Below.refl _ _).drew)
  obtain ⟨w4, hz, mz, tz⟩ := K3.map.put unMap lm a.1 sa (j : Int)
  rw [if_pos KJ.out] at mz
  have K4 := hide (K3.putM tz mz)
  have C4 := hide (mapTurned_chg tz)
  rw [elI_enc] at hz
  clear K3 tz mz
  go_region
  go_end0
  refine ⟨rfl, ⟨?_, H.out.keys.perm (swapL_perm HI.out HJ.out).symm, by rw [swapL_len]; exact H.out.len⟩, ?_⟩
  · have q := K4.out
    rw [HA.out, HB.out, idx_swap H.out.keys HI.out HJ.out] at q
    rw [swapL_len]
    exact q
  · exact ((C1.out.mono (fun k (e : k = g) => .inr (.inr (by rw [e]; rfl)))).trans ((Chg.refl (kS3 kb mb (.slice (some ⟨g, 0, none⟩) n c)) W1).drew.trans ((C2.out.mono (fun k (e : k = mb) => .inr (.inl e))).trans ((Chg.refl (kS3 kb mb (.slice (some ⟨g, 0, none⟩) n c)) w2).drew.trans (C4.out.mono (fun k (e : k = mb) => .inr (.inl e))) (fun _ _ q => q)) (fun _ _ q => q)) (fun _ _ q => q)) (fun _ _ q => q))
end Go.Proofs.Ytbnlhjooimppeaa
/- due: Push and Pop of the heap's list. -/
namespace Go.Proofs.Ytbnlhjooimppeaa
set_option linter.unusedVariables false
set_option linter.unusedSimpArgs false
open Go.RowKit W Go.Maps
theorem cells_new' (W : World) (l : List Value) (t : TypeId) (n : Nat) (hn : W.heap.size = n) : ∀ j u, l[j]? = some u → (W.alloc (.cells l.toArray t)).cell? (Addr.add ⟨n, 0, none⟩ j) = some u := by
  intro j u h
  subst hn
  rw [Go.WideShapes.add_plain, Nat.zero_add, cell_of_row _ W.heap.size j l.toArray t (0, 0) (heap_alloc_new _ _)]
  simpa using h
theorem info_due : (Try.prog.info? 43).map (fun i => (i.zero, i.size, i.bytes)) = some (some (.agg #[.string ByteArray.empty, .int .i64 0]), 2, 24) := by kernel_rfl
theorem due_one (k : ByteArray) (a : Int) : ∀ u ∈ [Value.string k, .int .i64 a], u.oneCell' = true := by
  intro u hu
  simp only [List.mem_cons, List.not_mem_nil, or_false] at hu
  rcases hu with rfl | rfl <;> rfl
theorem Chg.grown2 {S : Nat → Prop} {w x w' : World} {o : Obj} {row : Option Nat} (hg : x.grownBy w' row) (hx : x.heap = w.heap.push o) (ho : x.os = w.os) (ht : x.tape = w.tape) (hu : x.output = w.output) (f : ∀ k, row = some k → S k) : Chg S w w' :=
  ⟨hg.os.trans ho, hg.tape.trans ht, hg.output.trans hu, Nat.le_trans (by rw [hx]; simp) hg.size, fun k hk e => (hg.block k (by rw [hx]; simp; omega) (fun q => e (f k q.symm))).trans (by rw [hx, Array.getElem?_push, if_neg (Nat.ne_of_lt hk)])⟩
theorem assert_due (x : En) (w : World) : (Instr.typeAssert (.iface 43 (enV x)) 20 43 true).run Try.prog w = .ok (.tuple #[enV x, .bool true]) w := by
  unfold Instr.typeAssert
  simp only [Sem.run_bind, run_underlying Try.underlying43, Result.andThen]
  rfl
theorem pushed {B : Nat} {w w2 w9 : World} {kb mb b9 cap9 n : Nat} {v : Value} {l : List En} {x : En} (keys : Keys l) (hx : hasK l x.1 = false) (hs : x.1.size ≤ maxLen) (hn : n = l.length) (hl : n < 65536) (lt : w.heap.size ≤ w2.heap.size)
    (K2 : KM B w2 kb mb v l (l.length + 1) (updM (idxI l) x.1 (some (n : Int)))) (K9 : Bw w9 kb 97 #[v, .map (some mb)]) (C9 : Chg (fun k => v.ownBlock = some k) w2 w9)
    (O9 : w9.ownsRow B 43 2 (.slice (some ⟨b9, 0, none⟩) (n + 1) cap9) (n + 1) (dues l ++ [.string x.1, .int .i64 x.2])) (A9 : v.ownBlock = some b9 ∨ b9 = w2.heap.size + 1) :
    KQ B (w9.setCell ⟨kb, 0, none⟩ (.slice (some ⟨b9, 0, none⟩) (n + 1) cap9)) kb mb (.slice (some ⟨b9, 0, none⟩) (n + 1) cap9) (l ++ [x]) ∧ Chg (kS3 kb mb v) w2 (w9.setCell ⟨kb, 0, none⟩ (.slice (some ⟨b9, 0, none⟩) (n + 1) cap9)) ∧
      ∀ k, (Value.slice (some ⟨b9, 0, none⟩) (n + 1) cap9).ownBlock = some k → v.ownBlock = some k ∨ w.heap.size ≤ k := by
  subst hn
  have C10 : Chg (· = kb) w9 (w9.setCell ⟨kb, 0, none⟩ (.slice (some ⟨b9, 0, none⟩) (l.length + 1) cap9)) := Chg.set _ rfl
  have bk : b9 ≠ kb := by
    rintro rfl
    rcases A9 with q | q
    · exact K2.nrk q
    · have := K2.k.lt; omega
  have C11 : Chg (kS3 kb mb v) w2 (w9.setCell ⟨kb, 0, none⟩ (.slice (some ⟨b9, 0, none⟩) (l.length + 1) cap9)) :=
    (C9.mono (fun k e => .inr (.inr e))).trans (C10.mono (S' := kS3 kb mb v) (fun k e => .inl e)) (fun _ _ q => q)
  refine ⟨⟨⟨K9.set 0 _, ?_, ?_, K2.bk, K2.bm, ?_⟩, keys.push x hx, by simp; omega⟩, C11, fun k e => ?_⟩
  · rw [dues_app, List.length_append]
    refine chg_row O9 C10 (fun k e q => bk ?_)
    rw [q] at e
    simpa [Value.ownBlock] using e
  · rw [List.length_append, ← idx_push x hx keys]
    exact (K2.map.chg C9 K2.nrm).chg C10 (fun q => K2.nkm q.symm)
  · intro e he
    rcases List.mem_append.1 he with q | q
    · exact K2.sz e q
    · rw [List.mem_singleton] at q; subst q; exact hs
  · have e : b9 = k := by simpa [Value.ownBlock] using e
    subst e
    rcases A9 with q | q
    · exact .inl q
    · right; omega
set_option maxRecDepth 100000 in
set_option maxHeartbeats 8000000 in
theorem push_spec {B : Nat} {w : World} {kb mb : Nat} {v : Value} {l : List En} (h : KQ B w kb mb v l) (x : En) (hx : hasK l x.1 = false) (hs : x.1.size ≤ maxLen) (hl : l.length < 65536) (hB : B ≤ w.heap.size) :
    Calls Try.prog 128 #[.pointer (some ⟨kb, 0, none⟩), .iface 43 (enV x)] w fun e w' => e = .returned (.tuple #[]) ∧ ∃ v', KQ B w' kb mb v' (l ++ [x]) ∧ Chg (kS3 kb mb v) w w' ∧ ∀ k, v'.ownBlock = some k → v.ownBlock = some k ∨ w.heap.size ≤ k := by
  obtain ⟨i0, hi0⟩ : ∃ i0, Hid (Try.prog.info? 43 = some i0 ∧ i0.zero = some (.agg #[.string ByteArray.empty, .int .i64 0]) ∧ i0.size = 2 ∧ i0.bytes = 24) := by
    obtain ⟨i0, h1, h2, h3, h4⟩ := info_parts info_due
    exact ⟨i0, h1, h2, h3, h4⟩
  obtain ⟨A, c, rfl, nc, _⟩ := own_form h.km.row
  obtain ⟨n, hn⟩ : ∃ n, n = l.length := ⟨_, rfl⟩
  have HN := hide hn
  have H := hide h
  have HX := hide hx
  have kl := h.km.k.lt
  have ta := assert_due x
  rw [← hn] at hl nc ⊢
  go_enter Try.func128, Try.ntmps128
  go_wp2_with fail
  refine abs_wp (fun W1 => Hid (KQ B W1 kb mb (.slice A n c) l) ∧ Hid (Below w.heap.size w W1) ∧ W1.cell? ⟨w.heap.size, 0, none⟩ = some (.string x.1) ∧ W1.cell? ⟨w.heap.size, 1, none⟩ = some (.int .i64 x.2) ∧ W1.heap.size = w.heap.size + 1) ?_ ?_
  · have q : KQ B w kb mb (.slice A n c) l := by rw [HN.out]; exact H.out
    exact ⟨hide (q.later (by go_grown)), hide (by go_grown), by simp [go_sem], by simp [go_sem], by simp⟩
  rintro W1 ⟨H1, B1, x0, x1, z1⟩
  clear ta
  have c0 := H1.out.km.k.cell 0 _ rfl
  have c1 := H1.out.km.k.cell 1 _ rfl
  have M1 : MapG elI W1.drew mb l.length (idxI l) := H1.out.km.map.chg (S := fun _ => False) ((Chg.refl _ _).drew) (fun q => q)
  have hk : (idxI l x.1).isSome = false := by
    show ((idxK l x.1).map Int.ofNat).isSome = false
    rw [Option.isSome_map, idxK_has, HX.out]
  obtain ⟨w2, hz, mz, tz⟩ := M1.put unMap (by unfold maxLen; omega) x.1 hs (n : Int)
  rw [hk, if_neg (by decide)] at mz
  rw [elI_enc] at hz
  have K2 := hide ((H1.out.km.later (w' := W1.drew) ((Below.refl _ _).drew)).putM tz mz)
  have C2 := hide (mapTurned_chg tz)
  have nm : w.heap.size ≠ mb := by have := h.km.map.lt; omega
  have y0 : w2.cell? ⟨w.heap.size, 0, none⟩ = some (.string x.1) := (C2.out.cell (by simp; omega) nm).trans x0
  have y1 : w2.cell? ⟨w.heap.size, 1, none⟩ = some (.int .i64 x.2) := (C2.out.cell (by simp; omega) nm).trans x1
  have z2 : w.heap.size + 1 ≤ w2.heap.size := by have := C2.out.size; simp at this; omega
  clear M1 mz tz hk hx h hn
  go_region
  go_wp2_with fail
  have d0 := K2.out.k.cell 0 _ rfl
  have d1 := K2.out.k.cell 1 _ rfl
  have f0 := K2.out.k.frz 0
  have kl2 := K2.out.k.lt
  have OW : Hid (w2.ownsRow B 43 2 (.slice A n c) n (dues l)) := by have := K2.out.row; rw [← HN.out] at this; exact this
  have hB2 : B ≤ w2.heap.size := by omega
  have NK : Hid (∀ k, Value.ownBlock (.slice A n c) = some k → k ≠ kb) := hide (fun k e q => K2.out.nrk (by rw [← q]; exact e))
  have KB2 := hide K2.out.k
  go_region_law ((refine step_append_lies _ (by rfl) _ _ 27 (by rfl) B 43 i0 _ 2 24 Try.underlying27 hi0.out.1 hi0.out.2.1 hi0.out.2.2.1 hi0.out.2.2.2 rfl (by decide) (.slice A n c) n (dues l) (by rfl) (OW.out.alloc _) ⟨w2.heap.size, 0, none⟩ 1 1 [.string x.1, .int .i64 x.2] (by rfl) rfl (cells_new' _ _ _ _ (by simp)) (due_one _ _) (by decide) (by unfold maxLen; omega) (by omega) (by simp; omega) (w2.heap.size + 1) (by simp) ?_; intro b9 cap9 w9 hown9 hgrow9 hat9 hlt9; have C9 : Hid (Chg (fun k => Value.ownBlock (.slice A n c) = some k) w2 w9) := hide (Chg.grown2 (w := w2) hgrow9 rfl rfl rfl rfl (fun _ e => e)); have K9 := hide (KB2.out.chg C9.out (fun e => NK.out _ e rfl)); have e0 := K9.out.cell 0 _ rfl; have g0 := K9.out.frz 0; have O9 := hide hown9; have A9 := hide hat9; have L9 := hide hlt9; clear hown9 hgrow9 hat9 hlt9))
  all_goals
    go_wp2_with fail
    go_end0
    obtain ⟨r1, r2, r3⟩ := pushed (w := w) H.out.keys HX.out hs HN.out hl (by omega) K2.out K9.out C9.out O9.out A9.out
    exact ⟨rfl, _, r1, (Chg.of_below B1.out).trans ((Chg.refl _ W1).drew.trans ((C2.out.mono (fun k (e : k = mb) => .inr (.inl e))).trans r2 (fun _ _ q => q)) (fun _ _ q => q)) (fun _ _ q => q), r3⟩
end Go.Proofs.Ytbnlhjooimppeaa
