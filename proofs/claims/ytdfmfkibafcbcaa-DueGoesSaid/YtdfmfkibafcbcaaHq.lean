/- due: a queue, plainly: a list that rises. -/
import Derived.Test.YtdfmfkibafcbcaaHp
import Derived.Test.YtdfmfkibafcbcaaProg
import Derived.Sort.Walk0
namespace Go.Proofs.Ytdfmfkibafcbcaa
set_option linter.unusedVariables false
set_option linter.unusedSimpArgs false
/-- A key and when it is due. -/
abbrev En := ByteArray × Int
theorem bytesLess_eq' (x y : List UInt8) : Op.bytesLess x y = decide (x < y) := Go.Proofs.bytesLess_eq x y
def ltB (a b : ByteArray) : Bool := Op.bytesLess a.toList b.toList
theorem toL_inj {a b : ByteArray} (h : a.toList = b.toList) : a = b := by
  rw [ByteArray.toList_eq, ByteArray.toList_eq] at h
  exact ByteArray.ext (Array.toList_inj.1 h)
theorem ltB_asym {a b : ByteArray} (h : ltB a b = true) : ltB b a = false := by
  unfold ltB at *
  rw [bytesLess_eq', decide_eq_true_eq] at h
  rw [bytesLess_eq', decide_eq_false_iff_not]
  exact fun q => List.lt_irrefl _ (List.lt_trans h q)
theorem ltB_tot {a b : ByteArray} (h : ltB a b = false) (k : ltB b a = false) : a = b := by
  unfold ltB at *
  rw [bytesLess_eq', decide_eq_false_iff_not] at h k
  exact toL_inj (List.le_antisymm k h)
theorem ltB_tr {a b c : ByteArray} (h : ltB a b = false) (k : ltB b c = false) : ltB a c = false := by
  unfold ltB at *
  rw [bytesLess_eq', decide_eq_false_iff_not] at h k ⊢
  exact fun q => absurd q (List.not_lt.2 (List.le_trans (List.not_lt.1 k) (List.not_lt.1 h)) )
theorem ltB_irr (a : ByteArray) : ltB a a = false := by
  unfold ltB
  rw [bytesLess_eq', decide_eq_false_iff_not]
  exact List.lt_irrefl _
theorem ltB_trans {a b c : ByteArray} (h : ltB a b = true) (k : ltB b c = true) : ltB a c = true := by
  unfold ltB at *
  rw [bytesLess_eq', decide_eq_true_eq] at h k ⊢
  exact List.lt_trans h k
def ltE (a b : En) : Bool := decide (a.2 < b.2) || (decide (a.2 = b.2) && ltB a.1 b.1)
theorem ltE_iff (a b : En) : ltE a b = true ↔ a.2 < b.2 ∨ a.2 = b.2 ∧ ltB a.1 b.1 = true := by simp [ltE]
theorem ltE_not (a b : En) : ltE a b = false ↔ ¬ a.2 < b.2 ∧ (a.2 = b.2 → ltB a.1 b.1 = false) := by
  rw [← Bool.not_eq_true, ltE_iff]
  constructor
  · intro h
    refine ⟨fun q => h (.inl q), fun q => ?_⟩
    cases e : ltB a.1 b.1
    · rfl
    · exact absurd (.inr ⟨q, e⟩) h
  · rintro ⟨h1, h2⟩ (q | ⟨q, q2⟩)
    · exact h1 q
    · rw [h2 q] at q2; cases q2
theorem ordE : Ord ltE where
  asym a b h := by
    rw [ltE_iff] at h
    rw [ltE_not]
    rcases h with h | ⟨h, k⟩
    · exact ⟨by omega, fun q => by omega⟩
    · exact ⟨by omega, fun _ => ltB_asym k⟩
  tr a b c h k := by
    rw [ltE_not] at *
    obtain ⟨h1, h2⟩ := h
    obtain ⟨k1, k2⟩ := k
    refine ⟨by omega, fun q => ?_⟩
    exact ltB_tr (h2 (by omega)) (k2 (by omega))
  tot a b h k := by
    rw [ltE_not] at *
    have e : a.2 = b.2 := by omega
    exact Prod.ext (ltB_tot (h.2 e) (k.2 e.symm)) e
/-- No key twice. -/
def Keys (l : List En) : Prop := l.Pairwise fun a b => a.1 ≠ b.1
theorem Keys.perm {l m : List En} (h : Keys l) (p : l.Perm m) : Keys m := (List.Perm.pairwise_iff (fun {_ _} q => Ne.symm q) p).1 h
theorem Keys.eq {l : List En} (h : Keys l) {i j : Nat} (hi : i < l.length) (hj : j < l.length) (e : l[i].1 = l[j].1) : i = j := by
  rw [Keys, List.pairwise_iff_getElem] at h
  rcases Nat.lt_trichotomy i j with q | q | q
  · exact absurd e (h i j hi hj q)
  · exact q
  · exact absurd e.symm (h j i hj hi q)
def hasK (r : List En) (key : ByteArray) : Bool := r.any fun e => decide (e.1 = key)
def delK (r : List En) (key : ByteArray) : List En := r.filter fun e => !decide (e.1 = key)
def insE (r : List En) (d : En) : List En := r.takeWhile (fun e => ltE e d) ++ d :: r.dropWhile (fun e => ltE e d)
def setR (r : List En) (key : ByteArray) (at' : Int) : List En := insE (delK r key) (key, at')
theorem hasK_iff {r : List En} {key : ByteArray} : hasK r key = true ↔ ∃ e ∈ r, e.1 = key := by simp [hasK]
theorem hasK_perm {l r : List En} (p : l.Perm r) (key : ByteArray) : hasK l key = hasK r key := by
  rw [Bool.eq_iff_iff, hasK_iff, hasK_iff]
  exact ⟨fun ⟨e, h, q⟩ => ⟨e, p.subset h, q⟩, fun ⟨e, h, q⟩ => ⟨e, p.symm.subset h, q⟩⟩
theorem delK_none {r : List En} {key : ByteArray} (h : hasK r key = false) : delK r key = r := by
  unfold delK
  rw [List.filter_eq_self]
  intro a ha
  simp only [Bool.not_eq_true', decide_eq_false_iff_not]
  exact fun e => by
    have : hasK r key = true := hasK_iff.2 ⟨a, ha, e⟩
    rw [h] at this; cases this
theorem hasK_del (r : List En) (key : ByteArray) : hasK (delK r key) key = false := by
  cases h : hasK (delK r key) key
  · rfl
  · obtain ⟨e, he, q⟩ := hasK_iff.1 h
    have := (List.mem_filter.1 he).2
    rw [q] at this
    simp at this
theorem hasK_del_ne (r : List En) {key k : ByteArray} (ne : k ≠ key) : hasK (delK r key) k = hasK r k := by
  rw [Bool.eq_iff_iff, hasK_iff, hasK_iff]
  constructor
  · rintro ⟨e, h, q⟩; exact ⟨e, (List.mem_filter.1 h).1, q⟩
  · rintro ⟨e, h, q⟩
    refine ⟨e, List.mem_filter.2 ⟨h, ?_⟩, q⟩
    subst q; simp [ne]
theorem Keys.del {r : List En} (h : Keys r) (key : ByteArray) : Keys (delK r key) := h.filter _
theorem Sorted.del {r : List En} (h : Sorted ltE r) (key : ByteArray) : Sorted ltE (delK r key) := h.filter _
theorem delK_len {r : List En} (h : Keys r) {key : ByteArray} (hk : hasK r key = true) : (delK r key).length + 1 = r.length := by
  induction r with
  | nil => cases hk
  | cons a r ih =>
    have h' := List.pairwise_cons.1 h
    by_cases e : a.1 = key
    · have : delK (a :: r) key = delK r key := by simp [delK, e]
      rw [this, delK_none]
      · rfl
      · cases q : hasK r key
        · rfl
        · obtain ⟨x, hx, hxe⟩ := hasK_iff.1 q
          exact absurd (e.trans hxe.symm) (h'.1 x hx)
    · have : delK (a :: r) key = a :: delK r key := by simp [delK, e]
      have hk' : hasK r key = true := by simpa [hasK, e] using hk
      rw [this, List.length_cons, List.length_cons, ih h'.2 hk']
/-- Without one that is there. -/
theorem delK_erase {l : List En} (h : Keys l) {i : Nat} (hi : i < l.length) : delK l l[i].1 = l.eraseIdx i := by
  induction l generalizing i with
  | nil => simp at hi
  | cons a l ih =>
    have h' := List.pairwise_cons.1 h
    cases i with
    | zero =>
      have : delK (a :: l) a.1 = delK l a.1 := by simp [delK]
      simp only [List.getElem_cons_zero, List.eraseIdx_cons_zero]
      rw [this, delK_none]
      cases q : hasK l a.1
      · rfl
      · obtain ⟨x, hx, hxe⟩ := hasK_iff.1 q
        exact absurd hxe.symm (h'.1 x hx)
    | succ i =>
      have hi' : i < l.length := by simpa using hi
      have ne : a.1 ≠ l[i].1 := h'.1 _ (List.getElem_mem hi')
      simp only [List.getElem_cons_succ, List.eraseIdx_cons_succ]
      rw [show delK (a :: l) l[i].1 = a :: delK l l[i].1 from by simp [delK, ne], ih h'.2 hi']
theorem delK_perm {l r : List En} (p : l.Perm r) (key : ByteArray) : (delK l key).Perm (delK r key) := p.filter _
theorem erase_cons_perm {α : Type} : ∀ {l : List α} {i : Nat} (hi : i < l.length), (l[i] :: l.eraseIdx i).Perm l
  | a :: l, 0, _ => List.Perm.refl _
  | a :: l, i + 1, h => by
    simp only [List.getElem_cons_succ, List.eraseIdx_cons_succ]
    exact (List.Perm.swap _ _ _).trans ((erase_cons_perm (by simpa using h)).cons a)
theorem set_perm {α : Type} {l : List α} {i : Nat} (hi : i < l.length) (x : α) : (l.set i x).Perm (x :: l.eraseIdx i) := by
  have h := (erase_cons_perm (l := l.set i x) (i := i) (by simpa using hi)).symm
  rw [List.getElem_set_self, List.eraseIdx_set_eq] at h
  exact h
theorem insE_perm (r : List En) (d : En) : (insE r d).Perm (d :: r) := by
  unfold insE
  have := List.takeWhile_append_dropWhile (p := fun e => ltE e d) (l := r)
  exact List.perm_middle.trans (by rw [this])
theorem insE_sorted {r : List En} (h : Sorted ltE r) (d : En) (hk : hasK r d.1 = false) : Sorted ltE (insE r d) := by
  induction r with
  | nil => simp [insE, Sorted]
  | cons a r ih =>
    have h' := List.pairwise_cons.1 h
    have hk' : hasK r d.1 = false := by
      cases q : hasK r d.1
      · rfl
      · obtain ⟨x, hx, e⟩ := hasK_iff.1 q
        rw [hasK_iff.2 ⟨x, List.mem_cons_of_mem _ hx, e⟩] at hk; cases hk
    have ne : a ≠ d := fun e => by rw [hasK_iff.2 ⟨a, List.mem_cons_self, by rw [e]⟩] at hk; cases hk
    by_cases e : ltE a d = true
    · have : insE (a :: r) d = a :: insE r d := by simp [insE, e]
      rw [this]
      refine List.pairwise_cons.2 ⟨fun x hx => ?_, ih h'.2 hk'⟩
      rcases List.mem_cons.1 ((insE_perm r d).subset hx) with rfl | q
      · exact e
      · exact h'.1 x q
    · have e := Bool.not_eq_true _ ▸ e
      have ed : ltE d a = true := by
        cases q : ltE d a
        · exact absurd (ordE.tot _ _ e q) ne
        · rfl
      have : insE (a :: r) d = d :: a :: r := by simp [insE, e]
      rw [this]
      refine List.pairwise_cons.2 ⟨fun x hx => ?_, h⟩
      rcases List.mem_cons.1 hx with rfl | q
      · exact ed
      · have q1 := h'.1 x q
        rw [ltE_iff] at ed q1 ⊢
        rcases ed with ed | ⟨ed, ed2⟩
        · rcases q1 with q1 | q1 <;> (left; omega)
        · rcases q1 with q1 | ⟨q1, q2⟩
          · left; omega
          · right
            exact ⟨by omega, ltB_trans ed2 q2⟩
theorem Keys.ins {r : List En} (h : Keys r) (d : En) (hk : hasK r d.1 = false) : Keys (insE r d) := by
  refine Keys.perm (l := d :: r) (List.pairwise_cons.2 ⟨fun x hx e => ?_, h⟩) (insE_perm r d).symm
  rw [hasK_iff.2 ⟨x, hx, e.symm⟩] at hk; cases hk
/-- Set, at what the program makes of it. -/
theorem set_old {l r : List En} (p : l.Perm r) (k : Keys l) {i : Nat} (hi : i < l.length) (at' : Int) : (l.set i (l[i].1, at')).Perm (setR r l[i].1 at') := by
  refine (set_perm hi _).trans (List.Perm.trans ?_ (insE_perm _ _).symm)
  refine List.Perm.cons _ ?_
  rw [← delK_erase k hi]
  exact delK_perm p _
theorem set_new {l r : List En} (p : l.Perm r) {key : ByteArray} (hk : hasK r key = false) (at' : Int) : (l ++ [(key, at')]).Perm (setR r key at') := by
  refine (List.perm_append_comm.trans (List.Perm.trans ?_ (insE_perm _ _).symm))
  rw [delK_none hk]
  exact p.cons _
theorem setR_sorted {r : List En} (h : Sorted ltE r) (key : ByteArray) (at' : Int) : Sorted ltE (setR r key at') := insE_sorted (h.del key) _ (hasK_del r key)
theorem setR_keys {r : List En} (h : Keys r) (key : ByteArray) (at' : Int) : Keys (setR r key at') := (h.del key).ins _ (hasK_del r key)
theorem setR_len {r : List En} (h : Keys r) (key : ByteArray) (at' : Int) : (setR r key at').length = if hasK r key then r.length else r.length + 1 := by
  have := (insE_perm (delK r key) (key, at')).length_eq
  unfold setR
  rw [this, List.length_cons]
  cases q : hasK r key
  · rw [delK_none q]; rfl
  · rw [delK_len h q]; rfl
/-- What stands at a key. -/
def atK (r : List En) (key : ByteArray) : Option Int := (r.find? fun e => decide (e.1 = key)).map (·.2)
theorem atK_some {r : List En} (h : Keys r) {key : ByteArray} {a : Int} : atK r key = some a ↔ (key, a) ∈ r := by
  unfold atK
  induction r with
  | nil => simp
  | cons x r ih =>
    have h' := List.pairwise_cons.1 h
    by_cases e : x.1 = key
    · rw [List.find?_cons_of_pos (by simpa using e)]
      constructor
      · intro q
        have q : x.2 = a := by simpa using q
        exact List.mem_cons.2 (.inl (Prod.ext e.symm q.symm))
      · intro q
        rcases List.mem_cons.1 q with q | q
        · rw [← q]; rfl
        · exact absurd (by rw [e]) (h'.1 _ q)
    · rw [List.find?_cons_of_neg (by simpa using e), ih h'.2]
      constructor
      · exact fun q => List.mem_cons_of_mem _ q
      · intro q
        rcases List.mem_cons.1 q with q | q
        · exact absurd (by rw [← q]) e
        · exact q
theorem atK_none {r : List En} {key : ByteArray} : atK r key = none ↔ hasK r key = false := by
  unfold atK hasK
  rw [Option.map_eq_none_iff, List.find?_eq_none]
  simp
/-- The place of a key. -/
def idxK (l : List En) (key : ByteArray) : Option Nat := l.findIdx? fun e => decide (e.1 = key)
theorem idxK_some {l : List En} (h : Keys l) {key : ByteArray} {i : Nat} : idxK l key = some i ↔ ∃ hi : i < l.length, l[i].1 = key := by
  unfold idxK
  rw [List.findIdx?_eq_some_iff_getElem]
  constructor
  · rintro ⟨hi, h1, _⟩; exact ⟨hi, by simpa using h1⟩
  · rintro ⟨hi, h1⟩
    refine ⟨hi, by simpa using h1, fun j hj => ?_⟩
    simp only [Bool.not_eq_true', decide_eq_false_iff_not, Bool.not_eq_true]
    intro q
    have := h.eq (by omega) hi (q.trans h1.symm)
    omega
theorem idxK_none {l : List En} {key : ByteArray} : idxK l key = none ↔ hasK l key = false := by
  unfold idxK hasK
  rw [List.findIdx?_eq_none_iff]
  simp
theorem idxK_has {l : List En} (key : ByteArray) : (idxK l key).isSome = hasK l key := by
  cases q : idxK l key
  · rw [idxK_none.1 q]; rfl
  · cases e : hasK l key
    · rw [idxK_none.2 e] at q; cases q
    · rfl
end Go.Proofs.Ytdfmfkibafcbcaa
