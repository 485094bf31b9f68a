/- source: a list of sources by rising names, plainly. -/
import Derived.Test.YtbnlhjooimppeaaQc
namespace Go.Proofs.Ytbnlhjooimppeaa
set_option linter.unusedVariables false
set_option linter.unusedSimpArgs false
/-- A source: its name, its greatest second, when it was last heard. -/
abbrev Sr := ByteArray × Int × Int
def Names (A : List Sr) : Prop := A.Pairwise fun a b => ltB a.1 b.1 = true
def findS (A : List Sr) (key : ByteArray) : Option Sr := A.find? fun s => decide (s.1 = key)
def dropS (A : List Sr) (key : ByteArray) : List Sr := match A.dropWhile (fun s => ltB s.1 key) with | [] => [] | s :: r => if s.1 = key then r else s :: r
def putS (A : List Sr) (s : Sr) : List Sr := A.takeWhile (fun x => ltB x.1 s.1) ++ s :: dropS A s.1
theorem ltB_ne {a b : ByteArray} (h : ltB a b = true) : a ≠ b := by
  rintro rfl
  rw [ltB_irr] at h
  cases h
theorem Names.eq {A : List Sr} (h : Names A) {s t : Sr} (hs : s ∈ A) (ht : t ∈ A) (e : s.1 = t.1) : s = t := by
  induction A with
  | nil => cases hs
  | cons a A ih =>
    have h' := List.pairwise_cons.1 h
    rcases List.mem_cons.1 hs with q | q
    · rcases List.mem_cons.1 ht with z | z
      · rw [q, z]
      · subst q; exact absurd e (ltB_ne (h'.1 t z))
    · rcases List.mem_cons.1 ht with z | z
      · subst z; exact absurd e.symm (ltB_ne (h'.1 s q))
      · exact ih h'.2 q z
theorem findS_some {A : List Sr} (h : Names A) {key : ByteArray} {s : Sr} : findS A key = some s ↔ s ∈ A ∧ s.1 = key := by
  unfold findS
  constructor
  · intro q
    exact ⟨List.mem_of_find?_eq_some q, by simpa using List.find?_some q⟩
  · rintro ⟨h1, h2⟩
    cases e : A.find? fun s => decide (s.1 = key) with
    | none =>
      rw [List.find?_eq_none] at e
      exact absurd h2 (by simpa using e s h1)
    | some t =>
      have t1 := List.mem_of_find?_eq_some e
      have t2 : t.1 = key := by simpa using List.find?_some e
      rw [h.eq t1 h1 (t2.trans h2.symm)]
theorem findS_none {A : List Sr} {key : ByteArray} : findS A key = none ↔ ∀ s ∈ A, s.1 ≠ key := by
  unfold findS
  rw [List.find?_eq_none]
  simp
theorem putS_cons_lt {A : List Sr} {a s : Sr} (h : ltB a.1 s.1 = true) : putS (a :: A) s = a :: putS A s := by
  simp [putS, dropS, h]
theorem putS_cons_eq {A : List Sr} {a s : Sr} (h : a.1 = s.1) : putS (a :: A) s = s :: A := by
  simp [putS, dropS, h, ltB_irr]
theorem putS_cons_gt {A : List Sr} {a s : Sr} (h : ltB a.1 s.1 = false) (n : a.1 ≠ s.1) : putS (a :: A) s = s :: a :: A := by
  simp [putS, dropS, h, n]
theorem mem_putS {A : List Sr} (h : Names A) {s x : Sr} : x ∈ putS A s ↔ x = s ∨ (x ∈ A ∧ x.1 ≠ s.1) := by
  induction A with
  | nil => simp [putS, dropS]
  | cons a A ih =>
    have h' := List.pairwise_cons.1 h
    by_cases c : ltB a.1 s.1 = true
    · rw [putS_cons_lt c, List.mem_cons, ih h'.2, List.mem_cons]
      constructor
      · rintro (q | q | ⟨q1, q2⟩)
        · subst q; exact .inr ⟨.inl rfl, ltB_ne c⟩
        · exact .inl q
        · exact .inr ⟨.inr q1, q2⟩
      · rintro (q | ⟨q | q, z⟩)
        · exact .inr (.inl q)
        · exact .inl q
        · exact .inr (.inr ⟨q, z⟩)
    · have c : ltB a.1 s.1 = false := by simpa using c
      by_cases e : a.1 = s.1
      · rw [putS_cons_eq e, List.mem_cons, List.mem_cons]
        constructor
        · rintro (q | q)
          · exact .inl q
          · exact .inr ⟨.inr q, by rw [← e]; exact (ltB_ne (h'.1 x q)).symm⟩
        · rintro (q | ⟨q | q, z⟩)
          · exact .inl q
          · subst q; exact absurd e z
          · exact .inr q
      · rw [putS_cons_gt c e, List.mem_cons]
        constructor
        · rintro (q | q)
          · exact .inl q
          · refine .inr ⟨q, fun z => ?_⟩
            rcases List.mem_cons.1 q with w | w
            · subst w; exact e z
            · have sa : ltB s.1 a.1 = true := by
                cases k : ltB s.1 a.1
                · exact absurd (ltB_tot c k) e
                · rfl
              have := ltB_trans sa (h'.1 x w)
              rw [z, ltB_irr] at this; cases this
        · rintro (q | ⟨q, z⟩)
          · exact .inl q
          · exact .inr q
theorem Names.put {A : List Sr} (h : Names A) (s : Sr) : Names (putS A s) := by
  induction A with
  | nil => simp [putS, dropS, Names]
  | cons a A ih =>
    have h' := List.pairwise_cons.1 h
    by_cases c : ltB a.1 s.1 = true
    · rw [putS_cons_lt c]
      refine List.pairwise_cons.2 ⟨fun x hx => ?_, ih h'.2⟩
      rcases (mem_putS h'.2).1 hx with q | ⟨q, _⟩
      · subst q; exact c
      · exact h'.1 x q
    · have c : ltB a.1 s.1 = false := by simpa using c
      by_cases e : a.1 = s.1
      · rw [putS_cons_eq e]
        exact List.pairwise_cons.2 ⟨fun x hx => by rw [← e]; exact h'.1 x hx, h'.2⟩
      · rw [putS_cons_gt c e]
        have sa : ltB s.1 a.1 = true := by
          cases k : ltB s.1 a.1
          · exact absurd (ltB_tot c k) e
          · rfl
        refine List.pairwise_cons.2 ⟨fun x hx => ?_, h⟩
        rcases List.mem_cons.1 hx with w | w
        · subst w; exact sa
        · exact ltB_trans sa (h'.1 x w)
theorem putS_len {A : List Sr} (h : Names A) (s : Sr) : (putS A s).length = if (findS A s.1).isSome then A.length else A.length + 1 := by
  induction A with
  | nil => simp [putS, dropS, findS]
  | cons a A ih =>
    have h' := List.pairwise_cons.1 h
    by_cases c : ltB a.1 s.1 = true
    · rw [putS_cons_lt c, List.length_cons, ih h'.2, List.length_cons]
      have : findS (a :: A) s.1 = findS A s.1 := by simp [findS, ltB_ne c]
      rw [this]
      split <;> rfl
    · have c : ltB a.1 s.1 = false := by simpa using c
      by_cases e : a.1 = s.1
      · rw [putS_cons_eq e]
        have : (findS (a :: A) s.1).isSome = true := by simp [findS, e]
        rw [if_pos this]; rfl
      · rw [putS_cons_gt c e]
        have : (findS (a :: A) s.1).isSome = false := by
          have sa : ltB s.1 a.1 = true := by
            cases k : ltB s.1 a.1
            · exact absurd (ltB_tot c k) e
            · rfl
          rw [Option.isSome_eq_false_iff, Option.isNone_iff_eq_none, findS_none]
          intro x hx z
          rcases List.mem_cons.1 hx with w | w
          · subst w; exact e z
          · have := ltB_trans sa (h'.1 x w)
            rw [z, ltB_irr] at this; cases this
        rw [this, if_neg (by decide)]; rfl
theorem find_putS {A : List Sr} (h : Names A) (s : Sr) (key : ByteArray) : findS (putS A s) key = if key = s.1 then some s else findS A key := by
  by_cases e : key = s.1
  · rw [if_pos e]
    exact (findS_some (h.put s)).2 ⟨(mem_putS h).2 (.inl rfl), e.symm⟩
  · rw [if_neg e]
    cases f : findS A key with
    | none =>
      rw [findS_none] at f ⊢
      intro x hx z
      rcases (mem_putS h).1 hx with q | ⟨q, _⟩
      · subst q; exact e z.symm
      · exact f x q z
    | some t =>
      obtain ⟨t1, t2⟩ := (findS_some h).1 f
      exact (findS_some (h.put s)).2 ⟨(mem_putS h).2 (.inr ⟨t1, fun z => e (t2.symm.trans z)⟩), t2⟩
/-! ### queues over a list of sources -/
/-- A rising list with just one entry for each source. -/
structure QS (f : Sr → Int) (A : List Sr) (r : List En) : Prop where
  mem : ∀ x, x ∈ r ↔ ∃ s ∈ A, x = (s.1, f s)
  len : r.length = A.length
theorem QS.has {f : Sr → Int} {A : List Sr} {r : List En} (h : QS f A r) (hA : Names A) (key : ByteArray) : hasK r key = (findS A key).isSome := by
  cases e : findS A key with
  | none =>
    rw [findS_none] at e
    cases q : hasK r key
    · rfl
    · obtain ⟨x, hx, hk⟩ := hasK_iff.1 q
      obtain ⟨s, hs, rfl⟩ := (h.mem x).1 hx
      exact absurd hk (e s hs)
  | some s =>
    obtain ⟨s1, s2⟩ := (findS_some hA).1 e
    exact hasK_iff.2 ⟨(s.1, f s), (h.mem _).2 ⟨s, s1, rfl⟩, s2⟩
theorem QS.put {f : Sr → Int} {A : List Sr} {r : List En} (h : QS f A r) (hA : Names A) (k : Keys r) (s : Sr) : QS f (putS A s) (setR r s.1 (f s)) := by
  refine ⟨fun x => ?_, ?_⟩
  · rw [mem_setR]
    constructor
    · rintro (q | ⟨q1, q2⟩)
      · exact ⟨s, (mem_putS hA).2 (.inl rfl), q⟩
      · obtain ⟨t, ht, rfl⟩ := (h.mem x).1 q1
        exact ⟨t, (mem_putS hA).2 (.inr ⟨ht, q2⟩), rfl⟩
    · rintro ⟨t, ht, rfl⟩
      rcases (mem_putS hA).1 ht with q | ⟨q1, q2⟩
      · subst q; exact .inl rfl
      · exact .inr ⟨(h.mem _).2 ⟨t, q1, rfl⟩, q2⟩
  · rw [setR_len k, putS_len hA, h.has hA, h.len]
/-- The least. -/
def leastS : List Sr → Option Int
  | [] => none
  | s :: r => some (r.foldl (fun m t => min m t.2.1) s.2.1)
def markS (A : List Sr) (late mark : Int) : Int := match leastS A with | none => mark | some m => max mark (m - late)
theorem foldl_min (r : List Sr) (m : Int) : r.foldl (fun m t => min m t.2.1) m ≤ m ∧ (∀ t ∈ r, r.foldl (fun m t => min m t.2.1) m ≤ t.2.1) ∧ (r.foldl (fun m t => min m t.2.1) m = m ∨ ∃ t ∈ r, r.foldl (fun m t => min m t.2.1) m = t.2.1) := by
  induction r generalizing m with
  | nil => exact ⟨Int.le_refl _, by simp, .inl rfl⟩
  | cons a r ih =>
    obtain ⟨h1, h2, h3⟩ := ih (min m a.2.1)
    simp only [List.foldl_cons]
    refine ⟨by omega, fun t ht => ?_, ?_⟩
    · rcases List.mem_cons.1 ht with q | q
      · subst q; omega
      · exact h2 t q
    · rcases h3 with q | ⟨t, ht, q⟩
      · by_cases c : m ≤ a.2.1
        · left; omega
        · right; exact ⟨a, List.mem_cons_self, by omega⟩
      · right; exact ⟨t, List.mem_cons_of_mem _ ht, q⟩
theorem leastS_spec {A : List Sr} {m : Int} (h : leastS A = some m) : (∀ t ∈ A, m ≤ t.2.1) ∧ ∃ t ∈ A, m = t.2.1 := by
  cases A with
  | nil => cases h
  | cons a r =>
    have h : r.foldl (fun m t => min m t.2.1) a.2.1 = m := by simpa [leastS] using h
    obtain ⟨h1, h2, h3⟩ := foldl_min r a.2.1
    rw [h] at h1 h2 h3
    refine ⟨fun t ht => ?_, ?_⟩
    · rcases List.mem_cons.1 ht with q | q
      · subst q; exact h1
      · exact h2 t q
    · rcases h3 with q | ⟨t, ht, q⟩
      · exact ⟨a, List.mem_cons_self, q⟩
      · exact ⟨t, List.mem_cons_of_mem _ ht, q⟩
/-- The first of the fronts is the least. -/
theorem QS.head {A : List Sr} {r : List En} (h : QS (fun s => s.2.1) A r) (hs : Sorted ltE r) : leastS A = (r.head?).map (·.2) := by
  cases e : leastS A with
  | none =>
    have : A = [] := by cases A with | nil => rfl | cons a r => cases e
    subst this
    have := h.len
    cases r with
    | nil => rfl
    | cons x r => simp at this
  | some m =>
    obtain ⟨h1, t, ht, h2⟩ := leastS_spec e
    cases r with
    | nil => have := (h.mem (t.1, t.2.1)).2 ⟨t, ht, rfl⟩; cases this
    | cons x r =>
      simp only [List.head?_cons, Option.map_some]
      obtain ⟨s, hs', rfl⟩ := (h.mem x).1 List.mem_cons_self
      have := (h.mem (t.1, t.2.1)).2 ⟨t, ht, rfl⟩
      have le := h1 s hs'
      rcases List.mem_cons.1 this with q | q
      · have : t.2.1 = s.2.1 := congrArg Prod.snd q
        simp only
        rw [h2, this]
      · have lt := (ltE_iff _ _).1 ((List.pairwise_cons.1 hs).1 _ q)
        simp only at lt ⊢
        congr 1
        omega
end Go.Proofs.Ytbnlhjooimppeaa
