/- due: what a queue is behind a list of Sets, plainly. -/
import Derived.Test.YtdfmfkibafcbcaaQt
namespace Go.Proofs.Ytdfmfkibafcbcaa
set_option linter.unusedVariables false
set_option linter.unusedSimpArgs false
theorem mem_setR {r : List En} {key : ByteArray} {a : Int} {x : En} : x ∈ setR r key a ↔ x = (key, a) ∨ (x ∈ r ∧ x.1 ≠ key) := by
  unfold setR
  rw [(insE_perm _ _).mem_iff, List.mem_cons]
  unfold delK
  rw [List.mem_filter]
  simp
def stepQ (lim : Nat) (r : List En) (e : En) : List En := if hasK r e.1 = true ∨ r.length < lim then setR r e.1 e.2 else r
def rsQ (lim : Nat) (l : List En) : List En := l.foldl (stepQ lim) []
theorem rsQ_snoc (lim : Nat) (l : List En) (e : En) : rsQ lim (l ++ [e]) = stepQ lim (rsQ lim l) e := by simp [rsQ]
theorem setR_nonempty (r : List En) (key : ByteArray) (a : Int) : 0 < (setR r key a).length := by
  unfold setR
  rw [(insE_perm _ _).length_eq]
  simp
theorem len_pos_has {r : List En} {key : ByteArray} (h : hasK r key = true) : 0 < r.length := by
  obtain ⟨e, he, _⟩ := hasK_iff.1 h
  exact List.length_pos_of_mem he
structure RsI (lim : Nat) (l r : List En) : Prop where
  keys : Keys r
  le : r.length ≤ l.length
  pos : l ≠ [] → 0 < r.length
  last : l.length ≤ lim → ∀ i (h : i < l.length), (∀ k (hk : k < l.length), i < k → l[k].1 ≠ l[i].1) → l[i] ∈ r
theorem RsI.nil (lim : Nat) : RsI lim [] [] := ⟨List.Pairwise.nil, Nat.le_refl _, fun h => absurd rfl h, fun _ i h => absurd h (by simp)⟩
theorem RsI.step {lim : Nat} {l r : List En} (h : RsI lim l r) (hl : 0 < lim) (e : En) : RsI lim (l ++ [e]) (stepQ lim r e) := by
  unfold stepQ
  by_cases c : hasK r e.1 = true ∨ r.length < lim
  · rw [if_pos c]
    have sl := setR_len h.keys e.1 e.2
    have le := h.le
    refine ⟨setR_keys h.keys _ _, by rw [List.length_append, sl]; split <;> simp <;> omega, fun _ => setR_nonempty _ _ _, fun hm i hi hlast => ?_⟩
    rw [List.length_append, List.length_singleton] at hm hi
    by_cases q : i < l.length
    · have hl' := h.last (by omega) i q (fun k hk ik => by
        have := hlast k (by simp; omega) ik
        rw [List.getElem_append_left hk, List.getElem_append_left q] at this
        exact this)
      have ne := hlast l.length (by simp) q
      rw [List.getElem_append_right (Nat.le_refl _), List.getElem_append_left q] at ne
      simp at ne
      rw [List.getElem_append_left q]
      exact mem_setR.2 (.inr ⟨hl', fun z => ne z.symm⟩)
    · obtain rfl : i = l.length := by omega
      rw [List.getElem_append_right (Nat.le_refl _)]
      simp
      exact mem_setR.2 (.inl rfl)
  · rw [if_neg c]
    have le := h.le
    refine ⟨h.keys, by rw [List.length_append]; omega, fun _ => ?_, fun hm i hi hlast => ?_⟩
    · have : ¬ r.length < lim := fun q => c (.inr q)
      omega
    · rw [List.length_append, List.length_singleton] at hm
      have : ¬ r.length < lim := fun q => c (.inr q)
      omega
theorem rsI (lim : Nat) (hl : 0 < lim) (l : List En) : RsI lim l (rsQ lim l) := by
  have : ∀ n, n ≤ l.length → RsI lim (l.take n) (rsQ lim (l.take n)) := by
    intro n
    induction n with
    | zero => intro _; rw [List.take_zero]; exact RsI.nil lim
    | succ n ih =>
      intro hn
      rw [List.take_add_one, List.getElem?_eq_getElem (by omega)]
      simp only [Option.toList_some]
      rw [rsQ_snoc]
      exact (ih (by omega)).step hl _
  have q := this l.length (Nat.le_refl _)
  rwa [List.take_length] at q
theorem tk_dr (r : List En) (now : Int) : tkR r now ++ drR r now = r := List.takeWhile_append_dropWhile
theorem tk_le {r : List En} {now : Int} {x : En} (h : x ∈ tkR r now) : x.2 ≤ now := by
  unfold tkR at h
  induction r with
  | nil => simp at h
  | cons a r ih =>
    by_cases c : a.2 ≤ now
    · rw [List.takeWhile_cons_of_pos (by simpa using c)] at h
      rcases List.mem_cons.1 h with q | q
      · subst q; exact c
      · exact ih q
    · rw [List.takeWhile_cons_of_neg (by simpa using c)] at h
      cases h
theorem dr_gt {r : List En} {now : Int} (hs : Sorted ltE r) {x : En} (h : x ∈ drR r now) : now < x.2 := by
  unfold drR at h
  induction r with
  | nil => simp at h
  | cons a r ih =>
    by_cases c : a.2 ≤ now
    · rw [List.dropWhile_cons_of_pos (by simpa using c)] at h
      exact ih (List.pairwise_cons.1 hs).2 h
    · rw [List.dropWhile_cons_of_neg (by simpa using c)] at h
      rcases List.mem_cons.1 h with q | q
      · subst q; omega
      · have := (ltE_iff _ _).1 ((List.pairwise_cons.1 hs).1 x q)
        rcases this with z | ⟨z, _⟩ <;> omega
theorem mem_dr {r : List En} {now : Int} (hs : Sorted ltE r) {x : En} : x ∈ drR r now ↔ x ∈ r ∧ now < x.2 := by
  constructor
  · intro h
    exact ⟨by rw [← tk_dr r now]; exact List.mem_append_right _ h, dr_gt hs h⟩
  · rintro ⟨h1, h2⟩
    rw [← tk_dr r now] at h1
    rcases List.mem_append.1 h1 with q | q
    · have := tk_le q; omega
    · exact q
theorem tk_not_dr {r : List En} {now : Int} (k : Keys r) {x : En} (h : x ∈ tkR r now) : hasK (drR r now) x.1 = false := by
  cases q : hasK (drR r now) x.1
  · rfl
  · obtain ⟨e, he, hk⟩ := hasK_iff.1 q
    rw [← tk_dr r now] at k
    exact absurd hk.symm ((List.pairwise_append.1 k).2.2 x h e he)
theorem dr_has {r : List En} {now : Int} (hs : Sorted ltE r) (k : Keys r) {x : En} (h : x ∈ r) : hasK (drR r now) x.1 = decide (now < x.2) ∧ (now < x.2 → atK (drR r now) x.1 = some x.2) := by
  have kd : Keys (drR r now) := by rw [← tk_dr r now] at k; exact (List.pairwise_append.1 k).2.1
  by_cases c : now < x.2
  · have m : x ∈ drR r now := (mem_dr hs).2 ⟨h, c⟩
    rw [decide_eq_true c]
    exact ⟨hasK_iff.2 ⟨x, m, rfl⟩, fun _ => (atK_some kd).2 m⟩
  · rw [decide_eq_false c]
    refine ⟨?_, fun q => absurd q c⟩
    have m : x ∈ tkR r now := by
      rw [← tk_dr r now] at h
      rcases List.mem_append.1 h with q | q
      · exact q
      · exact absurd (dr_gt hs q) c
    exact tk_not_dr k m
theorem Sorted.tk {r : List En} (h : Sorted ltE r) (now : Int) : Sorted ltE (tkR r now) := by
  have := h
  rw [← tk_dr r now] at this
  exact (List.pairwise_append.1 this).1
theorem Sorted.dr {r : List En} (h : Sorted ltE r) (now : Int) : Sorted ltE (drR r now) := by
  have := h
  rw [← tk_dr r now] at this
  exact (List.pairwise_append.1 this).2.1
theorem tk_dr_len (r : List En) (now : Int) : (tkR r now).length + (drR r now).length = r.length := by
  have := congrArg List.length (tk_dr r now)
  rwa [List.length_append] at this
end Go.Proofs.Ytdfmfkibafcbcaa
