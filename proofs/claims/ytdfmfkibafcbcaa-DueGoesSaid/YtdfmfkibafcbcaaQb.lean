/- due: how a list of entries reads; the reference's Before. -/
import Derived.Test.YtdfmfkibafcbcaaQa
import Derived.Deep.Slices
namespace Go.Proofs.Ytdfmfkibafcbcaa
set_option linter.unusedVariables false
set_option linter.unusedSimpArgs false
open Go.RowKit W Go.Maps
/-- Entries in a block. -/
structure LieE (w : World) (g o : Nat) (l : List En) : Prop where
  lt : g < w.heap.size
  at_ : ∀ i (h : i < l.length), w.cell? ⟨g, o + i * 2, none⟩ = some (.string l[i].1) ∧ w.cell? ⟨g, o + i * 2 + 1, none⟩ = some (.int .i64 l[i].2)
/-- A list of entries, as it reads. -/
def IsE (w : World) (a : Option Addr) (l : List En) : Prop := l = [] ∨ ∃ g o, a = some ⟨g, o, none⟩ ∧ LieE w g o l
theorem LieE.chg {S : Nat → Prop} {w w' : World} {g o : Nat} {l : List En} (h : LieE w g o l) (c : Chg S w w') (n : ¬ S g) : LieE w' g o l :=
  ⟨Nat.lt_of_lt_of_le h.lt c.size, fun i hi => ⟨(c.cell h.lt n).trans (h.at_ i hi).1, (c.cell h.lt n).trans (h.at_ i hi).2⟩⟩
theorem LieE.later {w w' : World} {g o : Nat} {l : List En} (h : LieE w g o l) (b : Below w.heap.size w w') : LieE w' g o l := h.chg (S := fun _ => False) (Chg.of_below b) (fun q => q)
theorem IsE.later {w w' : World} {a : Option Addr} {l : List En} (h : IsE w a l) (b : Below w.heap.size w w') : IsE w' a l := h.imp id (fun ⟨g, o, e, k⟩ => ⟨g, o, e, k.later b⟩)
theorem IsE.at_ {w : World} {a : Option Addr} {l : List En} (h : IsE w a l) {i : Nat} (hi : i < l.length) : ∃ g o, a = some ⟨g, o, none⟩ ∧ g < w.heap.size ∧ w.cell? ⟨g, o + i * 2, none⟩ = some (.string l[i].1) ∧ w.cell? ⟨g, o + i * 2 + 1, none⟩ = some (.int .i64 l[i].2) := by
  rcases h with h | ⟨g, o, e, k⟩
  · subst h; simp at hi
  · exact ⟨g, o, e, k.lt, k.at_ i hi⟩
/-- An own row of entries, as it reads. -/
theorem isE_own {w : World} {B n : Nat} {s : Value} {l : List En} (h : w.ownsRow B 43 2 s n (dues l)) (hn : n = l.length) : ∃ a c, s = .slice a n c ∧ IsE w a l := by
  subst hn
  obtain ⟨A, c, rfl, hc, hA⟩ := own_form h
  refine ⟨A, c, rfl, ?_⟩
  cases A with
  | none => exact .inl (List.eq_nil_of_length_eq_zero (hA rfl).1)
  | some ad =>
    rcases h.2 with ⟨e, _⟩ | ⟨g, cap, cur, e, hb, hh, _⟩
    · cases e
    · injection e with e1 _ _
      injection e1 with e1
      subst e1
      exact .inr ⟨g, 0, rfl, blk_lt hh, fun i hi => by
        rw [Nat.zero_add]
        exact ⟨(row_look h).1 _ _ (dues_key hi), (row_look h).1 _ _ (dues_at hi)⟩⟩
set_option maxRecDepth 100000 in
theorem before_spec (a b : En) (w : World) : Calls Try.prog 30 #[enV a, enV b] w fun e w' => e = .returned (.bool (ltE a b)) ∧ Below w.heap.size w w' := by
  unfold ltE ltB
  by_cases h : a.2 < b.2
  · have d := decide_eq_true h
    rw [d, Bool.true_or]
    go_enter Try.func30, Try.ntmps30
    go_wp2_with fail
    go_returns
    exact ⟨rfl, by go_grown⟩
  · have d := decide_eq_false h
    rw [d, Bool.false_or]
    by_cases k : a.2 = b.2
    · have e : (a.2 == b.2) = true := by simpa using k
      rw [decide_eq_true k, Bool.true_and]
      clear k
      go_enter Try.func30, Try.ntmps30
      go_wp2_with fail
      go_returns
      exact ⟨rfl, by go_grown⟩
    · have e : (a.2 == b.2) = false := by simpa using k
      rw [decide_eq_false k, Bool.false_and]
      clear k
      go_enter Try.func30, Try.ntmps30
      go_wp2_with fail
      go_returns
      exact ⟨rfl, by go_grown⟩
end Go.Proofs.Ytdfmfkibafcbcaa
