/- due: slices.Clone of the queue's list; a clone sorted. -/
import Derived.Test.YtdfmfkibafcbcaaDsrt
import Derived.Test.YtdfmfkibafcbcaaQp
namespace Go.Proofs.Ytdfmfkibafcbcaa
set_option linter.unusedVariables false
set_option linter.unusedSimpArgs false
open Go.RowKit Go.Shelf Go.Lib Go.Sort
theorem cloneD_spec {w : World} {B : Nat} {v : Value} {l : List En} (o : w.ownsRow B 43 2 v l.length (dues l)) (hl : l.length ≤ 65536) :
    Calls Try.prog 32 #[v] w fun e w' => ∃ v', e = .returned v' ∧ w'.ownsRow w.heap.size 43 2 v' l.length (dues l) ∧ Below w.heap.size w w' := by
  obtain ⟨i0, h1, h2, h3, h4⟩ := info_parts info_due
  have o2 := o
  rcases o.2 with ⟨rfl, e⟩ | ⟨g, cap, cur, rfl, hb, hh, hc, hm, hs, ht⟩
  · have e0 := List.eq_nil_of_length_eq_zero e
    subst e0
    refine (AnyE.slices_Clone_nil Try.cloneD 0 0 w).mono ?_
    rintro e' w' ⟨rfl, rfl⟩
    exact ⟨_, rfl, World.ownsRow_nil _ _ _ _, Below.refl _ _⟩
  · refine (AnyE.slices_Clone Try.cloneD i0 _ 2 24 h1 h2 h3 h4 rfl (by decide) Try.sizeOf43 g 0 l.length cap (dues l) w (dues_len l) (by unfold maxLen; omega) (by omega) (fun j u hj => by rw [Nat.zero_add]; exact (row_look o2).1 j u hj) (dues_one l)).mono ?_
    rintro e' w' ⟨v', rfl, q, _, bl⟩
    exact ⟨v', rfl, q, bl⟩
end Go.Proofs.Ytdfmfkibafcbcaa
