/- slices.Sort of a list of one's own. -/
import Derived.Test.YtpkkcdbmhgmncaaOwni
import Derived.Test.YtpkkcdbmhgmncaaShelg
import Derived.Sort.OwnSortedInts
namespace Go.Proofs.Ytpkkcdbmhgmncaa
set_option linter.unusedVariables false
set_option linter.unusedSimpArgs false
open Go.RowKit W T9
theorem sortI_some {w wr : World} {g cap : Nat} {xs : List Int} (h : OwnI w wr (.slice (some ⟨g, 0, none⟩) xs.length cap) xs) (h0 : 0 < xs.length) (hl : xs.length ≤ 17592186044416) :
    Calls Try.prog 41 #[.slice (some ⟨g, 0, none⟩) xs.length cap] wr fun e w' => e = .returned (.tuple #[]) ∧ OwnI w w' (.slice (some ⟨g, 0, none⟩) xs.length cap) (srt xs) ∧ wr.grownBy w' (some g) := by
  rcases h.own.2 with ⟨_, hz⟩ | ⟨g', cap', cur, e, hg, hh, hnc, hcm, hs, ht⟩
  · omega
  have e1 : g = g' := by injection e with e; injection e with e; injection e
  have e2 : cap = cap' := by injection e
  subst e1 e2
  have glt := (h.own.lt g rfl).2
  have hH := holds_of_blockI hh (by simpa using ht)
  refine (AnyM.slices_Sort_int Try.sortL g 0 cap xs wr hH glt (by omega)).mono ?_
  rintro e' w' ⟨rfl, n, os, rfl⟩
  have o2 := ownsRow_sortedI (base := w.heap.size) (n := n) (os := os) (ss := xs) (ts := srt xs) (srt_len xs) hg hh hnc hcm hs
  have gr := grownBy_sortedI (w := wr) (g := g) (n := n) (os := os) (srt xs).toArray
  refine ⟨rfl, ⟨?_, h.below.grown gr h.below.size (by intro k hk; simp at hk; omega)⟩, gr⟩
  rw [srt_len]; exact o2
end Go.Proofs.Ytpkkcdbmhgmncaa
