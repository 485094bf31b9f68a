/- sink: a plan as it is read. -/
import Derived.Test.YtbahhlgcebgfeaaDoorSkm
import Derived.Deep.SlicePairs
import Derived.ChangeSlices
namespace Go.Proofs.YtbahhlgcebgfeaaDoor
set_option linter.unusedVariables false
set_option linter.unusedSimpArgs false
open Go.RowKit W Go.ChangeShapes Go.WideShapes Go.Deep
def boolOf : Value → Bool
  | .bool b => b
  | _ => false
/-- A slice of choices as it is read. -/
theorem isCh_of {H : Type} {enc : TypeId × Value → H} {w : World} {base : Nat} {spare : Nat → Bool} {held : Bool} {n : Nat} {s : Option Addr} {l c : Nat} {y : DataW H × List MemPlace}
    (h : DataW.trod enc Tryd.prog w base spare held n 22 [.slice s l c] = some y) :
    ∃ P, l = P.length ∧ P.length ≤ c ∧ (s = none → P.length = 0 ∧ c = 0) ∧ IsCh w s P ∧ (P = [] ∨ ∃ el sp, y.1 = .slice el sp ∧ el.length = P.length) := by
  rcases open_slice_pairs Tryd.underlying22 Tryd.underlying59 (by kernel_rfl) rfl rfl (by kernel_rfl) (by kernel_rfl) h with ⟨hcs, _⟩ | ⟨x, l', c', m, n', V0, V1, D0, D1, P0, P1, hcs, _, hl, hm, hmm, hx, hcell⟩
  · simp at hcs
    obtain ⟨rfl, rfl, rfl⟩ := hcs
    exact ⟨[], rfl, by simp, by simp, .inl rfl, .inl rfl⟩
  · simp at hcs
    obtain ⟨rfl, rfl, rfl⟩ := hcs
    rcases Nat.eq_zero_or_pos l with rfl | hpos
    · exact ⟨[], rfl, Nat.zero_le _, (fun e => by cases e), .inl rfl, .inl rfl⟩
    have lm : l ≤ m := by rw [hmm]; split <;> omega
    have g0 := (hcell 0 (by omega)).1
    obtain ⟨b, off, spot⟩ := x
    have hspot : spot = none := by simpa [Addr.add] using World.cell?_spot g0
    subst hspot
    have each : ∀ i, i < l → w.cell? ⟨b, off + i * 2, none⟩ = some (.int .i64 (intOf (V0 i))) ∧ w.cell? ⟨b, off + i * 2 + 1, none⟩ = some (.bool (boolOf (V1 i))) := by
      intro i hi
      obtain ⟨c0, c1, t0, t1⟩ := hcell i (by omega)
      obtain ⟨z0, e0, _, w0⟩ := DataW.trod_int Tryd.underlying3 t0
      obtain ⟨z1, e1, _⟩ := DataW.trod_bool Tryd.underlying4 t1
      simp at e0 e1
      rw [e0] at c0
      rw [e1] at c1
      rw [e0, e1]
      rw [add_plain] at c0 c1
      exact ⟨c0, c1⟩
    have hb : b < w.heap.size := by
      have q := (each 0 hpos).1
      rcases Nat.lt_or_ge b w.heap.size with hlt | hge
      · exact hlt
      · unfold World.cell? at q; simp [Array.getElem?_eq_none hge] at q
    refine ⟨(List.range l).map fun i => (intOf (V0 i), boolOf (V1 i)), by simp, by simpa using hl, (fun e => by cases e), .inr ⟨b, off, rfl, hb, fun j hj => ?_⟩, .inr ⟨_, _, by rw [hx], by simp⟩⟩
    have hj2 : j < l := by simpa using hj
    simpa using each j hj2
end Go.Proofs.YtbahhlgcebgfeaaDoor
