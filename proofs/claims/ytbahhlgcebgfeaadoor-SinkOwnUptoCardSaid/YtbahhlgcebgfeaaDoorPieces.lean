/- Slices of slices of bytes, slices of bools, as they are read. (gen_lawsk.py) -/
import Derived.Test.YtbahhlgcebgfeaaDoorBytes
import Derived.Deep.Slices
import Derived.ChangeArms
namespace Go.Proofs.YtbahhlgcebgfeaaDoor
set_option linter.unusedVariables false
set_option linter.unusedSimpArgs false
open Go.RowKit W
/-- Pieces of bytes. -/
def IsPieces (w : World) (a : Option Addr) (ls : List (List UInt8)) : Prop := ls = [] ∨ ∃ g o, a = some ⟨g, o, none⟩ ∧ g < w.heap.size ∧ ∀ i (h : i < ls.length), ∃ a c, w.cell? ⟨g, o + i, none⟩ = some (.slice a ls[i].length c) ∧ ls[i].length ≤ c ∧ (a = none → ls[i].length = 0 ∧ c = 0) ∧ IsBytes w a ls[i]
def IsBools (w : World) (a : Option Addr) (bs : List Bool) : Prop := bs = [] ∨ ∃ g o, a = some ⟨g, o, none⟩ ∧ g < w.heap.size ∧ ∀ i (h : i < bs.length), w.cell? ⟨g, o + i, none⟩ = some (.bool bs[i])
theorem spot_lt {w : World} {x : Addr} {v : Value} (g0 : w.cell? (x.add 0) = some v) : ∃ b off, x = ⟨b, off, none⟩ ∧ b < w.heap.size := by
  obtain ⟨b, off, spot⟩ := x
  have hspot : spot = none := by simpa [Addr.add] using World.cell?_spot g0
  subst hspot
  refine ⟨b, off, rfl, ?_⟩
  rw [Go.WideShapes.add_plain] at g0
  rcases Nat.lt_or_ge b w.heap.size with hlt | hge
  · exact hlt
  · unfold World.cell? at g0; simp [Array.getElem?_eq_none hge] at g0
open Go.ChangeShapes Go.WideShapes Go.Deep in
theorem isPieces_of {H : Type} {enc : TypeId × Value → H} {P : Program} {w : World} {base : Nat} {spare : Nat → Bool} {held : Bool} {n : Nat} {t e u : TypeId} {v : Value} {y : DataW H × List MemPlace}
    (ht : P.underlying t = some (.slice e)) (ce : P.cellsOf e = 1) (he : P.underlying e = some (.slice u)) (hu : P.underlying u = some (.int .u8)) (cu : P.cellsOf u = 1) (h : DataW.trod enc P w base spare held n t [v] = some y) :
    ∃ a c ls, v = .slice a (List.length ls) c ∧ IsPieces w a ls ∧ (ls = [] ∨ ∃ el sp, y.1 = .slice el sp ∧ el.length = ls.length ∧ ∀ l ∈ ls, l = [] ∨ ∃ e2 s2, DataW.slice e2 s2 ∈ el ∧ e2.length = l.length) := by
  rcases open_slice1 ht ce h with ⟨hcs, _⟩ | ⟨x, len, cap, m, k, V, D, P2, hcs, _, hl, hm, hmm, hx, hcell⟩
  · simp at hcs
    exact ⟨none, 0, [], hcs, .inl rfl, .inl rfl⟩
  · simp at hcs
    have lm : len ≤ m := by rw [hmm]; split <;> omega
    have each : ∀ i, i < len → ∃ q : Option Addr × Nat × List UInt8, w.cell? (x.add i) = some (.slice q.1 q.2.2.length q.2.1) ∧ q.2.2.length ≤ q.2.1 ∧ (q.1 = none → q.2.2.length = 0 ∧ q.2.1 = 0) ∧ IsBytes w q.1 q.2.2 ∧ (q.2.2 = [] ∨ ∃ el sp, D i = .slice el sp ∧ el.length = q.2.2.length) := by
      intro i hi
      obtain ⟨h1, h2⟩ := hcell i (by omega)
      obtain ⟨a, c, l, e1, e2, e3, e4, e5⟩ := isBytes_of he hu cu h2
      exact ⟨(a, c, l), by rw [h1, e1], e2, e3, e4, e5⟩
    let F : Nat → Option Addr × Nat × List UInt8 := fun i => if hi : i < len then (each i hi).choose else (none, 0, [])
    have hF : ∀ i, i < len → w.cell? (x.add i) = some (.slice (F i).1 (F i).2.2.length (F i).2.1) ∧ (F i).2.2.length ≤ (F i).2.1 ∧ ((F i).1 = none → (F i).2.2.length = 0 ∧ (F i).2.1 = 0) ∧ IsBytes w (F i).1 (F i).2.2 ∧ ((F i).2.2 = [] ∨ ∃ el sp, D i = .slice el sp ∧ el.length = (F i).2.2.length) := by
      intro i hi
      have e : F i = (each i hi).choose := dif_pos hi
      rw [e]
      exact (each i hi).choose_spec
    have lF : ((List.range len).map fun i => (F i).2.2).length = len := by simp
    refine ⟨some x, cap, (List.range len).map fun i => (F i).2.2, by rw [lF]; exact hcs, ?_, .inr ⟨_, _, by rw [hx], by simp, ?_⟩⟩
    · rcases Nat.eq_zero_or_pos len with rfl | hpos
      · exact .inl (by simp)
      · obtain ⟨b, off, rfl, blt⟩ := spot_lt (hF 0 hpos).1
        refine .inr ⟨b, off, rfl, blt, fun i hi => ?_⟩
        rw [lF] at hi
        obtain ⟨g1, g2, g3, g4, _⟩ := hF i hi
        rw [add_plain] at g1
        rw [List.getElem_map, List.getElem_range]
        exact ⟨_, _, g1, g2, g3, g4⟩
    · intro l hl2
      obtain ⟨i, hi, rfl⟩ := List.mem_map.1 hl2
      have hi := List.mem_range.1 hi
      rcases (hF i hi).2.2.2.2 with g | ⟨el, sp, g1, g2⟩
      · exact .inl g
      · exact .inr ⟨el, sp, List.mem_map.2 ⟨i, List.mem_range.2 hi, g1⟩, g2⟩
open Go.ChangeShapes Go.WideShapes Go.Deep in
theorem isBools_of {H : Type} {enc : TypeId × Value → H} {P : Program} {w : World} {base : Nat} {spare : Nat → Bool} {held : Bool} {n : Nat} {t e : TypeId} {v : Value} {y : DataW H × List MemPlace}
    (ht : P.underlying t = some (.slice e)) (ce : P.cellsOf e = 1) (he : P.underlying e = some .bool) (h : DataW.trod enc P w base spare held n t [v] = some y) :
    ∃ a c bs, v = .slice a (List.length bs) c ∧ IsBools w a bs ∧ (bs = [] ∨ ∃ el sp, y.1 = .slice el sp ∧ el.length = bs.length) := by
  rcases open_slice1 ht ce h with ⟨hcs, _⟩ | ⟨x, len, cap, m, k, V, D, P2, hcs, _, hl, hm, hmm, hx, hcell⟩
  · simp at hcs
    exact ⟨none, 0, [], hcs, .inl rfl, .inl rfl⟩
  · simp at hcs
    have lm : len ≤ m := by rw [hmm]; split <;> omega
    have each : ∀ i, i < len → ∃ q : Bool, w.cell? (x.add i) = some (.bool q) := by
      intro i hi
      obtain ⟨h1, h2⟩ := hcell i (by omega)
      obtain ⟨b, e0, g0⟩ := DataW.trod_bool he h2
      simp only [List.cons.injEq, and_true] at e0
      exact ⟨b, by rw [h1, e0]⟩
    let F : Nat → Bool := fun i => if hi : i < len then (each i hi).choose else false
    have hF : ∀ i, i < len → w.cell? (x.add i) = some (.bool (F i)) := by
      intro i hi
      have e : F i = (each i hi).choose := dif_pos hi
      rw [e]
      exact (each i hi).choose_spec
    have lF : ((List.range len).map F).length = len := by simp
    refine ⟨some x, cap, (List.range len).map F, by rw [lF]; exact hcs, ?_, .inr ⟨_, _, by rw [hx], by simp⟩⟩
    rcases Nat.eq_zero_or_pos len with rfl | hpos
    · exact .inl (by simp)
    · obtain ⟨b, off, rfl, blt⟩ := spot_lt (hF 0 hpos)
      refine .inr ⟨b, off, rfl, blt, fun i hi => ?_⟩
      rw [lF] at hi
      have g1 := hF i hi
      rw [add_plain] at g1
      rw [List.getElem_map, List.getElem_range]
      exact g1
end Go.Proofs.YtbahhlgcebgfeaaDoor
