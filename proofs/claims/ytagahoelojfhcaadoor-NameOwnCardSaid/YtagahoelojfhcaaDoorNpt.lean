/- name: patterns as they are read. -/
import Derived.Test.YtagahoelojfhcaaDoorNm
namespace Go.Proofs.YtagahoelojfhcaaDoor
set_option linter.unusedVariables false
set_option linter.unusedSimpArgs false
open Go.RowKit W
/-- Pieces in a block. -/
structure LieG (w : World) (g o : Nat) (gs : List Gl) : Prop where
  cell : ∀ j (h : j < gs.length), w.cell? ⟨g, o + j * 3, none⟩ = some (.int .i64 gs[j].k) ∧ w.cell? ⟨g, o + j * 3 + 1, none⟩ = some (.string gs[j].t) ∧ ∃ b c, w.cell? ⟨g, o + j * 3 + 2, none⟩ = some (.slice b gs[j].al.length c) ∧ IsTxts w b gs[j].al ∧ gs[j].al.length ≤ c
  lt : g < w.heap.size
theorem LieG.later {w w' : World} {g o : Nat} {gs : List Gl} (h : LieG w g o gs) (u : Below w.heap.size w w') : LieG w' g o gs :=
  ⟨fun j hj => by
    obtain ⟨h1, h2, b, c, h3, h4, h5⟩ := h.cell j hj
    exact ⟨(u.cell (p := ⟨g, o + j * 3, none⟩) h.lt).trans h1, (u.cell (p := ⟨g, o + j * 3 + 1, none⟩) h.lt).trans h2, b, c, (u.cell (p := ⟨g, o + j * 3 + 2, none⟩) h.lt).trans h3, h4.later u, h5⟩, Nat.lt_of_lt_of_le h.lt u.size⟩
def IsGs (w : World) (a : Option Addr) (gs : List Gl) : Prop := gs = [] ∨ ∃ g o, a = some ⟨g, o, none⟩ ∧ LieG w g o gs
theorem IsGs.later {w w' : World} {a : Option Addr} {gs : List Gl} (h : IsGs w a gs) (u : Below w.heap.size w w') : IsGs w' a gs := by
  rcases h with h | ⟨g, o, rfl, h⟩
  · exact .inl h
  · exact .inr ⟨g, o, rfl, h.later u⟩
/-- Nodes in a block. -/
structure LieN (w : World) (g o : Nat) (p : List (List Gl)) : Prop where
  cell : ∀ j (h : j < p.length), ∃ b c, w.cell? ⟨g, o + j, none⟩ = some (.slice b p[j].length c) ∧ IsGs w b p[j] ∧ p[j].length ≤ c
  lt : g < w.heap.size
theorem LieN.later {w w' : World} {g o : Nat} {p : List (List Gl)} (h : LieN w g o p) (u : Below w.heap.size w w') : LieN w' g o p :=
  ⟨fun j hj => by
    obtain ⟨b, c, h3, h4, h5⟩ := h.cell j hj
    exact ⟨b, c, (u.cell (p := ⟨g, o + j, none⟩) h.lt).trans h3, h4.later u, h5⟩, Nat.lt_of_lt_of_le h.lt u.size⟩
def IsPt (w : World) (a : Option Addr) (p : List (List Gl)) : Prop := p = [] ∨ ∃ g o, a = some ⟨g, o, none⟩ ∧ LieN w g o p
theorem IsPt.later {w w' : World} {a : Option Addr} {p : List (List Gl)} (h : IsPt w a p) (u : Below w.heap.size w w') : IsPt w' a p := by
  rcases h with h | ⟨g, o, rfl, h⟩
  · exact .inl h
  · exact .inr ⟨g, o, rfl, h.later u⟩
theorem TyG.is {B : Nat} {w : World} {a : Option Addr} {gs : List Gl} (h : TyG B w a gs) : IsGs w a gs := by
  rcases h with h | ⟨g, o, cs, fr, rfl, hb, hh, hc⟩
  · exact .inl h
  · refine .inr ⟨g, o, rfl, fun j hj => ?_, blk_lt hh⟩
    obtain ⟨h1, h2, b, c, h3, h4, h5⟩ := hc j hj
    exact ⟨(cell_of_row w g (o + j * 3) cs _ fr hh).trans h1, (cell_of_row w g (o + j * 3 + 1) cs _ fr hh).trans h2, b, c, (cell_of_row w g (o + j * 3 + 2) cs _ fr hh).trans h3, h4.is, h5⟩
theorem TyN.is {B : Nat} {w : World} {a : Option Addr} {p : List (List Gl)} (h : TyN B w a p) : IsPt w a p := by
  rcases h with h | ⟨g, o, cs, fr, rfl, hb, hh, hc⟩
  · exact .inl h
  · refine .inr ⟨g, o, rfl, fun j hj => ?_, blk_lt hh⟩
    obtain ⟨b, c, h3, h4, h5⟩ := hc j hj
    exact ⟨b, c, (cell_of_row w g (o + j) cs _ fr hh).trans h3, h4.is, h5⟩
end Go.Proofs.YtagahoelojfhcaaDoor
