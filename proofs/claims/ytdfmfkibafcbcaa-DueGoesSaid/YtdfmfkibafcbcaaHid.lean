/- Small words for all walks: a fact behind a name; boxes of two and three cells. -/
import Derived.Test.YtdfmfkibafcbcaaWbase
namespace Go.Proofs.Ytdfmfkibafcbcaa
set_option linter.unusedVariables false
open Go.RowKit W
/-- A contract of a function that only computes. -/
abbrev CalcN (f : Nat) (args : Array Value) (w : World) (r : Value) : Prop := Calls Try.prog f args w fun e w' => e = .returned r ∧ w = w'
theorem hide {p : Prop} (h : p) : Hid p := h
/-- A box of two cells that may be written. -/
structure Box2 (w : World) (b : Nat) (x y : Value) : Prop where
  x : w.cell? ⟨b, 0, none⟩ = some x
  y : w.cell? ⟨b, 1, none⟩ = some y
  fx : w.frozen? ⟨b, 0, none⟩ = false
  fy : w.frozen? ⟨b, 1, none⟩ = false
  lt : b < w.heap.size
theorem Box2.later {w w' : World} {b : Nat} {x y : Value} (h : Box2 w b x y) (k : Below w.heap.size w w') : Box2 w' b x y :=
  ⟨(k.cell (p := ⟨b, 0, none⟩) h.lt).trans h.x, (k.cell (p := ⟨b, 1, none⟩) h.lt).trans h.y,
   (k.frozen (p := ⟨b, 0, none⟩) h.lt).trans h.fx, (k.frozen (p := ⟨b, 1, none⟩) h.lt).trans h.fy, Nat.lt_of_lt_of_le h.lt k.size⟩
/-- A box of three cells that may be written. -/
structure Box3 (w : World) (b : Nat) (x y z : Value) : Prop where
  x : w.cell? ⟨b, 0, none⟩ = some x
  y : w.cell? ⟨b, 1, none⟩ = some y
  z : w.cell? ⟨b, 2, none⟩ = some z
  fx : w.frozen? ⟨b, 0, none⟩ = false
  fy : w.frozen? ⟨b, 1, none⟩ = false
  fz : w.frozen? ⟨b, 2, none⟩ = false
  lt : b < w.heap.size
theorem Box3.later {w w' : World} {b : Nat} {x y z : Value} (h : Box3 w b x y z) (k : Below w.heap.size w w') : Box3 w' b x y z :=
  ⟨(k.cell (p := ⟨b, 0, none⟩) h.lt).trans h.x, (k.cell (p := ⟨b, 1, none⟩) h.lt).trans h.y, (k.cell (p := ⟨b, 2, none⟩) h.lt).trans h.z,
   (k.frozen (p := ⟨b, 0, none⟩) h.lt).trans h.fx, (k.frozen (p := ⟨b, 1, none⟩) h.lt).trans h.fy, (k.frozen (p := ⟨b, 2, none⟩) h.lt).trans h.fz, Nat.lt_of_lt_of_le h.lt k.size⟩
/-- A box of one cell that may be written. -/
structure Box1 (w : World) (b : Nat) (x : Value) : Prop where
  x : w.cell? ⟨b, 0, none⟩ = some x
  fx : w.frozen? ⟨b, 0, none⟩ = false
  lt : b < w.heap.size
theorem Box1.later {w w' : World} {b : Nat} {x : Value} (h : Box1 w b x) (k : Below w.heap.size w w') : Box1 w' b x :=
  ⟨(k.cell (p := ⟨b, 0, none⟩) h.lt).trans h.x, (k.frozen (p := ⟨b, 0, none⟩) h.lt).trans h.fx, Nat.lt_of_lt_of_le h.lt k.size⟩
theorem box1 {w w' : World} (k : Below w.heap.size w w') (b : Nat) (x : Value) (hx : w.cell? ⟨b, 0, none⟩ = some x) (fx : w.frozen? ⟨b, 0, none⟩ = false) (lt : b < w.heap.size) : Box1 w' b x :=
  Box1.later ⟨hx, fx, lt⟩ k
theorem box2 {w w' : World} (k : Below w.heap.size w w') (b : Nat) (x y : Value) (hx : w.cell? ⟨b, 0, none⟩ = some x) (hy : w.cell? ⟨b, 1, none⟩ = some y) (fx : w.frozen? ⟨b, 0, none⟩ = false) (fy : w.frozen? ⟨b, 1, none⟩ = false) (lt : b < w.heap.size) : Box2 w' b x y :=
  Box2.later ⟨hx, hy, fx, fy, lt⟩ k
theorem box3 {w w' : World} (k : Below w.heap.size w w') (b : Nat) (x y z : Value) (hx : w.cell? ⟨b, 0, none⟩ = some x) (hy : w.cell? ⟨b, 1, none⟩ = some y) (hz : w.cell? ⟨b, 2, none⟩ = some z) (fx : w.frozen? ⟨b, 0, none⟩ = false) (fy : w.frozen? ⟨b, 1, none⟩ = false) (fz : w.frozen? ⟨b, 2, none⟩ = false) (lt : b < w.heap.size) : Box3 w' b x y z :=
  Box3.later ⟨hx, hy, hz, fx, fy, fz, lt⟩ k
end Go.Proofs.Ytdfmfkibafcbcaa
