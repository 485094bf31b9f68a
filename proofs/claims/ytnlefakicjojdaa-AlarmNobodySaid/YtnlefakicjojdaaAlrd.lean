/- alarm: how rules, calls and lists of them read. -/
import Derived.Test.YtnlefakicjojdaaAln
import Derived.Test.YtnlefakicjojdaaLawan
import Derived.ChangeArms
import Derived.ChangeAlike
namespace Go.Proofs.Ytnlefakicjojdaa
set_option linter.unusedVariables false
set_option linter.unusedSimpArgs false
open Go.RowKit W Go.Maps Go.ChangeShapes Go.WideShapes
section
variable {H : Type} {enc : TypeId × Value → H} {w : World} {base : Nat} {sp : Nat → Bool} {held : Bool} {fuel : Nat} {cs : List Value} {x : DataW H × List MemPlace}
theorem cells36 : Try.prog.cellsOf 36 = 2 := by kernel_rfl
theorem cells38 : Try.prog.cellsOf 38 = 3 := by kernel_rfl
theorem cells53 : Try.prog.cellsOf 53 = 11 := by kernel_rfl
theorem cells40 : Try.prog.cellsOf 40 = 6 := by kernel_rfl
theorem c1i : Try.prog.cellsOf 2 = 1 := by kernel_rfl
theorem c1n : Try.prog.cellsOf 3 = 1 := by kernel_rfl
theorem c1u : Try.prog.cellsOf 34 = 1 := by kernel_rfl
theorem c1b : Try.prog.cellsOf 4 = 1 := by kernel_rfl
theorem c1s : Try.prog.cellsOf 9 = 1 := by kernel_rfl
theorem len2 {α : Type} {l : List α} (h : l.length = 2) : ∃ a b, l = [a, b] := by
  rcases l with _ | ⟨a, _ | ⟨b, _ | ⟨c, l⟩⟩⟩ <;> simp at h
  exact ⟨a, b, rfl⟩
theorem len3 {α : Type} {l : List α} (h : l.length = 3) : ∃ a b c, l = [a, b, c] := by
  rcases l with _ | ⟨a, l⟩
  · simp at h
  · obtain ⟨b, c, rfl⟩ := len2 (by simpa using h)
    exact ⟨a, b, c, rfl⟩
theorem len4 {α : Type} {l : List α} (h : l.length = 4) : ∃ a b c d, l = [a, b, c, d] := by
  rcases l with _ | ⟨a, l⟩
  · simp at h
  · obtain ⟨b, c, d, rfl⟩ := len3 (by simpa using h)
    exact ⟨a, b, c, d, rfl⟩
theorem len6 {α : Type} {l : List α} (h : l.length = 6) : ∃ a b c d e f, l = [a, b, c, d, e, f] := by
  rcases l with _ | ⟨a, _ | ⟨b, l⟩⟩
  · simp at h
  · simp at h
  · obtain ⟨c, d, e, f, rfl⟩ := len4 (by simpa using h)
    exact ⟨a, b, c, d, e, f, rfl⟩
theorem len8 {α : Type} {l : List α} (h : l.length = 8) : ∃ a b c d e f g i, l = [a, b, c, d, e, f, g, i] := by
  rcases l with _ | ⟨a, _ | ⟨b, l⟩⟩
  · simp at h
  · simp at h
  · obtain ⟨c, d, e, f, g, i, rfl⟩ := len6 (by simpa using h)
    exact ⟨a, b, c, d, e, f, g, i, rfl⟩
theorem len11 {α : Type} {l : List α} (h : l.length = 11) : ∃ a b c d e f g i j k m, l = [a, b, c, d, e, f, g, i, j, k, m] := by
  rcases l with _ | ⟨a, _ | ⟨b, _ | ⟨c, l⟩⟩⟩
  · simp at h
  · simp at h
  · simp at h
  · obtain ⟨d, e, f, g, i, j, k, m, rfl⟩ := len8 (by simpa using h)
    exact ⟨a, b, c, d, e, f, g, i, j, k, m, rfl⟩
theorem rd_wide (h : DataW.trod enc Try.prog w base sp held fuel 36 cs = some x) : ∃ a b, cs = [.int .i64 a, .int .u64 b] ∧ IsW (a, b) := by
  obtain ⟨xs, n, _, _, hl, hxl, hf⟩ := DataW.trod_struct Try.underlying36 h
  rw [cells36] at hl
  have hxl : xs.length = 2 := by simpa using hxl
  obtain ⟨v0, v1, rfl⟩ := len2 hl
  obtain ⟨y0, y1, rfl⟩ := len2 hxl
  have g0 := hf 0 _ rfl
  have g1 := hf 1 _ rfl
  simp [c1i, c1u] at g0 g1
  obtain ⟨a, e0, _, w0⟩ := DataW.trod_int Try.underlying2 g0
  obtain ⟨b, e1, _, w1⟩ := DataW.trod_int Try.underlying34 g1
  simp at e0 e1
  subst e0 e1
  exact ⟨a, b, rfl, ⟨hi_of_wf w0, lo_of_wf w1⟩⟩
theorem rd_cell (h : DataW.trod enc Try.prog w base sp held fuel 38 cs = some x) : ∃ is a b, cs = [.bool is, .int .i64 a, .int .u64 b] ∧ IsW (a, b) := by
  obtain ⟨xs, n, _, _, hl, hxl, hf⟩ := DataW.trod_struct Try.underlying38 h
  rw [cells38] at hl
  have hxl : xs.length = 2 := by simpa using hxl
  obtain ⟨v0, v1, v2, rfl⟩ := len3 hl
  obtain ⟨y0, y1, rfl⟩ := len2 hxl
  have g0 := hf 0 _ rfl
  have g1 := hf 1 _ rfl
  simp [c1b, cells36] at g0 g1
  obtain ⟨is, e0, _⟩ := DataW.trod_bool Try.underlying4 g0
  obtain ⟨a, b, e1, iw⟩ := rd_wide g1
  simp at e0 e1
  obtain ⟨e1, e2⟩ := e1
  subst e0 e1 e2
  exact ⟨is, a, b, rfl, iw⟩
theorem rd_op (h : DataW.trod enc Try.prog w base sp held fuel 40 cs = some x) : ∃ kd nm t is a b, cs = [.int .i64 kd, .string nm, .int .i64 t, .bool is, .int .i64 a, .int .u64 b] ∧ IsW (a, b) ∧ nm.size ≤ maxLen := by
  obtain ⟨xs, n, _, _, hl, hxl, hf⟩ := DataW.trod_struct Try.underlying40 h
  rw [cells40] at hl
  have hxl : xs.length = 4 := by simpa using hxl
  obtain ⟨v0, v1, v2, v3, v4, v5, rfl⟩ := len6 hl
  obtain ⟨y0, y1, y2, y3, rfl⟩ := len4 hxl
  have g0 := hf 0 _ rfl
  have g1 := hf 1 _ rfl
  have g2 := hf 2 _ rfl
  have g3 := hf 3 _ rfl
  simp [c1n, c1s, c1i, cells38] at g0 g1 g2 g3
  obtain ⟨kd, e0, _, _⟩ := DataW.trod_int Try.underlying3 g0
  obtain ⟨nm, e1, _, ws⟩ := DataW.trod_string Try.underlying9 g1
  obtain ⟨t, e2, _, _⟩ := DataW.trod_int Try.underlying2 g2
  obtain ⟨is, a, b, e3, iw⟩ := rd_cell g3
  simp at e0 e1 e2 e3
  obtain ⟨e3, e4, e5⟩ := e3
  subst e0 e1 e2 e3 e4 e5
  exact ⟨kd, nm, t, is, a, b, rfl, iw, ws⟩
theorem rd_rule (h : DataW.trod enc Try.prog w base sp held fuel 53 cs = some x) : ∃ R : Ru, cs = ruL R ∧ RuW R ∧ R.nm.size ≤ maxLen := by
  obtain ⟨xs, n, _, _, hl, hxl, hf⟩ := DataW.trod_struct Try.underlying53 h
  rw [cells53] at hl
  have hxl : xs.length = 8 := by simpa using hxl
  obtain ⟨v0, v1, v2, v3, v4, v5, v6, v7, v8, v9, v10, rfl⟩ := len11 hl
  obtain ⟨y0, y1, y2, y3, y4, y5, y6, y7, rfl⟩ := len8 hxl
  have g0 := hf 0 _ rfl
  have g1 := hf 1 _ rfl
  have g2 := hf 2 _ rfl
  have g3 := hf 3 _ rfl
  have g4 := hf 4 _ rfl
  have g5 := hf 5 _ rfl
  have g6 := hf 6 _ rfl
  have g7 := hf 7 _ rfl
  simp [c1n, c1s, c1i, c1b, cells36] at g0 g1 g2 g3 g4 g5 g6 g7
  obtain ⟨nm, e0, _, ws⟩ := DataW.trod_string Try.underlying9 g0
  obtain ⟨ab, e1, _⟩ := DataW.trod_bool Try.underlying4 g1
  obtain ⟨w1, w0, e2, iw⟩ := rd_wide g2
  obtain ⟨c1, c0, e3, ic⟩ := rd_wide g3
  obtain ⟨s1, s0, e4, is⟩ := rd_wide g4
  obtain ⟨fr, e5, _, _⟩ := DataW.trod_int Try.underlying3 g5
  obtain ⟨an, e6, _, _⟩ := DataW.trod_int Try.underlying3 g6
  obtain ⟨ag, e7, _, _⟩ := DataW.trod_int Try.underlying2 g7
  simp at e0 e1 e2 e3 e4 e5 e6 e7
  obtain ⟨e2, f2⟩ := e2
  obtain ⟨e3, f3⟩ := e3
  obtain ⟨e4, f4⟩ := e4
  subst e0 e1 e2 e3 e4 e5 e6 e7 f2 f3 f4
  exact ⟨⟨nm, ab, w1, w0, c1, c0, s1, s0, fr, an, ag⟩, rfl, ⟨iw, ic, is⟩, ws⟩
end
/-- A call of a script. -/
structure Op6 where
  kd : Int
  nm : ByteArray
  t : Int
  is : Bool
  v1 : Int
  v0 : Int
def opL (o : Op6) : List Value := [.int .i64 o.kd, .string o.nm, .int .i64 o.t, .bool o.is, .int .i64 o.v1, .int .u64 o.v0]
/-- A script as its cells hold it. -/
structure ScAt (w : World) (g o : Nat) (L : List Op6) : Prop where
  lt : g < w.heap.size
  cell : ∀ j (hj : j < L.length) k v, (opL L[j])[k]? = some v → w.cell? ⟨g, o + j * 6 + k, none⟩ = some v
theorem ScAt.later {w w' : World} {g o : Nat} {L : List Op6} (h : ScAt w g o L) (k : Below w.heap.size w w') : ScAt w' g o L :=
  ⟨Nat.lt_of_lt_of_le h.lt k.size, fun j hj i v e => (k.cell (p := ⟨g, o + j * 6 + i, none⟩) h.lt).trans (h.cell j hj i v e)⟩
def IsSc (w : World) (a : Option Addr) (L : List Op6) : Prop := (∀ q ∈ L, IsW (q.v1, q.v0) ∧ q.nm.size ≤ maxLen) ∧ (L = [] ∨ ∃ g o, a = some ⟨g, o, none⟩ ∧ ScAt w g o L)
end Go.Proofs.Ytnlefakicjojdaa
