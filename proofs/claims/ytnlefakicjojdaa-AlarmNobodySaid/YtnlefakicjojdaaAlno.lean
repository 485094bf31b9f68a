/- alarm: books that nobody made. -/
import Derived.Test.YtnlefakicjojdaaAln
namespace Go.Proofs.Ytnlefakicjojdaa
set_option linter.unusedVariables false
set_option linter.unusedSimpArgs false
open Go.RowKit W Go.Maps
/-- No book, or one that New did not make. -/
def Unm (w : World) (v : Value) : Prop := v = .pointer none ∨ ∃ b, v = .pointer (some ⟨b, 0, none⟩) ∧ w.cell? ⟨b, 0, none⟩ = some (.pointer none) ∧ b < w.heap.size
theorem Unm.later {w w' : World} {v : Value} (h : Unm w v) (k : Below w.heap.size w w') : Unm w' v := by
  rcases h with h | ⟨b, h, c, l⟩
  · exact .inl h
  · exact .inr ⟨b, h, (k.cell (p := ⟨b, 0, none⟩) l).trans c, Nat.lt_of_lt_of_le l k.size⟩
set_option maxRecDepth 100000 in
theorem made_not {w : World} {v : Value} (h : Unm w v) : CalcN 47 #[v] w (.bool false) := by
  rcases h with rfl | ⟨b, rfl, c0, lt⟩
  · go_enter Try.func47, Try.ntmps47
    go_wp2
    go_returns
    exact ⟨rfl, rfl⟩
  · have q : ∀ w, (binOp .eql 24 (.pointer none) (.pointer (some ⟨b, 0, none⟩))).run Try.prog w = .ok (.bool false) w := fun _ => by kernel_rfl
    go_enter Try.func47, Try.ntmps47
    go_wp2
    go_returns
    exact ⟨rfl, rfl⟩
set_option maxRecDepth 100000 in
theorem find_not {w : World} {v : Value} (h : Unm w v) (nm : ByteArray) : CalcN 28 #[v, .string nm] w (.tuple #[.pointer none, .int .i64 4]) := by
  have k := made_not h
  clear h
  go_enter Try.func28, Try.ntmps28
  go_wp2_with (go_at_call 47; refine k.mono ?_; rintro e w' ⟨rfl, rfl⟩)
  go_returns
  exact ⟨rfl, rfl⟩
set_option maxRecDepth 100000 in
theorem feed_not {w : World} {v : Value} (h : Unm w v) (nm : ByteArray) (at' v1 v0 : Int) (is : Bool) :
    Calls Try.prog 12 #[v, .string nm, .int .i64 at', .agg #[.bool is, .int .i64 v1, .int .u64 v0]] w fun e w' => e = .returned (.tuple #[.slice none 0 0, .int .i64 4]) ∧ Below w.heap.size w w' := by
  have kf := fun (W : World) (k : Below w.heap.size w W) => find_not (h.later k) nm
  clear h
  have B1 : Below w.heap.size w (w.alloc (.cells #[.bool is, .int .i64 v1, .int .u64 v0] 38)) := (Below.refl _ _).alloc (Nat.le_refl _) _
  go_enter Try.func12, Try.ntmps12
  go_wp2_with (go_at_call 28; refine (kf _ B1).mono ?_; rintro e w' ⟨rfl, rfl⟩)
  go_returns
  exact ⟨rfl, B1⟩
set_option maxRecDepth 100000 in
theorem mute_not {w : World} {v : Value} (h : Unm w v) (nm : ByteArray) (t : Int) : CalcN 15 #[v, .string nm, .int .i64 t] w (.int .i64 4) := by
  have kf := find_not h nm
  clear h
  go_enter Try.func15, Try.ntmps15
  go_wp2_with (go_at_call 28; refine kf.mono ?_; rintro e w' ⟨rfl, rfl⟩)
  go_returns
  exact ⟨rfl, rfl⟩
set_option maxRecDepth 100000 in
theorem state_not {w : World} {v : Value} (h : Unm w v) (nm : ByteArray) : CalcN 17 #[v, .string nm] w (.tuple #[.int .i64 0, .bool false]) := by
  have kf := find_not h nm
  clear h
  go_enter Try.func17, Try.ntmps17
  go_wp2_with (go_at_call 28; refine kf.mono ?_; rintro e w' ⟨rfl, rfl⟩)
  go_returns
  exact ⟨rfl, rfl⟩
end Go.Proofs.Ytnlefakicjojdaa
