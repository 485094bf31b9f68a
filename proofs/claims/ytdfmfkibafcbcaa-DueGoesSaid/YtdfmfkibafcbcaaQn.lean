/- due: queues that nobody made. -/
import Derived.Test.YtdfmfkibafcbcaaQa
namespace Go.Proofs.Ytdfmfkibafcbcaa
set_option linter.unusedVariables false
set_option linter.unusedSimpArgs false
open Go.RowKit W Go.Maps
/-- No queue, or one that New did not make. -/
def UnQ (w : World) (v : Value) : Prop := v = .pointer none ∨ ∃ b, v = .pointer (some ⟨b, 0, none⟩) ∧ w.cell? ⟨b, 0, none⟩ = some (.pointer none) ∧ b < w.heap.size
theorem UnQ.later {w w' : World} {v : Value} (h : UnQ w v) (k : Below w.heap.size w w') : UnQ w' v := by
  rcases h with h | ⟨b, h, c, l⟩
  · exact .inl h
  · exact .inr ⟨b, h, (k.cell (p := ⟨b, 0, none⟩) l).trans c, Nat.lt_of_lt_of_le l k.size⟩
set_option maxRecDepth 100000 in
theorem qmade_not {w : World} {v : Value} (h : UnQ w v) : CalcN 24 #[v] w (.bool false) := by
  rcases h with rfl | ⟨b, rfl, c0, lt⟩
  · go_enter Try.func24, Try.ntmps24
    go_wp2
    go_returns
    exact ⟨rfl, rfl⟩
  · have q : ∀ w, (binOp .eql 23 (.pointer none) (.pointer (some ⟨b, 0, none⟩))).run Try.prog w = .ok (.bool false) w := fun _ => by kernel_rfl
    go_enter Try.func24, Try.ntmps24
    go_wp2
    go_returns
    exact ⟨rfl, rfl⟩
set_option maxRecDepth 100000 in
theorem qlen_not {w : World} {v : Value} (h : UnQ w v) : CalcN 10 #[v] w (.int .i64 0) := by
  have k := qmade_not h
  clear h
  go_enter Try.func10, Try.ntmps10
  go_wp2_with (go_at_call 24; refine k.mono ?_; rintro e w' ⟨rfl, rfl⟩)
  go_returns
  exact ⟨rfl, rfl⟩
set_option maxRecDepth 100000 in
theorem qset_not {w : World} {v : Value} (h : UnQ w v) (nm : ByteArray) (a : Int) : CalcN 13 #[v, .string nm, .int .i64 a] w (.int .i64 4) := by
  have k := qmade_not h
  clear h
  go_enter Try.func13, Try.ntmps13
  go_wp2_with (go_at_call 24; refine k.mono ?_; rintro e w' ⟨rfl, rfl⟩)
  go_returns
  exact ⟨rfl, rfl⟩
set_option maxRecDepth 100000 in
theorem qdrop_not {w : World} {v : Value} (h : UnQ w v) (nm : ByteArray) : CalcN 16 #[v, .string nm] w (.bool false) := by
  have k := qmade_not h
  clear h
  go_enter Try.func16, Try.ntmps16
  go_wp2_with (go_at_call 24; refine k.mono ?_; rintro e w' ⟨rfl, rfl⟩)
  go_returns
  exact ⟨rfl, rfl⟩
set_option maxRecDepth 100000 in
theorem qat_not {w : World} {v : Value} (h : UnQ w v) (nm : ByteArray) : CalcN 21 #[v, .string nm] w (.tuple #[.int .i64 0, .bool false]) := by
  have k := qmade_not h
  clear h
  go_enter Try.func21, Try.ntmps21
  go_wp2_with (go_at_call 24; refine k.mono ?_; rintro e w' ⟨rfl, rfl⟩)
  go_returns
  exact ⟨rfl, rfl⟩
set_option maxRecDepth 100000 in
theorem qnext_not {w : World} {v : Value} (h : UnQ w v) : Calls Try.prog 20 #[v] w fun e w' => e = .returned (.tuple #[.agg #[.string ByteArray.empty, .int .i64 0], .bool false]) ∧ Below w.heap.size w w' := by
  have k := fun W (b : Below w.heap.size w W) => qlen_not (h.later b)
  clear h
  go_enter Try.func20, Try.ntmps20
  go_wp2_with (go_at_call 10; (with_reducible refine Calls.mono (k _ (by go_grown)) ?_); rintro e w' ⟨rfl, rfl⟩)
  go_returns
  exact ⟨rfl, by go_grown⟩
set_option maxRecDepth 100000 in
theorem qtake_not {w : World} {v : Value} (h : UnQ w v) (n : Int) : Calls Try.prog 18 #[v, .int .i64 n] w fun e w' => e = .returned (.slice none 0 0) ∧ Below w.heap.size w w' := by
  have k := fun W (b : Below w.heap.size w W) => qnext_not (h.later b)
  clear h
  go_enter Try.func18, Try.ntmps18
  go_wp2_with fail
  go_loopw [5] (fun s5 wr => s5 = .slice none 0 0 ∧ Below w.heap.size w wr) (fun _ _ => 0)
  case atStart => exact ⟨rfl, by go_grown⟩
  case round =>
    obtain ⟨rfl, hb⟩ := hrel
    have z := hb.size
    go_wp2_with (go_at_call 20; (with_reducible refine Calls.mono (k _ hb) ?_); rintro e w1 ⟨rfl, b1⟩)
    go_returns
    exact ⟨rfl, (hb.trans (b1.mono z)).alloc (by have := b1.size; omega) _⟩
set_option maxRecDepth 100000 in
theorem qall_call (w : World) (p : Option Addr) : Calls Try.prog 15 #[.pointer p] w fun e w' => e = .returned (.func (.func 31) #[] #[.pointer (some ⟨w.heap.size, 0, none⟩)]) ∧ w' = w.alloc (.cells #[.pointer p] 23) := by
  go_enter Try.func15, Try.ntmps15
  go_wp2_with fail
  go_returns
  exact ⟨rfl, rfl⟩
end Go.Proofs.Ytdfmfkibafcbcaa
