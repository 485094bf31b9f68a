/- WindowNils: books that nobody made. -/
import Derived.Test.YtcbkaccbbebobaaProg
import Derived.WalkKit
import Derived.WalkSpells
import Derived.WalkLawsBesides
import Derived.Handy
import Derived.KernelRfl
namespace Go.Proofs.Ytcbkaccbbebobaa
set_option linter.unusedVariables false
open Go.RowKit
/-- A book that New did not make: no book, or one whose own place is empty. -/
def Raw (p : Option Addr) (w : World) : Prop := p = none ∨ ∃ b, p = some ⟨b, 0, none⟩ ∧ w.cell? ⟨b, 0, none⟩ = some (.pointer none)
set_option maxRecDepth 100000 in
theorem made_raw (p : Option Addr) (w : World) (h : Raw p w) :
    Calls Try.prog 34 #[.pointer p] w fun e w' => e = .returned (.bool false) ∧ w = w' := by
  rcases h with rfl | ⟨b, rfl, h⟩
  · go_enter Try.func34, Try.ntmps34
    go_wp2
    go_returns
    exact ⟨rfl, rfl⟩
  · have q : ∀ w, (binOp .eql 22 (.pointer none) (.pointer (some ⟨b, 0, none⟩))).run Try.prog w = .ok (.bool false) w := fun _ => by kernel_rfl
    go_enter Try.func34, Try.ntmps34
    go_wp2
    go_returns
    exact ⟨rfl, rfl⟩
theorem put_raw (p : Option Addr) (t : Int) (w : World) (h : Raw p w) :
    Calls Try.prog 8 #[.pointer p, .int .i64 t] w fun e w' => e = .returned (.tuple #[.int .i64 0, .int .i64 4]) ∧ w = w' := by
  have c := made_raw p w h
  clear h
  go_enter Try.func8, Try.ntmps8
  go_wp2_with fail
  refine c.mono ?_
  rintro e w' ⟨rfl, rfl⟩
  go_wp2_with fail
  go_returns
  exact ⟨rfl, rfl⟩
theorem close_raw (p : Option Addr) (t : Int) (w : World) (h : Raw p w) :
    Calls Try.prog 9 #[.pointer p, .int .i64 t] w fun e w' => e = .returned (.slice none 0 0) ∧ w = w' := by
  have c := made_raw p w h
  clear h
  go_enter Try.func9, Try.ntmps9
  go_wp2_with fail
  refine c.mono ?_
  rintro e w' ⟨rfl, rfl⟩
  go_wp2_with fail
  go_returns
  exact ⟨rfl, rfl⟩
theorem open_raw (p : Option Addr) (w : World) (h : Raw p w) :
    Calls Try.prog 10 #[.pointer p] w fun e w' => e = .returned (.slice none 0 0) ∧ w = w' := by
  have c := made_raw p w h
  clear h
  go_enter Try.func10, Try.ntmps10
  go_wp2_with fail
  refine c.mono ?_
  rintro e w' ⟨rfl, rfl⟩
  go_wp2_with fail
  go_returns
  exact ⟨rfl, rfl⟩
theorem closed_raw (p : Option Addr) (w : World) (h : Raw p w) :
    Calls Try.prog 11 #[.pointer p] w fun e w' => e = .returned (.int .i64 0) ∧ w = w' := by
  have c := made_raw p w h
  clear h
  go_enter Try.func11, Try.ntmps11
  go_wp2_with fail
  refine c.mono ?_
  rintro e w' ⟨rfl, rfl⟩
  go_wp2_with fail
  go_returns
  exact ⟨rfl, rfl⟩
theorem nils_x (t : Int) (w : World) :
    Calls Try.prog 3 #[.int .i64 t] w fun e w' => e = .returned (.bool true) ∧ Below w.heap.size w w' := by
  go_enter Try.func3, Try.ntmps3
  go_wp2_with fail
  go_loopw [13] (fun i wr => ∃ k : Nat, k ≤ 2 ∧ i = .int .i64 k ∧ wr.cell? ⟨w.heap.size, 0, none⟩ = some (.pointer none) ∧ wr.cell? ⟨w.heap.size + 1, 0, none⟩ = some (.pointer none) ∧ wr.cell? ⟨w.heap.size + 1, 1, none⟩ = some (.pointer (some ⟨w.heap.size, 0, none⟩)) ∧ Below w.heap.size w wr) (fun i _ => 2 - (intOf i).toNat)
  case atStart => exact ⟨0, by omega, rfl, by simp [go_sem], by simp [go_sem], by simp [go_sem], by go_grown⟩
  case round =>
    obtain ⟨k, hk, rfl, d0, d1, d2, bl⟩ := hrel
    obtain rfl | rfl | rfl : k = 0 ∨ k = 1 ∨ k = 2 := by omega
    · have r : Raw none wr := .inl rfl
      have a1 := put_raw none t wr r
      have a2 := close_raw none t wr r
      have a3 := open_raw none wr r
      have a4 := closed_raw none wr r
      go_wp2_with fail
      refine a1.mono ?_
      rintro e v1 ⟨rfl, rfl⟩
      go_wp2_with fail
      refine a2.mono ?_
      rintro e v2 ⟨rfl, rfl⟩
      go_wp2_with fail
      refine a3.mono ?_
      rintro e v3 ⟨rfl, rfl⟩
      go_wp2_with fail
      refine a4.mono ?_
      rintro e v4 ⟨rfl, rfl⟩
      go_wp2_with fail
      go_roundw
      case rel => exact ⟨1, by omega, by first | rfl | go_num, d0, d1, d2, bl⟩
      case measure => simp [intOf]
    · have r : Raw (some ⟨w.heap.size, 0, none⟩) wr := .inr ⟨_, rfl, d0⟩
      have a1 := put_raw _ t wr r
      have a2 := close_raw _ t wr r
      have a3 := open_raw _ wr r
      have a4 := closed_raw _ wr r
      go_wp2_with fail
      refine a1.mono ?_
      rintro e v1 ⟨rfl, rfl⟩
      go_wp2_with fail
      refine a2.mono ?_
      rintro e v2 ⟨rfl, rfl⟩
      go_wp2_with fail
      refine a3.mono ?_
      rintro e v3 ⟨rfl, rfl⟩
      go_wp2_with fail
      refine a4.mono ?_
      rintro e v4 ⟨rfl, rfl⟩
      go_wp2_with fail
      go_roundw
      case rel => exact ⟨2, by omega, by first | rfl | go_num, d0, d1, d2, bl⟩
      case measure => simp [intOf]
    · go_wp2_with fail
      go_returns
      exact ⟨rfl, bl⟩
theorem law_WindowNils (t : Int) (w0 : (Lit.int .i64 t).wf = true) (w : World) :
    Calls Try.prog 3 #[.int .i64 t] w fun e w' => e = .returned (.bool true) ∧ Below w.heap.size w w' := nils_x t w
end Go.Proofs.Ytcbkaccbbebobaa
