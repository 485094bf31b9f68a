/- Small lemmas for all walks: what lay below stays; worlds under a name; wide numbers as results. -/
import Derived.Test.YtdfmfkibafcbcaaProg
import Derived.Test.YtdfmfkibafcbcaaMath2
import Derived.WalkKit
import Derived.WalkSpells
import Derived.WalkLawsBesides
import Derived.Handy
import Derived.Deep.RegionHeld3
import Derived.Deep.QuietTactic
import Derived.BigQuiet
import Derived.KernelRfl
import Derived.Deep.Cut
namespace Go.Proofs.Ytdfmfkibafcbcaa
set_option linter.unusedVariables false
open Go.RowKit W
theorem ret_int {k : IntKind} {a b : Int} (h : a = b) : Ending.returned (.int k a) = .returned (.int k b) := by rw [h]
theorem ret_bool {a b : Bool} (h : a = b) : Ending.returned (.bool a) = .returned (.bool b) := by rw [h]
theorem ret_two {k : IntKind} {a b c d : Int} (h : a = b) (g : c = d) : Ending.returned (.tuple #[.int k a, .int k c]) = .returned (.tuple #[.int k b, .int k d]) := by rw [h, g]
/-- What lay below stays: cells and marks, as rules for the walk. -/
theorem bcell {W w1 : World} (hb : Below W.heap.size W w1) :
    (∀ b o, b < W.heap.size → w1.cell? ⟨b, o, none⟩ = W.cell? ⟨b, o, none⟩) ∧ (∀ b o, b < W.heap.size → w1.frozen? ⟨b, o, none⟩ = W.frozen? ⟨b, o, none⟩) ∧ W.heap.size ≤ w1.heap.size :=
  ⟨fun b o h => hb.cell (p := ⟨b, o, none⟩) h, fun b o h => hb.frozen (p := ⟨b, o, none⟩) h, hb.size⟩
/-- A cell of a block that lay there ahead of a call: what it holds, that it may be written, that its block is there. -/
theorem live {W w1 : World} (v : Value) (hb : Below W.heap.size W w1) (b o : Nat) (h : b < W.heap.size) (hv : W.cell? ⟨b, o, none⟩ = some v) (hf : W.frozen? ⟨b, o, none⟩ = false) :
    w1.cell? ⟨b, o, none⟩ = some v ∧ w1.frozen? ⟨b, o, none⟩ = false ∧ b < w1.heap.size :=
  ⟨(hb.cell (p := ⟨b, o, none⟩) h).trans hv, (hb.frozen (p := ⟨b, o, none⟩) h).trans hf, Nat.lt_of_lt_of_le h hb.size⟩
theorem wrap_s {m : Int} (i : IsLo m) : IntKind.i64.wrap m = s m := by
  obtain ⟨_, _⟩ := i; rw [IntKind.wrap_i64]; unfold s; split <;> omega
/-- The sum of the numbers, or that it is over. -/
abbrev sumRes (t : Int) : Ending := .returned (.tuple #[.agg #[.int .i64 (hi (resV t)), .int .u64 (lo (resV t))], .int .i64 (resE t)])
abbrev wideRes (v : Int) : Ending := .returned (.agg #[.int .i64 (hi v), .int .u64 (lo v)])
theorem ret_res {v x1 x0 : Int} (f : Fits v) (h1 : hi v = x1) (h0 : lo v = x0) : Ending.returned (.tuple #[.agg #[.int .i64 x1, .int .u64 x0], .int .i64 0]) =
    .returned (.tuple #[.agg #[.int .i64 (hi (resV v)), .int .u64 (lo (resV v))], .int .i64 (resE v)]) := by
  rw [resV_fits f, resE_fits f, h1, h0]
theorem ret_over {v : Int} (f : ¬ Fits v) : Ending.returned (.tuple #[.agg #[.int .i64 0, .int .u64 0], .int .i64 10]) =
    .returned (.tuple #[.agg #[.int .i64 (hi (resV v)), .int .u64 (lo (resV v))], .int .i64 (resE v)]) := by
  rw [resV_not f, resE_not f]; rfl
/-- Below block B the world w is as W was. -/
structure Keeps (B : Nat) (W w : World) : Prop where
  below : Below B W w
  le : B ≤ W.heap.size
theorem Keeps.start {B : Nat} {W : World} (h : B ≤ W.heap.size) : Keeps B W W := ⟨Below.refl _ _, h⟩
theorem Keeps.size {B : Nat} {W w : World} (k : Keeps B W w) : B ≤ w.heap.size := Nat.le_trans k.le k.below.size
theorem Keeps.call {B : Nat} {W w w1 : World} (k : Keeps B W w) (hb : Below w.heap.size w w1) : Keeps B W w1 := ⟨k.below.trans (hb.mono k.size), k.le⟩
theorem Keeps.alloc {B : Nat} {W w : World} (k : Keeps B W w) (o : Obj) : Keeps B W (w.alloc o) := ⟨k.below.alloc k.size o, k.le⟩
theorem Keeps.drew {B : Nat} {W w : World} (k : Keeps B W w) : Keeps B W w.drew := ⟨k.below.drew, k.le⟩
theorem Keeps.setCell {B : Nat} {W w : World} (k : Keeps B W w) {p : Addr} (hp : B ≤ p.block) (u : Value) : Keeps B W (w.setCell p u) := ⟨k.below.setCell hp u, k.le⟩
theorem Keeps.cell {B : Nat} {W w : World} (k : Keeps B W w) {b o : Nat} {v : Value} (h : W.cell? ⟨b, o, none⟩ = some v) (hb : b < B) : w.cell? ⟨b, o, none⟩ = some v := (k.below.cell (p := ⟨b, o, none⟩) hb).trans h
theorem Keeps.free {B : Nat} {W w : World} (k : Keeps B W w) {b o : Nat} (h : W.frozen? ⟨b, o, none⟩ = false) (hb : b < B) : w.frozen? ⟨b, o, none⟩ = false := (k.below.frozen (p := ⟨b, o, none⟩) hb).trans h
/-- The world under a name, with what is known of it. -/
theorem abs_wp {P : Program} {c : Code} {Q : Exit → Act → World → Prop} {a : Act} {w : World} (F : World → Prop) (hF : F w) (h : ∀ W, F W → c.wp P Q a W) : c.wp P Q a w := h w hF
theorem abs_list {P : Program} {ops : Array Oper} {Q : Exit → Act → World → Prop} {l : List Oper} {a : Act} {w : World} (F : World → Prop) (hF : F w) (h : ∀ W, F W → wpList P ops Q l a W) : wpList P ops Q l a w := h w hF
theorem below_drewN {B : Nat} {a w : World} (h : Below B a w) (n : Nat) : Below B a (w.drewN n) := ⟨h.os, h.tape, h.output, h.size, h.block⟩
theorem lo_of_wf {x : Int} (h : (Lit.int .u64 x).wf = true) : IsLo x := by
  simp only [Lit.wf, IntKind.min, IntKind.max, IntKind.signed, IntKind.bits, Bool.and_eq_true] at h
  exact ⟨by simp at h; omega, by simp at h; omega⟩
theorem hi_of_wf {x : Int} (h : (Lit.int .i64 x).wf = true) : IsHi x := by
  simp only [Lit.wf, IntKind.min, IntKind.max, IntKind.signed, IntKind.bits, Bool.and_eq_true, decide_eq_true_eq, if_true] at h
  exact ⟨by omega, by omega⟩
theorem isW_res (v : Int) : IsW (hi (resV v), lo (resV v)) := ⟨isHi_hi (fits_resV v), isLo_lo _⟩
/-- Small: the number as an int64, if it is one. -/
def smallV (v : Int) : Int := if IsHi v then v else 0
def smallB (v : Int) : Bool := decide (IsHi v)
end Go.Proofs.Ytdfmfkibafcbcaa
