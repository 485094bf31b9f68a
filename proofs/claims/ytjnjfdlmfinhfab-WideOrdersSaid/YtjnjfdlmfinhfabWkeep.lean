/- Worlds that agree below a block: what a drawn region holds. -/
import Derived.Test.YtjnjfdlmfinhfabWadd
import Derived.Deep.RegionHeld3
namespace Go.Proofs.Ytjnjfdlmfinhfab
set_option linter.unusedVariables false
open Go.RowKit W
/-- Below block B the world w is as W was. -/
structure Keeps (B : Nat) (W w : World) : Prop where
  below : Below B W w
  le : B ≤ W.heap.size
theorem Keeps.start {B : Nat} {W : World} (h : B ≤ W.heap.size) : Keeps B W W := ⟨Below.refl _ _, h⟩
theorem Keeps.size {B : Nat} {W w : World} (k : Keeps B W w) : B ≤ w.heap.size := Nat.le_trans k.le k.below.size
theorem Keeps.call {B : Nat} {W w w1 : World} (k : Keeps B W w) (hb : Below w.heap.size w w1) : Keeps B W w1 := ⟨k.below.trans (hb.mono k.size), k.le⟩
theorem Keeps.alloc {B : Nat} {W w : World} (k : Keeps B W w) (o : Obj) : Keeps B W (w.alloc o) := ⟨k.below.alloc k.size o, k.le⟩
theorem Keeps.drew {B : Nat} {W w : World} (k : Keeps B W w) : Keeps B W w.drew := ⟨k.below.drew, k.le⟩
theorem Keeps.setCell {B : Nat} {W w : World} (k : Keeps B W w) {p : Addr} (hp : B ≤ p.block) (u : Value) : Keeps B W (w.setCell p u) := ⟨k.below.setCell hp u, k.le⟩
theorem Keeps.cell {B : Nat} {W w : World} (k : Keeps B W w) {b o : Nat} {v : Value} (h : W.cell? ⟨b, o, none⟩ = some v) (hb : b < B) : w.cell? ⟨b, o, none⟩ = some v := (k.below.cell (p := ⟨b, o, none⟩) hb).trans h
theorem Keeps.free {B : Nat} {W w : World} (k : Keeps B W w) {b o : Nat} (h : W.frozen? ⟨b, o, none⟩ = false) (hb : b < B) : w.frozen? ⟨b, o, none⟩ = false := (k.below.frozen (p := ⟨b, o, none⟩) hb).trans h
end Go.Proofs.Ytjnjfdlmfinhfab
