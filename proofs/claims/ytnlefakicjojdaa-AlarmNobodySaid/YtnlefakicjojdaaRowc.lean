/- A row of cells in a block, that may be written. -/
import Derived.Test.YtnlefakicjojdaaHid
import Derived.Test.YtnlefakicjojdaaBkm
namespace Go.Proofs.Ytnlefakicjojdaa
set_option linter.unusedVariables false
set_option linter.unusedSimpArgs false
open Go.RowKit W Go.Maps
structure Row (w : World) (b o : Nat) (l : List Value) : Prop where
  lt : b < w.heap.size
  cell : ∀ k, k < l.length → w.cell? ⟨b, o + k, none⟩ = l[k]?
  free : ∀ k, k < l.length → w.frozen? ⟨b, o + k, none⟩ = false
theorem Row.at {w : World} {b o : Nat} {l : List Value} (h : Row w b o l) (k : Nat) (v : Value) (e : l[k]? = some v) : w.cell? ⟨b, o + k, none⟩ = some v := by
  rw [h.cell k (List.getElem?_eq_some_iff.1 e).1, e]
theorem Row.at0 {w : World} {b : Nat} {l : List Value} (h : Row w b 0 l) (k : Nat) (v : Value) (e : l[k]? = some v) : w.cell? ⟨b, k, none⟩ = some v := by
  have := h.at k v e; rwa [Nat.zero_add] at this
theorem Row.fr {w : World} {b o : Nat} {l : List Value} (h : Row w b o l) (k : Nat) (hk : k < l.length) : w.frozen? ⟨b, o + k, none⟩ = false := h.free k hk
theorem Row.fr0 {w : World} {b : Nat} {l : List Value} (h : Row w b 0 l) (k : Nat) (hk : k < l.length) : w.frozen? ⟨b, k, none⟩ = false := by
  have := h.free k hk; rwa [Nat.zero_add] at this
theorem Row.mod {L : List Nat} {w w' : World} {b o : Nat} {l : List Value} (h : Row w b o l) (k : Mod L w w') (n : b ∉ L) : Row w' b o l :=
  ⟨Nat.lt_of_lt_of_le h.lt k.size, fun j hj => (k.cell h.lt n).trans (h.cell j hj), fun j hj => (k.frozen h.lt n).trans (h.free j hj)⟩
theorem Row.later {w w' : World} {b o : Nat} {l : List Value} (h : Row w b o l) (k : Below w.heap.size w w') : Row w' b o l := h.mod (Mod.of_below (l := []) k) (by simp)
theorem Row.drew {w : World} {b o : Nat} {l : List Value} (h : Row w b o l) : Row w.drew b o l := ⟨h.lt, h.cell, h.free⟩
theorem Row.drewN {w : World} {b o : Nat} {l : List Value} (h : Row w b o l) (n : Nat) : Row (w.drewN n) b o l := ⟨h.lt, h.cell, h.free⟩
theorem Row.set {w : World} {b o : Nat} {l : List Value} (h : Row w b o l) (k : Nat) (hk : k < l.length) (v : Value) : Row (w.setCell ⟨b, o + k, none⟩ v) b o (l.set k v) := by
  refine ⟨by simpa using h.lt, fun j hj => ?_, fun j hj => ?_⟩
  · rw [List.length_set] at hj
    by_cases e : j = k
    · subst e
      rw [World.cell?_setCell_same' _ _ _ (by rw [h.cell j hj, List.getElem?_eq_getElem hj]; rfl), List.getElem?_set_self hj]
    · rw [World.cell?_setCell_other (h := by intro q; injection q with _ q _; exact e (by omega)), h.cell j hj, List.getElem?_set_ne (fun q => e q.symm)]
  · rw [List.length_set] at hj
    rw [World.frozen?_setCell]; exact h.free j hj
theorem Row.set0 {w : World} {b : Nat} {l : List Value} (h : Row w b 0 l) (k : Nat) (hk : k < l.length) (v : Value) : Row (w.setCell ⟨b, k, none⟩ v) b 0 (l.set k v) := by
  have := h.set k hk v; rwa [Nat.zero_add] at this
/-- A row beside the one that is written. -/
theorem Row.apart {w : World} {b o : Nat} {l : List Value} (h : Row w b o l) {a : Addr} (n : a.block ≠ b ∨ a.off < o ∨ o + l.length ≤ a.off) (v : Value) : Row (w.setCell a v) b o l := by
  have ne : ∀ j, j < l.length → a ≠ ⟨b, o + j, none⟩ := fun j hj q => by subst q; rcases n with n | n | n <;> simp at n <;> omega
  exact ⟨by simpa using h.lt, fun j hj => by rw [World.cell?_setCell_other (h := ne j hj)]; exact h.cell j hj, fun j hj => by rw [World.frozen?_setCell]; exact h.free j hj⟩
theorem Row.new (w : World) (l : List Value) (t : TypeId) (m : List Value) (e : l = m) : Row (w.alloc (.cells l.toArray t)) w.heap.size 0 m := by
  subst e
  refine ⟨by simp, fun j hj => ?_, fun j hj => ?_⟩
  · rw [Nat.zero_add]; simp [go_sem, hj]
  · simp [go_sem]
end Go.Proofs.Ytnlefakicjojdaa
