/- due: how lists of entries are handed in. -/
import Derived.Test.YtdfmfkibafcbcaaQb
import Derived.Deep.SlicePairs
import Derived.ChangeOld
import Derived.OpenShut
namespace Go.Proofs.Ytdfmfkibafcbcaa
set_option linter.unusedVariables false
set_option linter.unusedSimpArgs false
open Go.RowKit W Go.Maps Go.ChangeShapes Go.WideShapes Go.Deep
section
variable {H : Type} {enc : TypeId × Value → H} {w : World} {base : Nat} {sp : Nat → Bool} {held : Bool} {fuel : Nat} {x : DataW H × List MemPlace}
def strOf : Value → ByteArray
  | .string b => b
  | _ => ByteArray.empty
theorem cell_lt' {w : World} {b o : Nat} {v : Value} (h : w.cell? ⟨b, o, none⟩ = some v) : b < w.heap.size := World.block_lt_of_cell? _ _ h
theorem rd_dues {s : Option Addr} {n c : Nat} (h : DataW.trod enc Try.prog w base sp held fuel 27 [.slice s n c] = some x) :
    ∃ L : List En, L.length = n ∧ IsE w s L ∧ (∀ e ∈ L, e.1.size ≤ maxLen) ∧ (n = 0 ∨ ∃ el spd, x.1 = .slice el spd ∧ el.length = n) := by
  rcases open_slice_pairs Try.underlying27 Try.underlying43 (by kernel_rfl) rfl rfl (by kernel_rfl) (by kernel_rfl) h with ⟨hcs, _⟩ | ⟨ad, l, c', m, n', V0, V1, D0, D1, P0, P1, hcs, _, hl, hm, hmm, hx, hcell⟩
  · simp at hcs
    obtain ⟨rfl, rfl, rfl⟩ := hcs
    exact ⟨[], rfl, .inl rfl, by simp, .inl rfl⟩
  · simp at hcs
    obtain ⟨rfl, rfl, rfl⟩ := hcs
    rcases Nat.eq_zero_or_pos n with rfl | hpos
    · exact ⟨[], rfl, .inl rfl, by simp, .inl rfl⟩
    have lm : n ≤ m := by rw [hmm]; split <;> omega
    have g0 := (hcell 0 (by omega)).1
    obtain ⟨b, off, spot⟩ := ad
    have hspot : spot = none := by simpa [Addr.add] using World.cell?_spot g0
    subst hspot
    have each : ∀ i, i < n → w.cell? ⟨b, off + i * 2, none⟩ = some (.string (strOf (V0 i))) ∧ w.cell? ⟨b, off + i * 2 + 1, none⟩ = some (.int .i64 (intOf (V1 i))) ∧ (strOf (V0 i)).size ≤ maxLen := by
      intro i hi
      obtain ⟨c0, c1, t0, t1⟩ := hcell i (by omega)
      obtain ⟨z0, e0, _, w0⟩ := DataW.trod_string Try.underlying9 t0
      obtain ⟨z1, e1, _, w1⟩ := DataW.trod_int Try.underlying2 t1
      simp at e0 e1
      rw [e0] at c0
      rw [e1] at c1
      rw [e0, e1]
      rw [add_plain] at c0 c1
      exact ⟨c0, c1, w0⟩
    have hb : b < w.heap.size := cell_lt' (each 0 hpos).1
    refine ⟨(List.range n).map fun i => (strOf (V0 i), intOf (V1 i)), by simp, .inr ⟨b, off, rfl, hb, fun j hj => ?_⟩, fun e he => ?_, .inr ⟨_, _, by rw [hx], by simp⟩⟩
    · have hj' : j < n := by simpa using hj
      simpa using ⟨(each j hj').1, (each j hj').2.1⟩
    · obtain ⟨i, hi, rfl⟩ := List.mem_map.1 he
      exact (each i (List.mem_range.1 hi)).2.2
end
end Go.Proofs.Ytdfmfkibafcbcaa
