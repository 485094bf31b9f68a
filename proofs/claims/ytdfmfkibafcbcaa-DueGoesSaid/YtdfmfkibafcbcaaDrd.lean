/- due: how a script is handed in. -/
import Derived.Test.YtdfmfkibafcbcaaDjs
import Derived.Deep.Slices
import Derived.Deep.SlicePairs
import Derived.ChangeArms
import Derived.ChangeAlike
import Derived.ChangeOld
import Derived.OpenShut
namespace Go.Proofs.Ytdfmfkibafcbcaa
set_option linter.unusedVariables false
set_option linter.unusedSimpArgs false
open Go.RowKit W Go.Maps Go.ChangeShapes Go.WideShapes Go.Deep
/-- A call of a script. -/
structure Oq where
  kd : Int
  nm : ByteArray
  t : Int
instance : Inhabited Oq := ⟨⟨0, ByteArray.empty, 0⟩⟩
def oqL (o : Oq) : List Value := [.int .i64 o.kd, .string o.nm, .int .i64 o.t]
/-- A script as its cells hold it. -/
structure OqAt (w : World) (g o : Nat) (L : List Oq) : Prop where
  lt : g < w.heap.size
  cell : ∀ j (hj : j < L.length) k v, (oqL L[j])[k]? = some v → w.cell? ⟨g, o + j * 3 + k, none⟩ = some v
def IsOq (w : World) (a : Option Addr) (L : List Oq) : Prop := L = [] ∨ ∃ g o, a = some ⟨g, o, none⟩ ∧ OqAt w g o L
theorem IsOq.later {w w' : World} {a : Option Addr} {L : List Oq} (h : IsOq w a L) (k : Below w.heap.size w w') : IsOq w' a L :=
  h.imp id fun ⟨g, o, e, q⟩ => ⟨g, o, e, Nat.lt_of_lt_of_le q.lt k.size, fun j hj i v e => (k.cell (p := ⟨g, o + j * 3 + i, none⟩) q.lt).trans (q.cell j hj i v e)⟩
theorem IsOq.at_ {w : World} {a : Option Addr} {L : List Oq} (h : IsOq w a L) {i : Nat} (hi : i < L.length) : ∃ g o, a = some ⟨g, o, none⟩ ∧ g < w.heap.size ∧ w.cell? ⟨g, o + i * 3, none⟩ = some (.int .i64 L[i].kd) ∧ w.cell? ⟨g, o + i * 3 + 1, none⟩ = some (.string L[i].nm) ∧ w.cell? ⟨g, o + i * 3 + 2, none⟩ = some (.int .i64 L[i].t) := by
  rcases h with h | ⟨g, o, e, k⟩
  · subst h; simp at hi
  · exact ⟨g, o, e, k.lt, k.cell i hi 0 _ rfl, k.cell i hi 1 _ rfl, k.cell i hi 2 _ rfl⟩
section
variable {H : Type} {enc : TypeId × Value → H} {w : World} {base : Nat} {sp : Nat → Bool} {held : Bool} {fuel : Nat} {cs : List Value} {x : DataW H × List MemPlace}
theorem cellsOq : Try.prog.cellsOf 36 = 3 := by kernel_rfl
theorem oq1i : Try.prog.cellsOf 2 = 1 := by kernel_rfl
theorem oq1n : Try.prog.cellsOf 3 = 1 := by kernel_rfl
theorem oq1s : Try.prog.cellsOf 9 = 1 := by kernel_rfl
theorem lenF {α : Type} {l : List α} (h : l.length = 3) : ∃ a b c, l = [a, b, c] := by
  rcases l with _ | ⟨a, _ | ⟨b, _ | ⟨c, _ | ⟨d, l⟩⟩⟩⟩ <;> simp at h
  exact ⟨a, b, c, rfl⟩
theorem rd_oq1 (h : DataW.trod enc Try.prog w base sp held fuel 36 cs = some x) : ∃ kd nm t, cs = [.int .i64 kd, .string nm, .int .i64 t] ∧ nm.size ≤ maxLen := by
  obtain ⟨xs, n, _, _, hl, hxl, hf⟩ := DataW.trod_struct Try.underlying36 h
  rw [cellsOq] at hl
  have hxl : xs.length = 3 := by simpa using hxl
  obtain ⟨v0, v1, v2, rfl⟩ := lenF hl
  obtain ⟨y0, y1, y2, rfl⟩ := lenF hxl
  have g0 := hf 0 _ rfl
  have g1 := hf 1 _ rfl
  have g2 := hf 2 _ rfl
  simp [oq1i, oq1n, oq1s] at g0 g1 g2
  obtain ⟨kd, e0, _, _⟩ := DataW.trod_int Try.underlying3 g0
  obtain ⟨nm, e1, _, ws⟩ := DataW.trod_string Try.underlying9 g1
  obtain ⟨t, e2, _, _⟩ := DataW.trod_int Try.underlying2 g2
  simp at e0 e1 e2
  subst e0 e1 e2
  exact ⟨kd, nm, t, rfl, ws⟩
theorem rd_oqs {s : Option Addr} {n c : Nat} (h : DataW.trod enc Try.prog w base sp held fuel 22 [.slice s n c] = some x) :
    ∃ L : List Oq, L.length = n ∧ IsOq w s L ∧ (∀ o ∈ L, o.nm.size ≤ maxLen) ∧ (n = 0 ∨ ∃ el spd, x.1 = .slice el spd ∧ el.length = n) := by
  rcases open_slice Try.underlying22 h with ⟨hcs, _⟩ | ⟨a, len, cap, m, k, D, Pl, hcs, _, hl, hm, hmm, hx, hcell⟩
  · simp at hcs
    obtain ⟨rfl, rfl, rfl⟩ := hcs
    exact ⟨[], rfl, .inl rfl, by simp, .inl rfl⟩
  · simp at hcs
    obtain ⟨rfl, rfl, rfl⟩ := hcs
    have lm : n ≤ m := by rw [hmm]; split <;> omega
    have each : ∀ i, i < n → ∃ q : Oq, (∀ k v, (oqL q)[k]? = some v → w.cell? (a.add (i * 3 + k)) = some v) ∧ q.nm.size ≤ maxLen := by
      intro i hi
      obtain ⟨cs', h1, h2⟩ := hcell i (by omega)
      obtain ⟨_, hlen, hc⟩ := World.cells?_some h1
      obtain ⟨kd, nm, t, rfl, ws⟩ := rd_oq1 h2
      rw [cellsOq] at hc
      refine ⟨⟨kd, nm, t⟩, fun k v e => ?_, ws⟩
      have hk : k < 3 := by
        obtain ⟨hk, _⟩ := List.getElem?_eq_some_iff.1 e
        simpa [oqL] using hk
      have g := hc k (by omega)
      rw [add_add] at g
      rw [g]
      unfold oqL at e
      first | exact e | (simpa using e)
    obtain ⟨q, hq⟩ := choose_lt each
    have hlen : ((List.range n).map q).length = n := by simp
    refine ⟨(List.range n).map q, hlen, ?_, fun y hy => ?_, .inr ⟨_, _, by rw [hx], by simp⟩⟩
    · rcases Nat.eq_zero_or_pos n with rfl | hpos
      · exact .inl (by simp)
      · have g0 := (hq 0 hpos).1 0 _ rfl
        obtain ⟨b, off, spot⟩ := a
        have hspot : spot = none := by simpa [Addr.add] using World.cell?_spot g0
        subst hspot
        refine .inr ⟨b, off, rfl, ?_, fun j hj k v e => ?_⟩
        · rw [add_plain] at g0
          rcases Nat.lt_or_ge b w.heap.size with hlt | hge
          · exact hlt
          · unfold World.cell? at g0; simp [Array.getElem?_eq_none hge] at g0
        · rw [hlen] at hj
          have e' : ((List.range n).map q)[j]'(by rw [hlen]; exact hj) = q j := by rw [List.getElem_map, List.getElem_range]
          rw [e'] at e
          have g := (hq j hj).1 k v e
          rw [add_plain, ← Nat.add_assoc] at g
          exact g
    · obtain ⟨i, hi, rfl⟩ := List.mem_map.1 hy
      exact (hq i (List.mem_range.1 hi)).2
end
end Go.Proofs.Ytdfmfkibafcbcaa
