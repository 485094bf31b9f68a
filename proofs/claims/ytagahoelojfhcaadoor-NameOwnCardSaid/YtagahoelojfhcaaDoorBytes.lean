/- Slices of bytes: what they read; cuts; as a text. -/
import Derived.Test.YtagahoelojfhcaaDoorOwnl
import Derived.Test.YtagahoelojfhcaaDoorCutp
import Derived.Laws.IdiomStrings
import Derived.Lib.Bytealg
import Derived.Lib.IndexLaws
import Derived.Lib.Bytes
import Derived.ChangeSlices
namespace Go.Proofs.YtagahoelojfhcaaDoor
set_option linter.unusedVariables false
set_option linter.unusedSimpArgs false
open Go.RowKit W
/-- A slice of bytes, nil and empty too. -/
def IsBytes (w : World) (a : Option Addr) (l : List UInt8) : Prop := l = [] ∨ ∃ g o, a = some ⟨g, o, none⟩ ∧ g < w.heap.size ∧ ∀ j (h : j < l.length), w.cell? ⟨g, o + j, none⟩ = some (.int .u8 (l[j].toNat : Int))
theorem IsBytes.later {w w' : World} {a : Option Addr} {l : List UInt8} (h : IsBytes w a l) (b : Below w.heap.size w w') : IsBytes w' a l := by
  rcases h with h | ⟨g, o, rfl, lt, h⟩
  · exact .inl h
  · exact .inr ⟨g, o, rfl, Nat.lt_of_lt_of_le lt b.size, fun j hj => (b.cell (p := ⟨g, o + j, none⟩) lt).trans (h j hj)⟩
theorem size_b (w : World) : (Go.sizeOf (Tryd.prog.elem 78)).run Tryd.prog w = .ok 1 w := by kernel_rfl
theorem add0 (x : Addr) : x.add 0 = x := by unfold Addr.add; simp
/-- l[k:] of a slice. -/
theorem bytes_from {w : World} {a : Option Addr} {l : List UInt8} (h : IsBytes w a l) (c k : Nat) (hk : k ≤ l.length) (hc : l.length ≤ c) :
    ∃ a2, (∀ v, (Instr.slice 78 (.slice a l.length c) (some (.int .i64 (k : Int))) none none).run Tryd.prog v = .ok (.slice a2 (l.length - k) (c - k)) v) ∧ IsBytes w a2 (l.drop k) ∧ (a2 = none → a = none) := by
  refine ⟨if c = k then a else a.map (·.add (k * 1)), fun v => ?_, ?_, ?_⟩
  · rw [run_slice_l (P := Tryd.prog) (w := v) 78 a l.length c (by kernel_rfl) .i64 (k : Int) (by omega) (by omega), size_b]
    simp [Result.andThen, sliced]
  · rcases h with rfl | ⟨g, o, rfl, lt, h⟩
    · exact .inl (by simp)
    · by_cases e : l.length = k
      · exact .inl (by rw [← e]; simp)
      · rw [if_neg (by omega)]
        refine .inr ⟨g, o + k, by simp only [Option.map_some, Nat.mul_one]; rw [Go.WideShapes.add_plain], lt, fun j hj => ?_⟩
        rw [List.length_drop] at hj
        have := h (k + j) (by omega)
        rw [Nat.add_assoc, this, List.getElem_drop]
  · intro e; split at e
    · exact e
    · simpa using e
/-- l[k:e:e] of a slice. -/
theorem bytes_cut {w : World} {a : Option Addr} {l : List UInt8} (h : IsBytes w a l) (c k e : Nat) (hk : k ≤ e) (he : e ≤ l.length) (hc : l.length ≤ c) :
    ∃ a2, (∀ v, (Instr.slice 78 (.slice a l.length c) (some (.int .i64 (k : Int))) (some (.int .i64 (e : Int))) (some (.int .i64 (e : Int)))).run Tryd.prog v = .ok (.slice a2 (e - k) (e - k)) v) ∧ IsBytes w a2 ((l.take e).drop k) := by
  refine ⟨if e = k then a else a.map (·.add (k * 1)), fun v => ?_, ?_⟩
  · rw [run_slice_lhm (P := Tryd.prog) (w := v) 78 a l.length c (by kernel_rfl) .i64 .i64 .i64 (k : Int) (e : Int) (e : Int) (by omega) (by omega) (by omega) (by omega), size_b]
    simp [Result.andThen, sliced]
  · rcases h with rfl | ⟨g, o, rfl, lt, h⟩
    · exact .inl (by simp)
    · by_cases q : e = k
      · exact .inl (List.drop_eq_nil_of_le (by rw [List.length_take]; omega))
      · rw [if_neg q]
        refine .inr ⟨g, o + k, by simp only [Option.map_some, Nat.mul_one]; rw [Go.WideShapes.add_plain], lt, fun j hj => ?_⟩
        rw [List.length_drop, List.length_take] at hj
        have := h (k + j) (by omega)
        rw [Nat.add_assoc, this, List.getElem_drop, List.getElem_take]
/-- l[:e:e] of a slice. -/
theorem bytes_upto {w : World} {a : Option Addr} {l : List UInt8} (h : IsBytes w a l) (c e : Nat) (he : e ≤ l.length) (hc : l.length ≤ c) :
    (∀ v, (Instr.slice 78 (.slice a l.length c) none (some (.int .i64 (e : Int))) (some (.int .i64 (e : Int)))).run Tryd.prog v = .ok (.slice a e e) v) ∧ IsBytes w a (l.take e) := by
  refine ⟨fun v => ?_, ?_⟩
  · rw [run_slice_hm (P := Tryd.prog) (w := v) 78 a l.length c (by kernel_rfl) .i64 .i64 (e : Int) (e : Int) (by omega) (by omega) (by omega), size_b]
    simp [Result.andThen, sliced, add0]
  · rcases h with rfl | ⟨g, o, rfl, lt, h⟩
    · exact .inl (by simp)
    · refine .inr ⟨g, o, rfl, lt, fun j hj => ?_⟩
      rw [List.length_take] at hj
      rw [h j (by omega), List.getElem_take]
/-- A slice of bytes as a text. -/
theorem bytes_text {w : World} {a : Option Addr} {l : List UInt8} (h : IsBytes w a l) (hl : l ≠ []) (c : Nat) :
    ∃ x : ByteArray, lst x = l ∧ ∀ v, Below w.heap.size w v → (convert 78 9 (.slice a l.length c)).run Tryd.prog v = .ok (.string x) v := by
  rcases h with rfl | ⟨g, o, rfl, lt, h⟩
  · exact absurd rfl hl
  · refine ⟨⟨l.toArray⟩, by simp [lst], fun v b => ?_⟩
    exact run_convert_bytes_back v 78 9 5 ⟨g, o, none⟩ c l Tryd.underlying78 Tryd.underlying5 Tryd.underlying9 (fun j hj => by
      rw [Go.WideShapes.add_plain]
      exact (b.cell (p := ⟨g, o + j, none⟩) lt).trans (h j hj))
/-- How many bytes stand ahead of the next line end. -/
def lineN : List UInt8 → Nat
  | [] => 0
  | x :: r => if x = 10 then 0 else lineN r + 1
theorem lineN_le (l : List UInt8) : lineN l ≤ l.length := by
  induction l with
  | nil => simp [lineN]
  | cons x r ih => unfold lineN; split <;> simp; omega
theorem index_line (l : List UInt8) : (Lib.indexByte l 10 = -1 ∧ lineN l = l.length ∧ (10 : UInt8) ∉ l) ∨ (Lib.indexByte l 10 = lineN l ∧ lineN l < l.length) := by
  induction l with
  | nil => left; simp [Lib.indexByte, lineN]
  | cons x r ih =>
    unfold Lib.indexByte lineN
    by_cases e : x = 10
    · subst e; right; simp
    · have e1 : (x == 10) = false := by simpa using e
      rw [e1, if_neg e]
      rcases ih with ⟨h1, h2, h3⟩ | ⟨h1, h2⟩
      · left
        rw [h1, h2]
        refine ⟨by simp, by simp, ?_⟩
        rw [List.mem_cons, not_or]
        exact ⟨fun q => e q.symm, h3⟩
      · right
        rw [h1]
        refine ⟨?_, by simp; omega⟩
        have : ((lineN r : Int) == -1) = false := by rw [beq_eq_false_iff_ne]; omega
        simp [this]
/-- A text cut at line ends, from its first line end on. -/
theorem cut_line (l : List UInt8) : cutL 10 [] l = l.take (lineN l) :: (if lineN l < l.length then cutL 10 [] (l.drop (lineN l + 1)) else []) := by
  have aux : ∀ (l acc : List UInt8), cutL 10 acc l = (acc ++ l.take (lineN l)) :: (if lineN l < l.length then cutL 10 [] (l.drop (lineN l + 1)) else []) := by
    intro l
    induction l with
    | nil => intro acc; simp [cutL, lineN]
    | cons x r ih =>
      intro acc
      show (if x = 10 then acc :: cutL 10 [] r else cutL 10 (acc ++ [x]) r) = _
      by_cases e : x = 10
      · rw [if_pos e]
        have q : lineN (x :: r) = 0 := by unfold lineN; rw [if_pos e]
        rw [q, if_pos (by simp)]
        simp
      · have q : lineN (x :: r) = lineN r + 1 := by rw [lineN, if_neg e]
        rw [if_neg e, ih, q]
        simp
  simpa using aux l []
/-- Without one byte 13 at its end. -/
def bareL (l : List UInt8) : List UInt8 := if l.getLast? = some 13 then l.dropLast else l
theorem bareL_13 {l : List UInt8} {k : Nat} (hk : l.length = k + 1) (h : l[k]'(by omega) = 13) : bareL l = l.take k := by
  unfold bareL
  rw [List.getLast?_eq_getElem?, hk, Nat.add_sub_cancel, List.getElem?_eq_getElem (by omega), h, if_pos rfl, List.dropLast_eq_take, hk, Nat.add_sub_cancel]
theorem bareL_no {l : List UInt8} {k : Nat} (hk : l.length = k + 1) (h : l[k]'(by omega) ≠ 13) : bareL l = l := by
  unfold bareL
  rw [List.getLast?_eq_getElem?, hk, Nat.add_sub_cancel, List.getElem?_eq_getElem (by omega), if_neg (by intro e; exact h (Option.some.inj e))]
/-- P5.1. -/
def splitL (l : List UInt8) : List (List UInt8) := ((cutL 10 [] l).map bareL).filter (fun p => !p.isEmpty)
open Go.ChangeShapes Go.WideShapes in
/-- A slice of bytes as it is read. -/
theorem isBytes_of {H : Type} {enc : TypeId × Value → H} {P : Program} {w : World} {base : Nat} {spare : Nat → Bool} {held : Bool} {n : Nat} {t e : TypeId} {v : Value} {y : DataW H × List MemPlace}
    (ht : P.underlying t = some (.slice e)) (he : P.underlying e = some (.int .u8)) (hc : P.cellsOf e = 1) (h : DataW.trod enc P w base spare held n t [v] = some y) :
    ∃ a c l, v = .slice a (List.length l) c ∧ l.length ≤ c ∧ (a = none → l.length = 0 ∧ c = 0) ∧ IsBytes w a l ∧ (l = [] ∨ ∃ el sp, y.1 = .slice el sp ∧ el.length = l.length) := by
  rcases open_ints ht he hc h with ⟨hcs, _⟩ | ⟨a, len, cap, zs, hcs, _, hl, hm, hz, hy, hcell, hwf⟩
  · simp at hcs
    exact ⟨none, 0, [], hcs, by simp, by simp, .inl rfl, .inl rfl⟩
  · simp at hcs
    have lz : len ≤ zs.length := by rw [hz]; split <;> omega
    have lt : (zs.take len).length = len := by rw [List.length_take]; omega
    have small : ∀ z ∈ zs, 0 ≤ z ∧ z < 256 := by
      intro z h
      have := hwf z h
      simp only [Lit.wf, IntKind.min, IntKind.max, IntKind.signed, IntKind.bits, Bool.and_eq_true, decide_eq_true_eq] at this
      simp at this
      omega
    refine ⟨some a, cap, (zs.take len).map fun z => UInt8.ofNat z.toNat, by rw [List.length_map, lt]; exact hcs, by rw [List.length_map, lt]; exact hl, (by intro e; cases e), ?_, ?_⟩
    · rcases Nat.eq_zero_or_pos len with rfl | hpos
      · exact .inl (by simp)
      · have g0 := hcell 0 (by omega)
        obtain ⟨b, off, spot⟩ := a
        have hspot : spot = none := by simpa [Addr.add] using World.cell?_spot g0
        subst hspot
        have blt : b < w.heap.size := by
          have := hcell 0 (by omega)
          rw [add_plain] at this
          rcases Nat.lt_or_ge b w.heap.size with hlt | hge
          · exact hlt
          · unfold World.cell? at this; simp [Array.getElem?_eq_none hge] at this
        refine .inr ⟨b, off, rfl, blt, fun j hj => ?_⟩
        rw [List.length_map, lt] at hj
        have := hcell j (by omega)
        rw [add_plain] at this
        rw [this, List.getElem_map, List.getElem_take]
        have hj2 : j < zs.length := by omega
        have sm := small zs[j] (List.getElem_mem hj2)
        simp only [List.getD_eq_getElem?_getD, List.getElem?_eq_getElem hj2, Option.getD_some, UInt8.toNat_ofNat']
        congr 2
        omega
    · right
      exact ⟨_, _, by rw [hy], by simp [lits]⟩
end Go.Proofs.YtagahoelojfhcaaDoor
