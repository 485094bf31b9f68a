/- Lists that a call makes by append; lists that lie in memory: of texts. -/
import Derived.Test.YtdfmfkibafcbcaaHid
import Derived.SliceStrings
namespace Go.Proofs.Ytdfmfkibafcbcaa
set_option linter.unusedVariables false
set_option linter.unusedSimpArgs false
open Go.RowKit W
theorem info_txt : (Try.prog.info? 9).map (fun i => (i.zero, i.size, i.bytes)) = some (some (.string ByteArray.empty), 1, 16) := by kernel_rfl
/-- A list of texts that was made since the world w. -/
structure OwnT (w wr : World) (v : Value) (ps : List ByteArray) : Prop where
  own : wr.ownsRow w.heap.size 9 1 v ps.length (ps.map Value.string)
  below : Below w.heap.size w wr
  nil : ps = [] → v = .slice none 0 0
theorem OwnT.none_ (w : World) : OwnT w w (.slice none 0 0) [] := ⟨⟨rfl, .inl ⟨rfl, rfl⟩⟩, Below.refl _ _, fun _ => rfl⟩
/-- Texts in a block. -/
structure LieT (w : World) (g o : Nat) (ps : List ByteArray) : Prop where
  cell : ∀ j (h : j < ps.length), w.cell? ⟨g, o + j, none⟩ = some (.string ps[j])
  lt : g < w.heap.size
theorem LieT.later {w w' : World} {g o : Nat} {ps : List ByteArray} (h : LieT w g o ps) (b : Below w.heap.size w w') : LieT w' g o ps :=
  ⟨fun j hj => (b.cell (p := ⟨g, o + j, none⟩) h.lt).trans (h.cell j hj), Nat.lt_of_lt_of_le h.lt b.size⟩
theorem OwnT.got {w wr : World} {v : Value} {ps : List ByteArray} (h : OwnT w wr v ps) (hn : 0 < ps.length) :
    ∃ g cap, v = .slice (some ⟨g, 0, none⟩) ps.length cap ∧ LieT wr g 0 ps ∧ w.heap.size ≤ g := by
  obtain ⟨hl, hx | ⟨g, cap, cur, rfl, hg, hb, hnc, hcm, hs, hxs⟩⟩ := h.own
  · exact absurd hx.2 (by omega)
  · refine ⟨g, cap, rfl, ⟨fun j hj => ?_, (h.own.lt g rfl).2⟩, (h.own.lt g rfl).1⟩
    have := h.own.cellAt j (by simpa using hj)
    rw [Nat.zero_add, this]
    simp [hj]
/-- A slice of texts that came in, nil too. -/
def IsTxts (w : World) (a : Option Addr) (ps : List ByteArray) : Prop := ps = [] ∨ ∃ g o, a = some ⟨g, o, none⟩ ∧ LieT w g o ps
theorem IsTxts.later {w w' : World} {a : Option Addr} {ps : List ByteArray} (h : IsTxts w a ps) (b : Below w.heap.size w w') : IsTxts w' a ps := by
  rcases h with h | ⟨g, o, rfl, h⟩
  · exact .inl h
  · exact .inr ⟨g, o, rfl, h.later b⟩
theorem OwnT.is {w wr : World} {v : Value} {ps : List ByteArray} (h : OwnT w wr v ps) : ∃ a cap, v = .slice a ps.length cap ∧ IsTxts wr a ps := by
  by_cases z : ps = []
  · subst z; exact ⟨none, 0, h.nil rfl, .inl rfl⟩
  · obtain ⟨g, cap, hv, hl, _⟩ := h.got (by cases ps; exact absurd rfl z; simp)
    exact ⟨_, cap, hv, .inr ⟨g, 0, rfl, hl⟩⟩
theorem one_txt {x : ByteArray} : ∀ u ∈ [Value.string x], u.oneCell' = true := by intro u hu; rw [List.mem_singleton] at hu; subst hu; rfl
theorem OwnT.more {w wr w1 : World} {v v' : Value} {ps : List ByteArray} {x : ByteArray} {o : Obj} (h : OwnT w wr v ps)
    (hown : w1.ownsRow w.heap.size 9 1 v' (ps.length + 1) (ps.map Value.string ++ [.string x])) (hg : (wr.alloc o).grownBy w1 v.ownBlock) : OwnT w w1 v' (ps ++ [x]) :=
  ⟨by simpa using hown, (h.below.alloc h.below.size _).grown hg (by have := h.below.size; simp; omega) (fun j hj => (h.own.lt j hj).1), fun e => by simp at e⟩
open Go.ChangeShapes Go.WideShapes in
/-- A slice of texts as it is read. -/
theorem isTxts_of {H : Type} {enc : TypeId × Value → H} {P : Program} {w : World} {base : Nat} {spare : Nat → Bool} {held : Bool} {n : Nat} {t e : TypeId} {v : Value} {y : DataW H × List MemPlace}
    (ht : P.underlying t = some (.slice e)) (he : P.underlying e = some .string) (hc : P.cellsOf e = 1) (h : DataW.trod enc P w base spare held n t [v] = some y) :
    ∃ a c ps, v = .slice a (List.length ps) c ∧ IsTxts w a ps ∧ (ps = [] ∨ ∃ sp, y.1 = .slice (strs ps) sp) := by
  rcases open_strings ht he hc h with ⟨hcs, _⟩ | ⟨x, len, cap, ss, hcs, _, hl, hm, hz, hy, hcell, _⟩
  · simp at hcs
    exact ⟨none, 0, [], hcs, .inl rfl, .inl rfl⟩
  · simp at hcs
    have lz : len ≤ ss.length := by rw [hz]; split <;> omega
    have lt : (ss.take len).length = len := by rw [List.length_take]; omega
    refine ⟨some x, cap, ss.take len, by rw [lt]; exact hcs, ?_, .inr ⟨_, by rw [hy]⟩⟩
    rcases Nat.eq_zero_or_pos len with rfl | hpos
    · exact .inl (by simp)
    · have g0 := hcell 0 (by omega)
      obtain ⟨b, off, spot⟩ := x
      have hspot : spot = none := by simpa [Addr.add] using World.cell?_spot g0
      subst hspot
      refine .inr ⟨b, off, rfl, ⟨fun j hj => ?_, ?_⟩⟩
      · rw [lt] at hj
        have := hcell j (by omega)
        rw [add_plain] at this
        rw [this]
        simp [List.getD_eq_getElem?_getD, List.getElem?_eq_getElem (show j < ss.length by omega)]
      · have := hcell 0 (by omega)
        rw [add_plain] at this
        rcases Nat.lt_or_ge b w.heap.size with hlt | hge
        · exact hlt
        · unfold World.cell? at this; simp [Array.getElem?_eq_none hge] at this
end Go.Proofs.Ytdfmfkibafcbcaa
