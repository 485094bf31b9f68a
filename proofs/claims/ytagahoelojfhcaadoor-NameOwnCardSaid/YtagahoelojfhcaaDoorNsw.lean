/- name: what one writes into a pattern that is one's own. -/
import Derived.Test.YtagahoelojfhcaaDoorNcoo
namespace Go.Proofs.YtagahoelojfhcaaDoor
set_option linter.unusedVariables false
set_option linter.unusedSimpArgs false
open Go.RowKit W
/-- A block of cells that may be written. -/
def Blk (w : World) (g : Nat) (t : TypeId) (n : Nat) : Prop := ∃ cs, w.heap[g]? = some (.cells cs t (0, 0)) ∧ cs.size = n
/-- Nothing but some blocks was written. -/
def Off (X : Nat → Prop) (w w' : World) : Prop := w.heap.size ≤ w'.heap.size ∧ ∀ k, k < w.heap.size → ¬X k → w'.heap[k]? = w.heap[k]?
theorem Off.set (w : World) (b o : Nat) (u : Value) : Off (· = b) w (w.setCell ⟨b, o, none⟩ u) := ⟨by simp, fun k _ e => heap_setCell_other w ⟨b, o, none⟩ k u e⟩
theorem heap_alloc_old_ (w : World) (o : Obj) (i : Nat) (h : i < w.heap.size) : (w.alloc o).heap[i]? = w.heap[i]? := by
  show (w.heap.push o)[i]? = w.heap[i]?
  rw [Array.getElem?_push, if_neg (Nat.ne_of_lt h)]
theorem Off.grown {w w' : World} {o : Obj} {row : Option Nat} (hg : (w.alloc o).grownBy w' row) : Off (fun k => row = some k) w w' :=
  ⟨Nat.le_trans (by simp) hg.size, fun k hk e => (hg.block k (by simp; omega) (fun q => e q.symm)).trans (heap_alloc_old_ w o k hk)⟩
theorem Off.below {X : Nat → Prop} {w w' : World} (h : Below w.heap.size w w') : Off X w w' := ⟨h.size, fun k hk _ => h.block k hk⟩
theorem Off.trans {X : Nat → Prop} {a b c : World} (h : Off X a b) (k : Off X b c) : Off X a c :=
  ⟨Nat.le_trans h.1 k.1, fun i hi e => (k.2 i (Nat.lt_of_lt_of_le hi h.1) e).trans (h.2 i hi e)⟩
theorem Blk.lt {w : World} {g n : Nat} {t : TypeId} (h : Blk w g t n) : g < w.heap.size := by obtain ⟨cs, h1, _⟩ := h; exact blk_lt h1
theorem Blk.set {w : World} {g n : Nat} {t : TypeId} (h : Blk w g t n) (b o : Nat) (u : Value) : Blk (w.setCell ⟨b, o, none⟩ u) g t n := by
  obtain ⟨cs, h1, h2⟩ := h
  by_cases e : g = b
  · subst e; exact ⟨_, heap_setCell_same w g o cs t u h1, by simpa using h2⟩
  · exact ⟨cs, (heap_setCell_other w ⟨b, o, none⟩ g u e).trans h1, h2⟩
theorem Blk.ne {w : World} {g g' n n' : Nat} {t t' : TypeId} (h : Blk w g t n) (h' : Blk w g' t' n') (ht : t ≠ t') : g ≠ g' := by
  rintro rfl
  obtain ⟨cs, h1, _⟩ := h
  obtain ⟨cs', h2, _⟩ := h'
  rw [h1] at h2
  injection h2 with h2
  injection h2 with _ h2
  exact ht h2
theorem Blk.off {w w' : World} {g n : Nat} {X : Nat → Prop} {t : TypeId} (h : Blk w g t n) (u : Off X w w') (e : ¬X g) : Blk w' g t n := by
  obtain ⟨cs, h1, h2⟩ := h
  exact ⟨cs, (u.2 g (blk_lt h1) e).trans h1, h2⟩
theorem Blk.cell {w : World} {g n : Nat} {t : TypeId} (h : Blk w g t n) (i : Nat) (hi : i < n) : ∃ u, w.cell? ⟨g, i, none⟩ = some u := by
  obtain ⟨cs, h1, h2⟩ := h
  exact ⟨cs[i]'(by omega), by rw [cell_of_row w g i cs t (0, 0) h1, Array.getElem?_eq_getElem]⟩
theorem Blk.frozen {w : World} {g n : Nat} {t : TypeId} (h : Blk w g t n) (i : Nat) : w.frozen? ⟨g, i, none⟩ = false := by
  obtain ⟨cs, h1, h2⟩ := h
  exact frozen_of_row w g i cs t h1
theorem off_cell {w w' : World} {g i : Nat} {X : Nat → Prop} (u : Off X w w') (hg : g < w.heap.size) (e : ¬X g) : w'.cell? ⟨g, i, none⟩ = w.cell? ⟨g, i, none⟩ :=
  World.cell?_of_block (w := w) (u.2 g hg e)
theorem set_cell_ne {w : World} {b o g i : Nat} {u : Value} (h : i ≠ o) : (w.setCell ⟨b, o, none⟩ u).cell? ⟨g, i, none⟩ = w.cell? ⟨g, i, none⟩ := by
  by_cases e : g = b
  · subst e
    cases hh : w.heap[g]? with
    | none => simp [World.cell?, World.setCell, Array.getElem?_modify, hh]
    | some ob => cases ob <;> simp [World.cell?, World.setCell, Array.getElem?_modify, hh, Array.getElem?_setIfInBounds, Ne.symm h]
  · exact World.cell?_of_block (w := w) (heap_setCell_other w ⟨b, o, none⟩ g u e)
/-- Texts that may be written over. -/
def AltW (B C : Nat) (w : World) (a : Option Addr) (m : Nat) : Prop := m = 0 ∨ ∃ g o n, a = some ⟨g, o, none⟩ ∧ B ≤ g ∧ g < C ∧ Blk w g 9 n ∧ o + m ≤ n
theorem AltW.set {B C m : Nat} {w : World} {a : Option Addr} (h : AltW B C w a m) (b o : Nat) (u : Value) : AltW B C (w.setCell ⟨b, o, none⟩ u) a m := by
  rcases h with h | ⟨g, o', n, rfl, h1, h2, h3, h4⟩
  · exact .inl h
  · exact .inr ⟨g, o', n, rfl, h1, h2, h3.set b o u, h4⟩
theorem AltW.off {B C m : Nat} {X : Nat → Prop} {w w' : World} {a : Option Addr} {t : TypeId} (h : AltW B C w a m) (u : Off X w w') (hx : ∀ k, X k → ∃ n, Blk w k t n) (ht : 9 ≠ t) : AltW B C w' a m := by
  rcases h with h | ⟨g, o', n, rfl, h1, h2, h3, h4⟩
  · exact .inl h
  · exact .inr ⟨g, o', n, rfl, h1, h2, h3.off u (fun q => by obtain ⟨n, hn⟩ := hx _ q; exact h3.ne hn ht rfl), h4⟩
/-- A node's row that may be written over; from the k-th piece on its texts too. -/
def RowG (B C : Nat) (w : World) (v : Value) (m k : Nat) : Prop := (m = 0 ∧ v = .slice none 0 0) ∨ ∃ g c, v = .slice (some ⟨g, 0, none⟩) m c ∧ B ≤ g ∧ g < C ∧ Blk w g 34 (c * 3) ∧ m ≤ c ∧ c ≤ maxLen ∧
  ∀ j, k ≤ j → j < m → ∃ a l d, l ≤ 16 ∧ w.cell? ⟨g, j * 3 + 2, none⟩ = some (.slice a l d) ∧ AltW B C w a l
theorem RowG.str {B C m k x o n : Nat} {w : World} {v : Value} (h : RowG B C w v m k) (hx : Blk w x 9 n) (u : Value) : RowG B C (w.setCell ⟨x, o, none⟩ u) v m k := by
  rcases h with h | ⟨g, c, rfl, h1, h2, h3, h4, h5, h6⟩
  · exact .inl h
  · refine .inr ⟨g, c, rfl, h1, h2, h3.set _ _ _, h4, h5, fun j hk hm => ?_⟩
    obtain ⟨a, l, d, q0, q1, q2⟩ := h6 j hk hm
    exact ⟨a, l, d, q0, (off_cell (Off.set w x o u) h3.lt (h3.ne hx (by decide))).trans q1, q2.set _ _ _⟩
theorem RowG.off {B C m k : Nat} {X : Nat → Prop} {w w' : World} {v : Value} {t : TypeId} (h : RowG B C w v m k) (hu : Off X w w') (hx : ∀ k, X k → ∃ n, Blk w k t n) (ht : 9 ≠ t) (hv : ∀ k, v.ownBlock = some k → ¬X k) : RowG B C w' v m k := by
  rcases h with h | ⟨g, c, rfl, h1, h2, h3, h4, h5, h6⟩
  · exact .inl h
  · have e : ¬X g := hv g rfl
    refine .inr ⟨g, c, rfl, h1, h2, h3.off hu e, h4, h5, fun j hk hm => ?_⟩
    obtain ⟨a, l, d, q0, q1, q2⟩ := h6 j hk hm
    exact ⟨a, l, d, q0, (off_cell hu h3.lt e).trans q1, q2.off hu hx ht⟩
theorem RowG.next {B C m k k' : Nat} {w : World} {v : Value} (h : RowG B C w v m k) (hk : k ≤ k') : RowG B C w v m k' := by
  rcases h with h | ⟨g, c, rfl, h1, h2, h3, h4, h5, h6⟩
  · exact .inl h
  · exact .inr ⟨g, c, rfl, h1, h2, h3, h4, h5, fun j q hm => h6 j (Nat.le_trans hk q) hm⟩
/-- A piece of its own row is written. -/
theorem RowG.mine {B C m k g o c : Nat} {w : World} (h : RowG B C w (.slice (some ⟨g, 0, none⟩) m c) m k) (ho : o < k * 3 + 2) (u : Value) : RowG B C (w.setCell ⟨g, o, none⟩ u) (.slice (some ⟨g, 0, none⟩) m c) m k := by
  rcases h with ⟨_, h⟩ | ⟨g', c', e, h1, h2, h3, h4, h5, h6⟩
  · cases h
  · injection e with e1 _ e3
    injection e1 with e1
    injection e1 with e1
    subst e1 e3
    refine .inr ⟨g, c, rfl, h1, h2, h3.set _ _ _, h4, h5, fun j hk hm => ?_⟩
    obtain ⟨a, l, d, q0, q1, q2⟩ := h6 j hk hm
    exact ⟨a, l, d, q0, (set_cell_ne (by have := Nat.mul_le_mul_right 3 hk; omega)).trans q1, q2.set _ _ _⟩
theorem RowG.owns {B C m k : Nat} {w : World} {v : Value} (h : RowG B C w v m k) : ∃ xs, w.ownsRow B 34 3 v m xs := by
  rcases h with ⟨rfl, rfl⟩ | ⟨g, c, rfl, h1, h2, ⟨cs, h3, h3'⟩, h4, h5, h6⟩
  · exact ⟨[], World.ownsRow_nil _ _ _ _⟩
  · refine ⟨cs.toList.take (m * 3), ?_, .inr ⟨g, c, cs, rfl, h1, h3, h4, h5, h3', rfl⟩⟩
    rw [List.length_take, Array.length_toList, h3']; have := Nat.mul_le_mul_right 3 h4; omega
theorem TyT.altW {B C : Nat} {w : World} {a : Option Addr} {ps : List ByteArray} (h : TyT B w a ps) (hC : w.heap.size ≤ C) : AltW B C w a ps.length := by
  by_cases e : ps.length = 0
  · exact .inl e
  rcases h with rfl | ⟨g, o, cs, rfl, hb, hh, hc⟩
  · exact .inl rfl
  · have := blk_lt hh
    have h2 := (Array.getElem?_eq_some_iff.1 (hc (ps.length - 1) (by omega))).1
    exact .inr ⟨g, o, cs.size, rfl, hb, by omega, ⟨cs, hh, rfl⟩, by omega⟩
theorem OwnG.rowG {B C : Nat} {w : World} {v : Value} {gs : List Gl} (h : OwnG B w v gs) (hC : w.heap.size ≤ C) (ha : ∀ g ∈ gs, g.al.length ≤ 16) : RowG B C w v gs.length 0 := by
  obtain ⟨xs, ⟨hl, ⟨rfl, hn⟩ | ⟨g, cap, cur, rfl, hb, hh, hnc, hcm, hs, ht⟩⟩, hc⟩ := h.own
  · exact .inl ⟨hn, rfl⟩
  · have lt := blk_lt hh
    refine .inr ⟨g, cap, rfl, hb, by omega, ⟨cur, hh, hs⟩, hnc, hcm, fun j _ hm => ?_⟩
    obtain ⟨_, _, a, d, h3, h4, _⟩ := hc j hm
    refine ⟨a, _, d, ha _ (List.getElem_mem hm), ?_, h4.altW hC⟩
    rw [cell_of_row w g _ cur _ _ hh]
    simp only at h3
    rw [← ht, List.getElem?_take] at h3
    split at h3
    · simpa using h3
    · cases h3
/-- A pattern's rows that may be written over, from the i-th on; its block is g. -/
def PatW (B C : Nat) (w : World) (g c n i : Nat) (fv : Nat → Value) (fm : Nat → Nat) : Prop :=
  Blk w g 31 c ∧ B ≤ g ∧ g < C ∧ n ≤ c ∧ ∀ j, i ≤ j → j < n → w.cell? ⟨g, j, none⟩ = some (fv j) ∧ RowG B C w (fv j) (fm j) 0
theorem PatW.next {B C g c n i : Nat} {w : World} {fv : Nat → Value} {fm : Nat → Nat} (h : PatW B C w g c n i fv fm) : PatW B C w g c n (i + 1) fv fm :=
  ⟨h.1, h.2.1, h.2.2.1, h.2.2.2.1, fun j hi hj => h.2.2.2.2 j (by omega) hj⟩
theorem PatW.str {B C g c n i x o m : Nat} {w : World} {fv : Nat → Value} {fm : Nat → Nat} (h : PatW B C w g c n i fv fm) (hx : Blk w x 9 m) (u : Value) : PatW B C (w.setCell ⟨x, o, none⟩ u) g c n i fv fm :=
  ⟨h.1.set _ _ _, h.2.1, h.2.2.1, h.2.2.2.1, fun j hi hj => ⟨(off_cell (Off.set w x o u) h.1.lt (h.1.ne hx (by decide))).trans (h.2.2.2.2 j hi hj).1, (h.2.2.2.2 j hi hj).2.str hx u⟩⟩
theorem PatW.off {B C g c n i : Nat} {X : Nat → Prop} {w w' : World} {fv : Nat → Value} {fm : Nat → Nat} (h : PatW B C w g c n i fv fm) (hu : Off X w w') (hx : ∀ k, X k → ∃ n, Blk w k 34 n) (hv : ∀ j, i ≤ j → j < n → ∀ k, (fv j).ownBlock = some k → ¬X k) : PatW B C w' g c n i fv fm :=
  have ng : ¬X g := fun q => by obtain ⟨m, hm⟩ := hx _ q; exact h.1.ne hm (by decide) rfl
  ⟨h.1.off hu ng, h.2.1, h.2.2.1, h.2.2.2.1, fun j hi hj => ⟨(off_cell hu h.1.lt ng).trans (h.2.2.2.2 j hi hj).1, (h.2.2.2.2 j hi hj).2.off hu hx (by decide) (hv j hi hj)⟩⟩
/-- One node's list is put in its place. -/
theorem PatW.node {B C g c n i o : Nat} {w : World} {fv : Nat → Value} {fm : Nat → Nat} (h : PatW B C w g c n i fv fm) (ho : o < i) (hv : ∀ j, i ≤ j → j < n → (fv j).ownBlock ≠ some g) (u : Value) : PatW B C (w.setCell ⟨g, o, none⟩ u) g c n i fv fm :=
  ⟨h.1.set _ _ _, h.2.1, h.2.2.1, h.2.2.2.1, fun j hi hj => ⟨(set_cell_ne (by omega)).trans (h.2.2.2.2 j hi hj).1, (h.2.2.2.2 j hi hj).2.off (Off.set w g o u) (fun k (q : k = g) => by subst q; exact ⟨c, h.1⟩) (by decide) (fun k hk (q : k = g) => hv j hi hj (by rw [hk, q]))⟩⟩
theorem PatW.nodes {B C g c n i : Nat} {w : World} {fv : Nat → Value} {fm : Nat → Nat} (h : PatW B C w g c n i fv fm) : ∀ j, i ≤ j → j < n → (fv j).ownBlock ≠ some g := by
  intro j hi hj e
  rcases (h.2.2.2.2 j hi hj).2 with ⟨_, h2⟩ | ⟨g', c', h2, _, _, h3, _⟩
  · rw [h2] at e; cases e
  · rw [h2] at e
    have : g' = g := by simpa [Value.ownBlock] using e
    subst this
    exact h3.ne h.1 (by decide) rfl
/-- What was made above the block that is written. -/
theorem TyT.off {B : Nat} {X : Nat → Prop} {w w' : World} {a : Option Addr} {ps : List ByteArray} (h : TyT B w a ps) (u : Off X w w') (hx : ∀ k, X k → k < B) : TyT B w' a ps := by
  rcases h with h | ⟨g, o, cs, rfl, hb, hh, hc⟩
  · exact .inl h
  · exact .inr ⟨g, o, cs, rfl, hb, (u.2 g (blk_lt hh) (fun q => by have := hx g q; omega)).trans hh, hc⟩
theorem TyG.off {B : Nat} {X : Nat → Prop} {w w' : World} {a : Option Addr} {gs : List Gl} (h : TyG B w a gs) (u : Off X w w') (hx : ∀ k, X k → k < B) : TyG B w' a gs := by
  rcases h with h | ⟨g, o, cs, fr, rfl, hb, hh, hc⟩
  · exact .inl h
  · exact .inr ⟨g, o, cs, fr, rfl, hb, (u.2 g (blk_lt hh) (fun q => by have := hx g q; omega)).trans hh, fun j hj => by
      obtain ⟨h1, h2, b, c, h3, h4, h5⟩ := hc j hj
      exact ⟨h1, h2, b, c, h3, h4.off u hx, h5⟩⟩
theorem TyN.off {B : Nat} {X : Nat → Prop} {w w' : World} {a : Option Addr} {p : List (List Gl)} (h : TyN B w a p) (u : Off X w w') (hx : ∀ k, X k → k < B) : TyN B w' a p := by
  rcases h with h | ⟨g, o, cs, fr, rfl, hb, hh, hc⟩
  · exact .inl h
  · exact .inr ⟨g, o, cs, fr, rfl, hb, (u.2 g (blk_lt hh) (fun q => by have := hx g q; omega)).trans hh, fun j hj => by
      obtain ⟨b, c, h3, h4, h5⟩ := hc j hj
      exact ⟨b, c, h3, h4.off u hx, h5⟩⟩
/-- A pattern that was made may be written over. -/
theorem OwnM.patW {B D C : Nat} {w : World} {v : Value} {p : List (List Gl)} (h : OwnM B D w v p) (hC : w.heap.size ≤ C) (ha : ∀ l ∈ p, ∀ g ∈ l, g.al.length ≤ 16) : ∃ a c, v = .slice a p.length c ∧ ∃ (fv : Nat → Value) (fm : Nat → Nat), (∀ j, fm j ≤ 400) ∧
    (∀ i j k, i < j → j < p.length → (fv i).ownBlock = some k → (fv j).ownBlock ≠ some k) ∧ (p.length = 0 ∨ ∃ g, a = some ⟨g, 0, none⟩ ∧ PatW B C w g c p.length 0 fv fm) := by
  obtain ⟨xs, ⟨hl, ho⟩, ⟨hm, hs⟩⟩ := h.own
  have gx : ∀ j u, xs[j]? = some u → xs.getD j (.bool false) = u := fun j u e => by rw [List.getD_eq_getElem?_getD, e]; rfl
  have gp : ∀ j (h : j < p.length), (p.getD j []).length = p[j].length := fun j h => by rw [List.getD_eq_getElem?_getD, List.getElem?_eq_getElem h]; rfl
  have F4 : ∀ j, (p.getD j []).length ≤ 400 := fun j => by
    by_cases e : j < p.length
    · rw [gp j e]; obtain ⟨_, _, _, q, _⟩ := hm j e; exact q
    · rw [List.getD_eq_getElem?_getD, List.getElem?_eq_none (by omega)]; simp
  have FA : ∀ i j k, i < j → j < p.length → (xs.getD i (.bool false)).ownBlock = some k → (xs.getD j (.bool false)).ownBlock ≠ some k := by
    intro i j k hij hj h1 h2
    obtain ⟨u, q1, _⟩ := hm i (by omega)
    obtain ⟨v, q2, _⟩ := hm j hj
    rw [gx i u q1] at h1
    rw [gx j v q2] at h2
    exact Nat.lt_irrefl _ (hs i j u v k k hij q1 q2 h1 h2)
  rcases ho with ⟨rfl, hn⟩ | ⟨g, cap, cur, rfl, hb, hh, hnc, hcm, hsz, ht⟩
  · exact ⟨none, 0, by rw [hn], fun j => xs.getD j (.bool false), fun j => (p.getD j []).length, F4, FA, .inl hn⟩
  · have lt := blk_lt hh
    refine ⟨_, cap, rfl, fun j => xs.getD j (.bool false), fun j => (p.getD j []).length, F4, FA, .inr ⟨g, rfl, ⟨cur, hh, by omega⟩, hb, by omega, hnc, fun j _ hj => ?_⟩⟩
    obtain ⟨u, q1, q2, _, _⟩ := hm j hj
    simp only
    rw [gx j u q1, gp j hj]
    refine ⟨?_, q2.rowG hC (ha _ (List.getElem_mem hj))⟩
    rw [cell_of_row w g j cur _ _ hh]
    have := q1
    rw [← ht, List.getElem?_take] at this
    split at this
    · simpa using this
    · cases this
end Go.Proofs.YtagahoelojfhcaaDoor
