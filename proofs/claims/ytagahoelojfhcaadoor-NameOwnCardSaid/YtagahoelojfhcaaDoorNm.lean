/- name: patterns as they lie in memory. -/
import Derived.Test.YtagahoelojfhcaaDoorNp
import Derived.Test.YtagahoelojfhcaaDoorUpd
namespace Go.Proofs.YtagahoelojfhcaaDoor
set_option linter.unusedVariables false
set_option linter.unusedSimpArgs false
open Go.RowKit W
theorem Upd.grown_new {B : Nat} {T : List TypeId} {a b c : World} {row : Option Nat} (h : Upd B T a b) (g : b.grownBy c row) (hr : ∀ k, row = some k → a.heap.size ≤ k) : Upd B T a c :=
  ⟨g.os.trans h.os, g.tape.trans h.tape, g.output.trans h.output, Nat.le_trans h.size g.size, fun k hk hc => by
    refine (g.block k (Nat.lt_of_lt_of_le hk h.size) fun e => ?_).trans (h.block k hk hc)
    have := hr k e.symm
    omega⟩
/-- What one append does: only the row's block. -/
theorem Upd.of_grown {base size n : Nat} {b c : World} {e : TypeId} {v : Value} {xs : List Value} (ho : b.ownsRow base e size v n xs) (g : b.grownBy c v.ownBlock) : Upd base [e] b c :=
  (Upd.refl _ _ _).grown g fun k hk => by
    obtain ⟨h1, cs, h2⟩ := own_blk ho hk
    exact ⟨h1, cs, e, (0, 0), h2, List.mem_singleton.2 rfl⟩
/-- Texts in a block of their own kind, none below B. -/
def TyT (B : Nat) (w : World) (a : Option Addr) (ps : List ByteArray) : Prop :=
  ps = [] ∨ ∃ g o cs, a = some ⟨g, o, none⟩ ∧ B ≤ g ∧ w.heap[g]? = some (.cells cs 9 (0, 0)) ∧ ∀ j (h : j < ps.length), cs[o + j]? = some (.string ps[j])
theorem TyT.upd {B C : Nat} {T : List TypeId} {w w' : World} {a : Option Addr} {ps : List ByteArray} (h : TyT B w a ps) (u : Upd C T w w') (ht : 9 ∉ T) : TyT B w' a ps := by
  rcases h with h | ⟨g, o, cs, rfl, hb, hh, hc⟩
  · exact .inl h
  · exact .inr ⟨g, o, cs, rfl, hb, u.blk hh ht, hc⟩
theorem TyT.later {B : Nat} {w w' : World} {a : Option Addr} {ps : List ByteArray} (h : TyT B w a ps) (u : Below w.heap.size w w') : TyT B w' a ps := h.upd (Upd.of_below (B := 0) (T := []) u) (by simp)
theorem TyT.less {B C : Nat} {w : World} {a : Option Addr} {ps : List ByteArray} (h : TyT B w a ps) (hC : C ≤ B) : TyT C w a ps := by
  rcases h with h | ⟨g, o, cs, rfl, hb, r⟩
  · exact .inl h
  · exact .inr ⟨g, o, cs, rfl, by omega, r⟩
theorem TyT.is {B : Nat} {w : World} {a : Option Addr} {ps : List ByteArray} (h : TyT B w a ps) : IsTxts w a ps := by
  rcases h with h | ⟨g, o, cs, rfl, hb, hh, hc⟩
  · exact .inl h
  · exact .inr ⟨g, o, rfl, ⟨fun j hj => (cell_of_row w g (o + j) cs _ (0, 0) hh).trans (hc j hj), blk_lt hh⟩⟩
/-- A list of texts of one's own, done. -/
theorem tyT_of_own {B n : Nat} {w : World} {v : Value} {ps : List ByteArray} (h : w.ownsRow B 9 1 v n (ps.map Value.string)) (hn : ps.length = n) : ∃ a c, v = .slice a n c ∧ TyT B w a ps ∧ n ≤ c := by
  obtain ⟨hl, ⟨rfl, rfl⟩ | ⟨g, cap, cur, rfl, hb, hh, hnc, hcm, hs, ht⟩⟩ := h
  · exact ⟨none, 0, rfl, .inl (List.length_eq_zero_iff.1 hn), Nat.le_refl _⟩
  · refine ⟨_, _, rfl, .inr ⟨g, 0, cur, rfl, hb, hh, fun j hj => ?_⟩, hnc⟩
    have : (ps.map Value.string)[j]? = some (.string ps[j]) := by rw [List.getElem?_map, List.getElem?_eq_getElem hj]; rfl
    rw [← ht, List.getElem?_take] at this
    split at this
    · rw [Nat.zero_add]; simpa using this
    · cases this
/-- Pieces, by the cells that f gives. -/
def GCells (B : Nat) (w : World) (f : Nat → Option Value) (gs : List Gl) : Prop :=
  ∀ j (h : j < gs.length), f (j * 3) = some (.int .i64 gs[j].k) ∧ f (j * 3 + 1) = some (.string gs[j].t) ∧ ∃ b c, f (j * 3 + 2) = some (.slice b gs[j].al.length c) ∧ TyT B w b gs[j].al ∧ gs[j].al.length ≤ c
theorem GCells.upd {B C : Nat} {T : List TypeId} {w w' : World} {f : Nat → Option Value} {gs : List Gl} (h : GCells B w f gs) (u : Upd C T w w') (ht : 9 ∉ T) : GCells B w' f gs := fun j hj => by
  obtain ⟨h1, h2, b, c, h3, h4, h5⟩ := h j hj
  exact ⟨h1, h2, b, c, h3, h4.upd u ht, h5⟩
def TyG (B : Nat) (w : World) (a : Option Addr) (gs : List Gl) : Prop :=
  gs = [] ∨ ∃ g o cs fr, a = some ⟨g, o, none⟩ ∧ B ≤ g ∧ w.heap[g]? = some (.cells cs 34 fr) ∧ GCells B w (fun i => cs[o + i]?) gs
theorem TyG.upd {B C : Nat} {T : List TypeId} {w w' : World} {a : Option Addr} {gs : List Gl} (h : TyG B w a gs) (u : Upd C T w w') (ht : 9 ∉ T) (hg : 34 ∉ T) : TyG B w' a gs := by
  rcases h with h | ⟨g, o, cs, fr, rfl, hb, hh, hc⟩
  · exact .inl h
  · exact .inr ⟨g, o, cs, fr, rfl, hb, u.blk hh hg, hc.upd u ht⟩
theorem TyG.later {B : Nat} {w w' : World} {a : Option Addr} {gs : List Gl} (h : TyG B w a gs) (u : Below w.heap.size w w') : TyG B w' a gs := h.upd (Upd.of_below (B := 0) (T := []) u) (by simp) (by simp)
/-- A node that is being made. -/
structure OwnG (B : Nat) (w : World) (v : Value) (gs : List Gl) : Prop where
  own : ∃ xs, w.ownsRow B 34 3 v gs.length xs ∧ GCells B w (fun i => xs[i]?) gs
theorem OwnG.none_ (B : Nat) (w : World) : OwnG B w (.slice none 0 0) [] := ⟨[], World.ownsRow_nil _ _ _ _, fun j h => absurd h (by simp)⟩
theorem OwnG.upd {B C : Nat} {T : List TypeId} {w w' : World} {v : Value} {gs : List Gl} (h : OwnG B w v gs) (u : Upd C T w w') (ht : 9 ∉ T) (hg : 34 ∉ T) : OwnG B w' v gs := by
  obtain ⟨xs, h1, h2⟩ := h.own
  exact ⟨xs, u.row h1 hg, h2.upd u ht⟩
theorem OwnG.later {B : Nat} {w w' : World} {v : Value} {gs : List Gl} (h : OwnG B w v gs) (u : Below w.heap.size w w') : OwnG B w' v gs := h.upd (Upd.of_below (B := 0) (T := []) u) (by simp) (by simp)
theorem OwnG.done {B : Nat} {w : World} {v : Value} {gs : List Gl} (h : OwnG B w v gs) : ∃ a c, v = .slice a gs.length c ∧ TyG B w a gs ∧ gs.length ≤ c := by
  obtain ⟨xs, ⟨hl, ⟨rfl, hn⟩ | ⟨g, cap, cur, rfl, hb, hh, hnc, hcm, hs, ht⟩⟩, hc⟩ := h.own
  · exact ⟨none, 0, by rw [hn], .inl (List.length_eq_zero_iff.1 hn), by omega⟩
  · refine ⟨_, _, rfl, .inr ⟨g, 0, cur, (0, 0), rfl, hb, hh, fun j hj => ?_⟩, hnc⟩
    have aux : ∀ (i : Nat) (u : Value), xs[i]? = some u → cur[0 + i]? = some u := by
      intro i u hu
      rw [← ht, List.getElem?_take] at hu
      split at hu
      · rw [Nat.zero_add]; simpa using hu
      · cases hu
    obtain ⟨h1, h2, b, c, h3, h4, h5⟩ := hc j hj
    exact ⟨aux _ _ h1, aux _ _ h2, b, c, aux _ _ h3, h4, h5⟩
/-- A piece as a value. -/
def GVal (B : Nat) (w : World) (v : Value) (g : Gl) : Prop := ∃ b c, v = .agg #[.int .i64 g.k, .string g.t, .slice b g.al.length c] ∧ TyT B w b g.al ∧ g.al.length ≤ c
theorem OwnG.more {B : Nat} {w w' : World} {v v' : Value} {gs : List Gl} {g : Gl} {b : Option Addr} {c : Nat} {xs : List Value} (hc : GCells B w (fun i => xs[i]?) gs) (hl : xs.length = gs.length * 3) (u : Upd B [34] w w') (tb : TyT B w b g.al) (tc : g.al.length ≤ c)
    (hown : w'.ownsRow B 34 3 v' (gs.length + 1) (xs ++ [.int .i64 g.k, .string g.t, .slice b g.al.length c])) : OwnG B w' v' (gs ++ [g]) := by
  refine ⟨_, by simpa using hown, fun j hj => ?_⟩
  have ht : 9 ∉ [34] := by decide
  by_cases e : j < gs.length
  · obtain ⟨h1, h2, p, q, h3, h4, h5⟩ := hc j e
    simp only [List.getElem_append_left e]
    exact ⟨by rw [List.getElem?_append_left (by omega)]; exact h1, by rw [List.getElem?_append_left (by omega)]; exact h2, p, q, by rw [List.getElem?_append_left (by omega)]; exact h3, h4.upd u ht, h5⟩
  · obtain rfl : j = gs.length := by simp at hj; omega
    have e1 : (gs ++ [g])[gs.length] = g := by simp
    simp only [e1]
    exact ⟨by rw [List.getElem?_append_right (by omega), hl, Nat.sub_self]; rfl, by rw [List.getElem?_append_right (by omega), hl, Nat.add_sub_cancel_left]; rfl, b, c, by rw [List.getElem?_append_right (by omega), hl, Nat.add_sub_cancel_left]; rfl, tb.upd u ht, tc⟩
/-- Nodes, by the cells that f gives. -/
def NCells (B : Nat) (w : World) (f : Nat → Option Value) (p : List (List Gl)) : Prop :=
  ∀ j (h : j < p.length), ∃ b c, f j = some (.slice b p[j].length c) ∧ TyG B w b p[j] ∧ p[j].length ≤ c
theorem NCells.upd {B C : Nat} {T : List TypeId} {w w' : World} {f : Nat → Option Value} {p : List (List Gl)} (h : NCells B w f p) (u : Upd C T w w') (ht : 9 ∉ T) (hg : 34 ∉ T) : NCells B w' f p := fun j hj => by
  obtain ⟨b, c, h3, h4, h5⟩ := h j hj
  exact ⟨b, c, h3, h4.upd u ht hg, h5⟩
def TyN (B : Nat) (w : World) (a : Option Addr) (p : List (List Gl)) : Prop :=
  p = [] ∨ ∃ g o cs fr, a = some ⟨g, o, none⟩ ∧ B ≤ g ∧ w.heap[g]? = some (.cells cs 31 fr) ∧ NCells B w (fun i => cs[o + i]?) p
theorem TyN.upd {B C : Nat} {T : List TypeId} {w w' : World} {a : Option Addr} {p : List (List Gl)} (h : TyN B w a p) (u : Upd C T w w') (ht : 9 ∉ T) (hg : 34 ∉ T) (hn : 31 ∉ T) : TyN B w' a p := by
  rcases h with h | ⟨g, o, cs, fr, rfl, hb, hh, hc⟩
  · exact .inl h
  · exact .inr ⟨g, o, cs, fr, rfl, hb, u.blk hh hn, hc.upd u ht hg⟩
theorem TyN.later {B : Nat} {w w' : World} {a : Option Addr} {p : List (List Gl)} (h : TyN B w a p) (u : Below w.heap.size w w') : TyN B w' a p := h.upd (Upd.of_below (B := 0) (T := []) u) (by simp) (by simp) (by simp)
/-- A pattern that is being made. -/
structure OwnN (B : Nat) (w : World) (v : Value) (p : List (List Gl)) : Prop where
  own : ∃ xs, w.ownsRow B 31 1 v p.length xs ∧ NCells B w (fun i => xs[i]?) p
theorem OwnN.none_ (B : Nat) (w : World) : OwnN B w (.slice none 0 0) [] := ⟨[], World.ownsRow_nil _ _ _ _, fun j h => absurd h (by simp)⟩
theorem OwnN.upd {B C : Nat} {T : List TypeId} {w w' : World} {v : Value} {p : List (List Gl)} (h : OwnN B w v p) (u : Upd C T w w') (ht : 9 ∉ T) (hg : 34 ∉ T) (hn : 31 ∉ T) : OwnN B w' v p := by
  obtain ⟨xs, h1, h2⟩ := h.own
  exact ⟨xs, u.row h1 hn, h2.upd u ht hg⟩
theorem OwnN.later {B : Nat} {w w' : World} {v : Value} {p : List (List Gl)} (h : OwnN B w v p) (u : Below w.heap.size w w') : OwnN B w' v p := h.upd (Upd.of_below (B := 0) (T := []) u) (by simp) (by simp) (by simp)
theorem OwnN.done {B : Nat} {w : World} {v : Value} {p : List (List Gl)} (h : OwnN B w v p) : ∃ a c, v = .slice a p.length c ∧ TyN B w a p ∧ p.length ≤ c := by
  obtain ⟨xs, ⟨hl, ⟨rfl, hn⟩ | ⟨g, cap, cur, rfl, hb, hh, hnc, hcm, hs, ht⟩⟩, hc⟩ := h.own
  · exact ⟨none, 0, by rw [hn], .inl (List.length_eq_zero_iff.1 hn), by omega⟩
  · refine ⟨_, _, rfl, .inr ⟨g, 0, cur, (0, 0), rfl, hb, hh, fun j hj => ?_⟩, hnc⟩
    obtain ⟨b, c, h3, h4, h5⟩ := hc j hj
    refine ⟨b, c, ?_, h4, h5⟩
    simp only at h3
    rw [← ht, List.getElem?_take] at h3
    split at h3
    · show cur[0 + j]? = _; rw [Nat.zero_add]; simpa using h3
    · cases h3
theorem OwnN.more {B : Nat} {w w' : World} {v' : Value} {p : List (List Gl)} {l : List Gl} {b : Option Addr} {c : Nat} {xs : List Value} (hc : NCells B w (fun i => xs[i]?) p) (hl : xs.length = p.length) (u : Upd B [31] w w') (tb : TyG B w b l) (tc : l.length ≤ c)
    (hown : w'.ownsRow B 31 1 v' (p.length + 1) (xs ++ [.slice b l.length c])) : OwnN B w' v' (p ++ [l]) := by
  refine ⟨_, by simpa using hown, fun j hj => ?_⟩
  have ht : 9 ∉ [31] := by decide
  have hg : 34 ∉ [31] := by decide
  by_cases e : j < p.length
  · obtain ⟨q, z, h3, h4, h5⟩ := hc j e
    simp only [List.getElem_append_left e]
    exact ⟨q, z, by rw [List.getElem?_append_left (by omega)]; exact h3, h4.upd u ht hg, h5⟩
  · obtain rfl : j = p.length := by simp at hj; omega
    have e1 : (p ++ [l])[p.length] = l := by simp
    simp only [e1]
    exact ⟨b, c, by rw [List.getElem?_append_right (by omega), hl, Nat.sub_self]; rfl, tb.upd u ht hg, tc⟩
end Go.Proofs.YtagahoelojfhcaaDoor
