/- name: patterns whose lists are all one's own. -/
import Derived.Test.YtagahoelojfhcaaDoorNco
namespace Go.Proofs.YtagahoelojfhcaaDoor
set_option linter.unusedVariables false
set_option linter.unusedSimpArgs false
open Go.RowKit W
theorem own_mono {w : World} {base base' size n : Nat} {e : TypeId} {v : Value} {xs : List Value} (h : w.ownsRow base e size v n xs) (hb : base' ≤ base) : w.ownsRow base' e size v n xs :=
  ⟨h.1, h.2.imp id fun ⟨g, cap, cur, a, b, c⟩ => ⟨g, cap, cur, a, Nat.le_trans hb b, c⟩⟩
theorem OwnG.less {B C : Nat} {w : World} {v : Value} {gs : List Gl} (h : OwnG C w v gs) (hB : B ≤ C) : OwnG B w v gs := by
  obtain ⟨xs, h1, h2⟩ := h.own
  exact ⟨xs, own_mono h1 hB, fun j hj => by
    obtain ⟨a1, a2, b, c, a3, a4, a5⟩ := h2 j hj
    exact ⟨a1, a2, b, c, a3, a4.less hB, a5⟩⟩
/-- Nodes' rows: each one's own, all below D, each above those ahead of it. -/
structure MCells (B D : Nat) (w : World) (xs : List Value) (p : List (List Gl)) : Prop where
  at_ : ∀ j (h : j < p.length), ∃ u : Value, xs[j]? = some u ∧ OwnG B w u p[j] ∧ p[j].length ≤ 400 ∧ ∀ k, u.ownBlock = some k → k < D
  sep : ∀ (i j : Nat) (u v : Value) (k l : Nat), i < j → xs[i]? = some u → xs[j]? = some v → u.ownBlock = some k → v.ownBlock = some l → k < l
structure OwnM (B D : Nat) (w : World) (v : Value) (p : List (List Gl)) : Prop where
  own : ∃ xs, w.ownsRow B 31 1 v p.length xs ∧ MCells B D w xs p
theorem OwnM.none_ (B D : Nat) (w : World) : OwnM B D w (.slice none 0 0) [] :=
  ⟨[], World.ownsRow_nil _ _ _ _, ⟨fun j h => absurd h (by simp), fun i j u v k l _ h => by simp at h⟩⟩
theorem MCells.upd {B D C : Nat} {T : List TypeId} {w w' : World} {xs : List Value} {p : List (List Gl)} (h : MCells B D w xs p) (u : Upd C T w w') (ht : 9 ∉ T) (hg : 34 ∉ T) : MCells B D w' xs p :=
  ⟨fun j hj => by
    obtain ⟨v, h1, h2, h3, h4⟩ := h.at_ j hj
    exact ⟨v, h1, h2.upd u ht hg, h3, h4⟩, h.sep⟩
theorem OwnM.upd {B D C : Nat} {T : List TypeId} {w w' : World} {v : Value} {p : List (List Gl)} (h : OwnM B D w v p) (u : Upd C T w w') (ht : 9 ∉ T) (hg : 34 ∉ T) (hn : 31 ∉ T) : OwnM B D w' v p := by
  obtain ⟨xs, h1, h2⟩ := h.own
  exact ⟨xs, u.row h1 hn, h2.upd u ht hg⟩
theorem OwnM.later {B D : Nat} {w w' : World} {v : Value} {p : List (List Gl)} (h : OwnM B D w v p) (u : Below w.heap.size w w') : OwnM B D w' v p := h.upd (Upd.of_below (B := 0) (T := []) u) (by simp) (by simp) (by simp)
theorem OwnM.up {B D E : Nat} {w : World} {v : Value} {p : List (List Gl)} (h : OwnM B D w v p) (hD : D ≤ E) : OwnM B E w v p := by
  obtain ⟨xs, h1, ⟨h2, h3⟩⟩ := h.own
  exact ⟨xs, h1, ⟨fun j hj => by
    obtain ⟨v, q1, q2, q3, q4⟩ := h2 j hj
    exact ⟨v, q1, q2, q3, fun k hk => Nat.lt_of_lt_of_le (q4 k hk) hD⟩, h3⟩⟩
theorem OwnM.more {B C D : Nat} {w w' : World} {v' u : Value} {p : List (List Gl)} {l : List Gl} {xs : List Value} (hc : MCells B C w xs p) (hl : xs.length = p.length) (U : Upd B [31] w w') (og : OwnG C w u l) (hBC : B ≤ C) (l4 : l.length ≤ 400) (hD : w.heap.size ≤ D) (hCD : C ≤ D)
    (hown : w'.ownsRow B 31 1 v' (p.length + 1) (xs ++ [u])) : OwnM B D w' v' (p ++ [l]) := by
  have ht : 9 ∉ [31] := by decide
  have hg : 34 ∉ [31] := by decide
  have hk : ∀ k, u.ownBlock = some k → C ≤ k ∧ k < w.heap.size := fun k e => by
    obtain ⟨ys, h1, _⟩ := og.own
    exact h1.lt k e
  refine ⟨xs ++ [u], by simpa using hown, ⟨fun j hj => ?_, fun i j a b k m hij ha hb hka hkb => ?_⟩⟩
  · by_cases e : j < p.length
    · obtain ⟨v, h1, h2, h3, h4⟩ := hc.at_ j e
      simp only [List.getElem_append_left e]
      exact ⟨v, by rw [List.getElem?_append_left (by omega)]; exact h1, h2.upd U ht hg, h3, fun k hk => by have := h4 k hk; omega⟩
    · obtain rfl : j = p.length := by simp at hj; omega
      have e1 : (p ++ [l])[p.length] = l := by simp
      simp only [e1]
      exact ⟨u, by rw [List.getElem?_append_right (by omega), hl, Nat.sub_self]; rfl, (og.less hBC).upd U ht hg, l4, fun k e => by have := hk k e; omega⟩
  · by_cases e : j < xs.length
    · rw [List.getElem?_append_left e] at hb
      rw [List.getElem?_append_left (by omega)] at ha
      exact hc.sep i j a b k m hij ha hb hka hkb
    · have ej : j = xs.length := by
        have := (List.getElem?_eq_some_iff.1 hb).1
        simp at this; omega
      subst ej
      rw [List.getElem?_append_right (Nat.le_refl _), Nat.sub_self] at hb
      obtain rfl : u = b := by simpa using hb
      rw [List.getElem?_append_left hij] at ha
      obtain ⟨v, h1, _, _, h4⟩ := hc.at_ i (by omega)
      rw [ha] at h1
      obtain rfl : a = v := by simpa using h1
      have := h4 k hka
      have := hk m hkb
      omega
/-- Less is known of it as a pattern. -/
theorem OwnM.ownN {B D : Nat} {w : World} {v : Value} {p : List (List Gl)} (h : OwnM B D w v p) : OwnN B w v p := by
  obtain ⟨xs, h1, ⟨h2, _⟩⟩ := h.own
  refine ⟨xs, h1, fun j hj => ?_⟩
  obtain ⟨u, q1, q2, _, _⟩ := h2 j hj
  obtain ⟨a, c, rfl, q3, q4⟩ := q2.done
  exact ⟨a, c, q1, q3, q4⟩
end Go.Proofs.YtagahoelojfhcaaDoor
