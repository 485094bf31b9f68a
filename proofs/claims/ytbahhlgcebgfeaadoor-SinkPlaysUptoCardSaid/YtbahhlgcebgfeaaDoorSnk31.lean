/- sink: frames as they are read. -/
import Derived.Test.YtbahhlgcebgfeaaDoorSkm
import Derived.Test.YtbahhlgcebgfeaaDoorSnk13
import Derived.Test.YtbahhlgcebgfeaaDoorSnk15
namespace Go.Proofs.YtbahhlgcebgfeaaDoor
set_option linter.unusedVariables false
set_option linter.unusedSimpArgs false
open Go.RowKit W Go.ChangeShapes Go.WideShapes Go.Deep
/-- Frames. -/
def IsFrs (w : World) (a : Option Addr) (ls : List (Int × List UInt8)) : Prop := ls = [] ∨ ∃ g o, a = some ⟨g, o, none⟩ ∧ g < w.heap.size ∧ ∀ i (h : i < ls.length), ∃ b c, w.cell? ⟨g, o + i * 2, none⟩ = some (.int .i64 ls[i].1) ∧ w.cell? ⟨g, o + i * 2 + 1, none⟩ = some (.slice b ls[i].2.length c) ∧ ls[i].2.length ≤ c ∧ IsBytes w b ls[i].2
theorem frs_at {w : World} {a : Option Addr} {ls : List (Int × List UInt8)} (h : IsFrs w a ls) (j : Nat) (hj : j < ls.length) : ∃ g o b c, a = some ⟨g, o, none⟩ ∧ g < w.heap.size ∧ w.cell? ⟨g, o + j * 2, none⟩ = some (.int .i64 (ls.getD j (0, [])).1) ∧ w.cell? ⟨g, o + j * 2 + 1, none⟩ = some (.slice b (ls.getD j (0, [])).2.length c) ∧ (ls.getD j (0, [])).2.length ≤ c ∧ IsBytes w b (ls.getD j (0, [])).2 := by
  obtain ⟨g, o, rfl, lt, h⟩ := h.resolve_left (fun e => by rw [e] at hj; simp at hj)
  obtain ⟨b, c, x0, x1, x2, x3⟩ := h j hj
  rw [show ls[j] = ls.getD j (0, []) by simp [hj]] at x0 x1 x2 x3
  exact ⟨g, o, b, c, rfl, lt, x0, x1, x2, x3⟩
/-- A sink behind k frames. -/
def fsS (P : List Ch) (L : List (Int × List UInt8)) : Nat → SS
  | 0 => ⟨P, [], false, 0, [], [], 0⟩
  | k + 1 => frS (fsS P L k) (L.getD k (0, [])).1 (L.getD k (0, [])).2
theorem fs_bd (P : List Ch) (L : List (Int × List UInt8)) (sb : ∀ b ∈ L, b.2.length ≤ 1048576) (k : Nat) : Bd (fsS P L k) (67108928 * (k : Int)) (1048576 * k) k := by
  induction k with
  | zero => exact Bd.new P
  | succ k ih =>
    have hb : (L.getD k (0, [])).2.length ≤ 1048576 := by
      rw [List.getD_eq_getElem?_getD]
      cases e : L[k]? with
      | none => simp
      | some b => exact sb b (List.mem_of_getElem? e)
    have b2 := ih.fr (L.getD k (0, [])).1 (L.getD k (0, [])).2
    exact ⟨b2.n0, Int.le_trans b2.n (by omega), fun x hx => Nat.le_trans (b2.b x hx) (by omega), b2.c, b2.w, b2.o⟩
theorem fs_sm (P : List Ch) (L : List (Int × List UInt8)) (sb : ∀ b ∈ L, b.2.length ≤ 1048576) (k l : Nat) (hk : k ≤ 1048576) (hl : l ≤ 1048576) : SmS (fsS P L k) l :=
  (fs_bd P L sb k).sm (by omega) (by omega) (by omega)
/-- A slice of frames as it is read. -/
theorem isFrs_of {H : Type} {enc : TypeId × Value → H} {w : World} {base : Nat} {spare : Nat → Bool} {held : Bool} {n : Nat} {s : Option Addr} {l c : Nat} {y : DataW H × List MemPlace}
    (h : DataW.trod enc Tryd.prog w base spare held n 23 [.slice s l c] = some y) :
    ∃ a c2 ls, Value.slice s l c = .slice a (List.length ls) c2 ∧ IsFrs w a ls ∧ (ls = [] ∨ ∃ el sp, y.1 = .slice el sp ∧ el.length = ls.length ∧ ∀ l ∈ ls, l.2 = [] ∨ ∃ x e2 s2, DataW.agg [x, DataW.slice e2 s2] ∈ el ∧ e2.length = l.2.length) := by
  rcases open_slice_pairs Tryd.underlying23 Tryd.underlying32 (by kernel_rfl) rfl rfl (by kernel_rfl) (by kernel_rfl) h with ⟨hcs, _⟩ | ⟨x, l', c', m, n', V0, V1, D0, D1, P0, P1, hcs, _, hl, hm, hmm, hx, hcell⟩
  · simp at hcs
    obtain ⟨rfl, rfl, rfl⟩ := hcs
    exact ⟨none, 0, [], rfl, .inl rfl, .inl rfl⟩
  · simp at hcs
    obtain ⟨rfl, rfl, rfl⟩ := hcs
    have lm : l ≤ m := by rw [hmm]; split <;> omega
    have each : ∀ i, i < l → ∃ q : Int × Option Addr × Nat × List UInt8, w.cell? (x.add (i * 2)) = some (.int .i64 q.1) ∧ w.cell? (x.add (i * 2 + 1)) = some (.slice q.2.1 q.2.2.2.length q.2.2.1) ∧ q.2.2.2.length ≤ q.2.2.1 ∧ IsBytes w q.2.1 q.2.2.2 ∧ (q.2.2.2 = [] ∨ ∃ el sp, D1 i = .slice el sp ∧ el.length = q.2.2.2.length) := by
      intro i hi
      obtain ⟨c0, c1, t0, t1⟩ := hcell i (by omega)
      obtain ⟨z0, e0, _, w0⟩ := DataW.trod_int Tryd.underlying2 t0
      simp at e0
      obtain ⟨a, c2, l2, e1, h1, h2, h3, h4⟩ := isBytes_of Tryd.underlying30 Tryd.underlying5 (by kernel_rfl) t1
      rw [e0] at c0
      rw [e1] at c1
      exact ⟨(z0, a, c2, l2), c0, c1, h1, h3, h4⟩
    let F : Nat → Int × Option Addr × Nat × List UInt8 := fun i => if hi : i < l then (each i hi).choose else (0, none, 0, [])
    have hF : ∀ i, i < l → w.cell? (x.add (i * 2)) = some (.int .i64 (F i).1) ∧ w.cell? (x.add (i * 2 + 1)) = some (.slice (F i).2.1 (F i).2.2.2.length (F i).2.2.1) ∧ (F i).2.2.2.length ≤ (F i).2.2.1 ∧ IsBytes w (F i).2.1 (F i).2.2.2 ∧ ((F i).2.2.2 = [] ∨ ∃ el sp, D1 i = .slice el sp ∧ el.length = (F i).2.2.2.length) := by
      intro i hi
      have e : F i = (each i hi).choose := dif_pos hi
      rw [e]
      exact (each i hi).choose_spec
    have lF : ((List.range l).map fun i => ((F i).1, (F i).2.2.2)).length = l := by simp
    refine ⟨some x, c, (List.range l).map fun i => ((F i).1, (F i).2.2.2), by rw [lF], ?_, .inr ⟨_, _, by rw [hx], by simp, ?_⟩⟩
    · rcases Nat.eq_zero_or_pos l with rfl | hpos
      · exact .inl (by simp)
      · have g0 := (hF 0 hpos).1
        obtain ⟨b, off, spot⟩ := x
        have hspot : spot = none := by simpa [Addr.add] using World.cell?_spot g0
        subst hspot
        have hb : b < w.heap.size := by
          rw [add_plain] at g0
          exact cellb_lt g0
        refine .inr ⟨b, off, rfl, hb, fun i hi => ?_⟩
        rw [lF] at hi
        obtain ⟨g1, g2, g3, g4, _⟩ := hF i hi
        rw [add_plain] at g1 g2
        rw [List.getElem_map, List.getElem_range]
        exact ⟨_, _, g1, g2, g3, g4⟩
    · intro q hq
      obtain ⟨i, hi, rfl⟩ := List.mem_map.1 hq
      have hi := List.mem_range.1 hi
      rcases (hF i hi).2.2.2.2 with g | ⟨el, sp, g1, g2⟩
      · exact .inl g
      · exact .inr ⟨D0 i, el, sp, by rw [← g1]; exact List.mem_map.2 ⟨i, List.mem_range.2 hi, rfl⟩, g2⟩
end Go.Proofs.YtbahhlgcebgfeaaDoor
