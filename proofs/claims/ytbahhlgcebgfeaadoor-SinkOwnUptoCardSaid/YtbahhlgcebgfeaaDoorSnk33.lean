/- sink: SinkOwn: plain facts. -/
import Derived.Test.YtbahhlgcebgfeaaDoorSnk32
import Derived.Test.YtbahhlgcebgfeaaDoorSnk22
import Derived.Deep.DeepCutAuto
namespace Go.Proofs.YtbahhlgcebgfeaaDoor
set_option linter.unusedVariables false
set_option linter.unusedSimpArgs false
open Go.RowKit W
theorem own_empty {w : World} {base g e sz : Nat} (hg : w.heap[g]? = some (.cells #[] e (0, 0))) (hb : base ≤ g) : w.ownsRow base e sz (.slice (some ⟨g, 0, none⟩) 0 0) 0 [] :=
  ⟨by simp, .inr ⟨g, 0, #[], rfl, hb, hg, Nat.le_refl _, Nat.zero_le _, by simp, by simp⟩⟩
theorem wpList_fresh_bytes {w : World} {ops : Array Oper} {rest : List Oper} {o : Oper} {a : Act} {Q : Exit → Act → World → Prop} (hgd : o.guard = none) (s x : Operand)
    (ho : o.op = .call { callee := .builtin .append, args := #[s, x], argTypes := #[30, 30] }) (base g : Nat) (hs : a.eval s = .slice (some ⟨g, 0, none⟩) 0 0) (hg : w.heap[g]? = some (.cells #[] 5 (0, 0))) (hb : base ≤ g) (sa : Option Addr) (c : Nat) (l : List UInt8) (hx : a.eval x = .slice sa l.length c) (ib : IsBytes w sa l) (hn : sa = none → l.length = 0 ∧ c = 0)
    (h63 : l.length ≤ 1000000000) (h : ∀ v' w', w'.ownsRow base 5 1 v' l.length (rowB l) → w.grownBy w' (some g) → wpList Tryd.prog ops Q rest (a.put o.dst v') w') : wpList Tryd.prog ops Q (o :: rest) a w := by
  obtain ⟨i0, hi0, hz0, hz1, hz2⟩ := info_parts info_u8
  have h00 : w.ownsRow base 5 1 (.slice (some ⟨g, 0, none⟩) 0 0) 0 [] := own_empty hg hb
  cases sa with
  | none =>
    obtain ⟨q1, q2⟩ := hn rfl
    obtain rfl := List.eq_nil_of_length_eq_zero q1
    subst q2
    exact wpList_append_own_none hgd s x 30 ho base 5 i0 1 Tryd.underlying30 hi0 (.slice (some ⟨g, 0, none⟩) 0 0) 0 [] hs h00 hx (h _ w h00 (World.grownBy.refl _ _))
  | some ad =>
    refine wpList_append_own _ hgd s x 30 ho base 5 i0 (.int .u8 0) 1 1 Tryd.underlying30 hi0 hz0 hz1 hz2 rfl (by decide) (.slice (some ⟨g, 0, none⟩) 0 0) 0 [] hs h00 ad l.length c (rowB l) hx (by rw [rowB_len, Nat.mul_one]) ?_ (rowB_one l) (by unfold maxLen; omega) (by omega) (Nat.le_trans hb (Nat.le_of_lt (blk_lt hg))) ?_
    · intro j u hu
      rcases ib with rfl | ⟨g2, o2, e2, lt, bc⟩
      · cases hu
      · obtain rfl := Option.some.inj e2
        rw [rowB, List.getElem?_map] at hu
        rw [Option.map_eq_some_iff] at hu
        obtain ⟨y, hy, rfl⟩ := hu
        obtain ⟨hj, rfl⟩ := List.getElem?_eq_some_iff.1 hy
        rw [Go.WideShapes.add_plain]
        exact bc j hj
    · intro v' w' q1 q2 _
      rw [Nat.zero_add, List.nil_append] at q1
      exact h v' w' q1 q2
theorem rowH_one (l : List Ch) : ∀ u ∈ rowH l, u.oneCell' = true := by
  intro u hu
  obtain ⟨x, _, hx⟩ := List.mem_flatMap.1 hu
  rcases List.mem_cons.1 hx with rfl | hx
  · rfl
  · rw [List.mem_singleton] at hx; subst hx; rfl
theorem rowH_get {w : World} {g o : Nat} {l : List Ch} (h : ∀ j (h : j < l.length), w.cell? ⟨g, o + j * 2, none⟩ = some (.int .i64 l[j].1) ∧ w.cell? ⟨g, o + j * 2 + 1, none⟩ = some (.bool l[j].2)) (j : Nat) (u : Value) (hu : (rowH l)[j]? = some u) : w.cell? ⟨g, o + j, none⟩ = some u := by
  have hj : j < l.length * 2 := by rw [← rowH_len]; exact (List.getElem?_eq_some_iff.1 hu).1
  rcases Nat.mod_two_eq_zero_or_one j with e | e
  · obtain ⟨i, rfl⟩ : ∃ i, j = i * 2 := ⟨j / 2, by omega⟩
    have hi : i < l.length := by omega
    rw [(rowH_at l i hi).1] at hu
    rw [(h i hi).1]; exact hu
  · obtain ⟨i, rfl⟩ : ∃ i, j = i * 2 + 1 := ⟨j / 2, by omega⟩
    have hi : i < l.length := by omega
    rw [(rowH_at l i hi).2] at hu
    rw [← Nat.add_assoc, (h i hi).2]; exact hu
theorem wpList_fresh_choices {w : World} {ops : Array Oper} {rest : List Oper} {o : Oper} {a : Act} {Q : Exit → Act → World → Prop} (hgd : o.guard = none) (s x : Operand)
    (ho : o.op = .call { callee := .builtin .append, args := #[s, x], argTypes := #[22, 22] }) (base g : Nat) (hs : a.eval s = .slice (some ⟨g, 0, none⟩) 0 0) (hg : w.heap[g]? = some (.cells #[] 59 (0, 0))) (hb : base ≤ g) (sa : Option Addr) (c : Nat) (l : List Ch) (hx : a.eval x = .slice sa l.length c) (ib : IsCh w sa l) (hn : sa = none → l.length = 0 ∧ c = 0)
    (h63 : l.length ≤ 1000000000) (h : ∀ v' w', w'.ownsRow base 59 2 v' l.length (rowH l) → w.grownBy w' (some g) → wpList Tryd.prog ops Q rest (a.put o.dst v') w') : wpList Tryd.prog ops Q (o :: rest) a w := by
  obtain ⟨i0, hi0, hz0, hz1, hz2⟩ := info_parts info_choice
  have h00 : w.ownsRow base 59 2 (.slice (some ⟨g, 0, none⟩) 0 0) 0 [] := own_empty hg hb
  cases sa with
  | none =>
    obtain ⟨q1, q2⟩ := hn rfl
    obtain rfl := List.eq_nil_of_length_eq_zero q1
    subst q2
    exact wpList_append_own_none hgd s x 22 ho base 59 i0 2 Tryd.underlying22 hi0 (.slice (some ⟨g, 0, none⟩) 0 0) 0 [] hs h00 hx (h _ w h00 (World.grownBy.refl _ _))
  | some ad =>
    refine wpList_append_own _ hgd s x 22 ho base 59 i0 (.agg #[.int .i64 0, .bool false]) 2 16 Tryd.underlying22 hi0 hz0 hz1 hz2 rfl (by decide) (.slice (some ⟨g, 0, none⟩) 0 0) 0 [] hs h00 ad l.length c (rowH l) hx (by rw [rowH_len]) ?_ (rowH_one l) (by unfold maxLen; omega) (by omega) (Nat.le_trans hb (Nat.le_of_lt (blk_lt hg))) ?_
    · intro j u hu
      rcases ib with rfl | ⟨g2, o2, e2, lt, bc⟩
      · cases hu
      · obtain rfl := Option.some.inj e2
        rw [Go.WideShapes.add_plain]
        exact rowH_get bc j u hu
    · intro v' w' q1 q2 _
      rw [Nat.zero_add, List.nil_append] at q1
      exact h v' w' q1 q2
/-- Both in a statement, and blocks that are none of theirs. -/
structure Jx (Z : Nat → Prop) (w X : World) (gA gR : Nat) (P : List Ch) (S T : SS) : Prop where
  ex : ∃ M N, SkA w.heap.size X gA S M ∧ RkA w.heap.size X gR P T N ∧ (∀ k, M k → w.heap.size ≤ k) ∧ (∀ k, N k → w.heap.size ≤ k) ∧ (∀ k, M k → ¬ N k) ∧ ∀ k, Z k → ¬ M k ∧ ¬ N k
  be : Below w.heap.size w X
section
variable {Z : Nat → Prop} {w X Y : World} {gA gR : Nat} {P : List Ch} {S T : SS}
theorem Jx.jn (h : Jx Z w X gA gR P S T) : Jn w X gA gR P S T := by
  obtain ⟨M, N, s, r, m, n, d, z⟩ := h.ex
  exact ⟨⟨M, N, s, r, m, n, d⟩, h.be⟩
theorem Jx.poke (h : Jx Z w X gA gR P S T) {Q : Nat → Prop} (c : Chg Q X Y) (q : ∀ k, Q k → Z k ∧ w.heap.size ≤ k) : Jx Z w Y gA gR P S T := by
  obtain ⟨M, N, s, r, m, n, d, z⟩ := h.ex
  exact ⟨⟨M, N, s.chg c (fun k a b => (z k (q k b).1).1 a), r.chg c (fun k a b => (z k (q k b).1).2 a) (fun k b => (q k b).2), m, n, d, z⟩, h.be.trans (c.below (fun k b => (q k b).2) h.be.size)⟩
theorem SkA.lower {B B' g : Nat} {M : Nat → Prop} (h : SkA B X g S M) (l : B' ≤ B) : SkA B' X g S M := by
  obtain ⟨pa, pc, cv, wv, lv, C, h⟩ := h
  exact ⟨pa, pc, cv, wv, lv, C, h.cs, h.sb, h.tl.lower l, h.pl, h.pc, Nat.le_trans l h.bg, h.pn, h.m⟩
theorem Jx.make {X0 : World} {M N : Nat → Prop} (b0 : Below w.heap.size w X0) (s : SkA X0.heap.size X gA (ss0 P) M) (ms : ∀ k, M k → X0.heap.size ≤ k) (b : Below X0.heap.size X0 X) {X2 : World} (b1 : Below X.heap.size X X2) (r : RkA w.heap.size Y gR P (ss0 P) N) (nr : ∀ k, N k → X2.heap.size ≤ k) (b2 : Below X2.heap.size X2 Y) : Jx (fun k => k < X0.heap.size) w Y gA gR P (ss0 P) (ss0 P) := by
  have l0 := b0.size
  have l1 := b.size
  have l2 := b1.size
  refine ⟨⟨M, N, (((s.later b1).later b2).lower l0), r, fun k q => Nat.le_trans l0 (ms k q), fun k q => by have := nr k q; omega, fun k q1 q2 => by have := s.old q1; have := nr k q2; omega, fun k q => ⟨fun q1 => by have := ms k q1; omega, fun q1 => by have := nr k q1; omega⟩⟩, b0.trans ((b.mono l0).trans ((b1.mono (by omega)).trans (b2.mono (by omega))))⟩
theorem Jn.frame_new (h : Jn w X gA gR P S T) {ea : Addr} (ef : w.cell? ⟨0, 0, none⟩ = some (EV ea)) (b : Below X.heap.size X Y) {ba : Option Addr} {bl : List UInt8} {bc : Nat} (sm : SmS S bl.length) (hb : IsBytes Y ba bl) (nb : bl ≠ [] → ∀ a, ba = some a → X.heap.size ≤ a.block) (hbc : bl.length ≤ bc) (id : Int) :
    Calls Tryd.prog 12 #[.pointer (some ⟨gA, 0, none⟩), .int .i64 id, .slice ba bl.length bc] Y fun e w' => e = .returned (.int .i64 (frE S id)) ∧ Jx (fun k => X.heap.size ≤ k ∧ k < Y.heap.size) w w' gA gR P (frS S id bl) T ∧ (∀ k, X.heap.size ≤ k → k < Y.heap.size → w'.heap[k]? = Y.heap[k]?) ∧ Y.heap.size ≤ w'.heap.size := by
  obtain ⟨M, N, s, r, m, n, d⟩ := h.ex
  have h0 : 0 < w.heap.size := cellb_lt ef
  have hY := h.be.trans (b.mono h.be.size)
  refine Calls.mono (frame_spec (s.later b) sm hb hbc (fun ne a e => ?_) ((hY.cell (p := ⟨0, 0, none⟩) h0).trans ef) (by omega) id) ?_
  · obtain ⟨g1, o1, e1, lt, _⟩ := hb.resolve_left ne
    have l1 := nb ne a e
    rw [e] at e1
    injection e1 with e1
    subst e1
    exact ⟨fun q => by have := s.old q; simp only at this l1; omega, lt⟩
  · rintro e w' ⟨rfl, ⟨M', s', m'⟩, c⟩
    have sz := hY.size
    have bs := b.size
    refine ⟨rfl, ⟨⟨M', N, s', (r.later b).chg c (fun k q1 q2 => d k q2 q1) m, fun k q => ?_, n, fun k q1 q2 => ?_, fun k q => ⟨fun q1 => ?_, fun q1 => ?_⟩⟩, hY.trans (c.below (fun j q => m j q) sz)⟩, fun k l1 l2 => c.block k l2 (fun q => by have := s.old q; omega), c.size⟩
    · rcases m' k q with q | q
      · exact m k q
      · omega
    · rcases m' k q1 with q | q
      · exact d k q q2
      · have := r.old q2; omega
    · rcases m' k q1 with q2 | q2
      · have := s.old q2; omega
      · omega
    · have := r.old q1; omega
end
end Go.Proofs.YtbahhlgcebgfeaaDoor
