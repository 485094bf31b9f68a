/- sink: a report that is written to. -/
import Derived.Test.YtbahhlgcebgfeaaDoorSnk29
namespace Go.Proofs.YtbahhlgcebgfeaaDoor
set_option linter.unusedVariables false
set_option linter.unusedSimpArgs false
open Go.RowKit W
/-- A report in its box, that may be written to; all of it is new since Y. -/
structure Dj (Y w : World) (gd : Nat) (cv wv lv : Value) (C : List CE) (wh lo : List Int) (n : Int) : Prop where
  bx : w.heap[gd]? = some (.cells #[cv, wv, lv, .int .i64 n] 38 (0, 0))
  tl : Tl Y.heap.size w cv wv lv C wh lo
  be : Below Y.heap.size Y w
  gd0 : Y.heap.size ≤ gd
theorem rowB_set (l : List UInt8) (t : Nat) (v : UInt8) : (rowB l).set t (.int .u8 (v.toNat : Int)) = rowB (l.set t v) := by unfold rowB; rw [List.map_set]
theorem rowI_set (l : List Int) (t : Nat) (v : Int) : (rowI l).set t (.int .i64 v) = rowI (l.set t v) := by unfold rowI; rw [List.map_set]
theorem ap_mid {D E : List CE} {x x' : CE} (h : (D ++ x :: E).Pairwise fun x y => Apt x.1 y.1) (f : ∀ y ∈ D ++ E, Apt y.1 x'.1) : (D ++ x' :: E).Pairwise fun x y => Apt x.1 y.1 := by
  rw [List.pairwise_append, List.pairwise_cons] at h ⊢
  refine ⟨h.1, ⟨fun y hy => (f y (List.mem_append_right _ hy)).symm, h.2.1.2⟩, fun a ha b hb => ?_⟩
  rcases List.mem_cons.1 hb with rfl | hb
  · exact f a (List.mem_append_left _ ha)
  · exact h.2.2 a ha b (List.mem_cons_of_mem _ hb)
theorem ap_of {D E : List CE} {x : CE} (h : (D ++ x :: E).Pairwise fun x y => Apt x.1 y.1) : ∀ y ∈ D ++ E, Apt y.1 x.1 := by
  rw [List.pairwise_append, List.pairwise_cons] at h
  intro y hy
  rcases List.mem_append.1 hy with hy | hy
  · exact h.2.2 y hy x List.mem_cons_self
  · exact (h.2.1.1 y hy).symm
theorem mem_mid {D E : List CE} {x y : CE} (h : y ∈ D ++ E) : y ∈ D ++ x :: E := by
  rcases List.mem_append.1 h with h | h
  · exact List.mem_append_left _ h
  · exact List.mem_append_right _ (List.mem_cons_of_mem _ h)
theorem mid_or {D E : List CE} {x y : CE} (h : y ∈ D ++ x :: E) : y = x ∨ y ∈ D ++ E := by
  rcases List.mem_append.1 h with h | h
  · exact .inr (List.mem_append_left _ h)
  · rcases List.mem_cons.1 h with h | h
    · exact .inl h
    · exact .inr (List.mem_append_right _ h)
section
variable {Y w w1 : World} {gd : Nat} {cv wv lv : Value} {C D E : List CE} {x : CE} {wh lo : List Int} {n : Int}
theorem Dj.later (h : Dj Y w gd cv wv lv C wh lo n) (b : Below w.heap.size w w1) : Dj Y w1 gd cv wv lv C wh lo n :=
  ⟨(b.block gd (blk_lt h.bx)).trans h.bx, h.tl.later b, h.be.trans (b.mono h.be.size), h.gd0⟩
theorem Dj.ne (h : Dj Y w gd cv wv lv C wh lo n) {k : Nat} (i : InT cv wv lv C k) : k ≠ gd := h.tl.no h.bx (by decide) (by decide) (by decide) i
/-- A connection, by its place. -/
theorem Dj.conn (h : Dj Y w gd cv wv lv (D ++ x :: E) wh lo n) : ∃ gc cap, cv = .slice (some ⟨gc, 0, none⟩) (D ++ x :: E).length cap ∧ w.cell? ⟨gc, D.length * 2, none⟩ = some x.1 ∧ (∀ i, w.frozen? ⟨gc, i, none⟩ = false) ∧ gc < w.heap.size := by
  have oc := h.tl.oc
  rcases oc.2 with ⟨_, e⟩ | ⟨gc, cap, cur, rfl, hb, hh, hn, _⟩
  · simp at e
  · obtain ⟨c, f, lt, _⟩ := row_look oc
    exact ⟨gc, cap, rfl, c _ _ (rowC_at0 D x E), f, lt⟩
/-- The bytes of a connection. -/
theorem Dj.bytes (h : Dj Y w gd cv wv lv (D ++ x :: E) wh lo n) (hb : 0 < x.2.1.length) : ∃ gx cap, x.1 = .slice (some ⟨gx, 0, none⟩) x.2.1.length cap ∧ (∀ t (h : t < x.2.1.length), w.cell? ⟨gx, t, none⟩ = some (.int .u8 (x.2.1[t].toNat : Int))) ∧ (∀ i, w.frozen? ⟨gx, i, none⟩ = false) ∧ gx < w.heap.size := by
  have ob := h.tl.ob x (List.mem_append_right _ List.mem_cons_self)
  rcases ob.2 with ⟨_, e⟩ | ⟨gx, cap, cur, e, hb, hh, hn, _⟩
  · omega
  · rw [e] at ob
    obtain ⟨c, f, lt, _⟩ := row_look ob
    refine ⟨gx, cap, e, fun t ht => c t _ ?_, f, lt⟩
    unfold rowB
    rw [List.getElem?_map, List.getElem?_eq_getElem ht]
    rfl
theorem Dj.byte {gx m c : Nat} (h : Dj Y w gd cv wv lv (D ++ x :: E) wh lo n) (e : x.1 = .slice (some ⟨gx, 0, none⟩) m c) (t : Nat) (ht : t < x.2.1.length) (v : UInt8) : Dj Y (w.setCell ⟨gx, t, none⟩ (.int .u8 (v.toNat : Int))) gd cv wv lv (D ++ (x.1, x.2.1.set t v, x.2.2) :: E) wh lo n := by
  have hx : x ∈ D ++ x :: E := List.mem_append_right _ List.mem_cons_self
  have ob := h.tl.ob x hx
  have cc : Chg (· = gx) w (w.setCell ⟨gx, t, none⟩ (.int .u8 (v.toNat : Int))) := Chg.set _ rfl
  have xg : x.1.ownBlock = some gx := by rw [e]; rfl
  have ig : InT cv wv lv (D ++ x :: E) gx := .inr (.inl ⟨x, hx, xg⟩)
  have hm : m = x.2.1.length := by
    rw [e] at ob
    rcases ob.2 with ⟨e2, _⟩ | ⟨g2, c2, cur, e2, _⟩
    · cases e2
    · injection e2
  refine ⟨(cc.block gd (blk_lt h.bx) (fun q => h.ne ig q.symm)).trans h.bx, ⟨?_, ?_, ?_, chg_row h.tl.ow cc (fun k e1 q => own_ne h.tl.ow ob (by decide) e1 (by rw [q]; exact xg)), chg_row h.tl.ol cc (fun k e1 q => own_ne h.tl.ol ob (by decide) e1 (by rw [q]; exact xg)), h.tl.aw⟩, h.be.trans (cc.below (fun k q => by have := (h.tl.old ig).1; rw [q]; exact this) h.be.size), h.gd0⟩
  · have oc := chg_row h.tl.oc cc (fun k e1 q => own_ne h.tl.oc ob (by decide) e1 (by rw [q]; exact xg))
    have e1 : rowC (D ++ (x.1, x.2.1.set t v, x.2.2) :: E) = rowC (D ++ x :: E) := by simp [rowC]
    have e2 : (D ++ (x.1, x.2.1.set t v, x.2.2) :: E).length = (D ++ x :: E).length := by simp
    rw [e1, e2]; exact oc
  · intro y hy
    rcases mid_or hy with rfl | hy
    · have o2 := ob
      rw [e, ← hm] at o2
      have o3 := row_put o2 t (by omega) (.int .u8 (v.toNat : Int))
      rw [rowB_set] at o3
      simp only
      rw [List.length_set, ← hm, e]
      exact o3
    · have oy := h.tl.ob y (mem_mid hy)
      exact chg_row oy cc (fun k e1 q => ap_of h.tl.ap y hy k e1 (by rw [q]; exact xg))
  · exact ap_mid h.tl.ap (fun y hy => ap_of (x := x) h.tl.ap y hy)
theorem Dj.grow {gc m c : Nat} (h : Dj Y w gd (.slice (some ⟨gc, 0, none⟩) m c) wv lv (D ++ x :: E) wh lo n) {v : Value} {l : List UInt8} (o : w1.ownsRow Y.heap.size 5 1 v l.length (rowB l)) (gr : w.grownBy w1 x.1.ownBlock) (mv : v.ownBlock = x.1.ownBlock ∨ v.ownBlock = some w.heap.size) : Dj Y (w1.setCell ⟨gc, D.length * 2, none⟩ v) gd (.slice (some ⟨gc, 0, none⟩) m c) wv lv (D ++ (v, l, x.2.2) :: E) wh lo n := by
  have hx : x ∈ D ++ x :: E := List.mem_append_right _ List.mem_cons_self
  have c1 : Chg (fun k => x.1.ownBlock = some k) w w1 := Chg.grown gr (fun k e => e)
  have ob := h.tl.ob x hx
  have oc1 := chg_row h.tl.oc c1 (fun k e q => own_ne h.tl.oc ob (by decide) e q)
  have c2 : Chg (· = gc) w1 (w1.setCell ⟨gc, D.length * 2, none⟩ v) := Chg.set _ rfl
  have cc : Chg (fun k => k = gc ∨ x.1.ownBlock = some k) w (w1.setCell ⟨gc, D.length * 2, none⟩ v) := (c1.mono (fun k e => .inr e)).trans c2 (fun j _ e => .inl e)
  have it : ∀ k, (k = gc ∨ x.1.ownBlock = some k) → InT (.slice (some ⟨gc, 0, none⟩) m c) wv lv (D ++ x :: E) k := fun k q => by
    rcases q with q | q
    · exact .inl (by rw [q]; rfl)
    · exact .inr (.inl ⟨x, hx, q⟩)
  have gn : Value.ownBlock (.slice (some ⟨gc, 0, none⟩) m c) = some gc := rfl
  have hm : m = (D ++ x :: E).length := by
    rcases h.tl.oc.2 with ⟨e2, _⟩ | ⟨g2, c2, cur, e2, _⟩
    · cases e2
    · injection e2
  refine ⟨(cc.block gd (blk_lt h.bx) (fun q => h.ne (it _ q) rfl)).trans h.bx, ⟨?_, ?_, ?_, chg_row h.tl.ow cc (fun k e q => ?_), chg_row h.tl.ol cc (fun k e q => ?_), h.tl.aw⟩, h.be.trans (cc.below (fun k q => (h.tl.old (it k q)).1) h.be.size), h.gd0⟩
  · have e2 : (D ++ (v, l, x.2.2) :: E).length = (D ++ x :: E).length := by simp
    rw [← hm] at oc1
    have := row_put oc1 (D.length * 2) (by rw [hm]; simp <;> omega) v
    rw [rowC_set0 D x E v l] at this
    rw [e2, ← hm]; exact this
  · intro y hy
    rcases mid_or hy with rfl | hy
    · exact chg_row o c2 (fun k e q => own_ne o oc1 (by decide) e (by rw [q]; rfl))
    · have oy := h.tl.ob y (mem_mid hy)
      refine chg_row oy cc (fun k e1 q => ?_)
      rcases q with q | q
      · exact own_ne oy h.tl.oc (by decide) e1 (by rw [q]; rfl)
      · exact ap_of h.tl.ap y hy k e1 q
  · exact ap_mid h.tl.ap (fun y hy => (Apt.moved (ap_of h.tl.ap y hy).symm (h.tl.ob y (mem_mid hy)) mv).symm)
  · rcases q with q | q
    · exact own_ne h.tl.ow h.tl.oc (by decide) e (by rw [q]; rfl)
    · exact own_ne h.tl.ow ob (by decide) e q
  · rcases q with q | q
    · exact own_ne h.tl.ol h.tl.oc (by decide) e (by rw [q]; rfl)
    · exact own_ne h.tl.ol ob (by decide) e q
/-- A number of a list. -/
theorem row_at {B : Nat} {v : Value} {l : List Int} (o : w.ownsRow B 2 1 v l.length (rowI l)) (hl : 0 < l.length) : ∃ gx cap, v = .slice (some ⟨gx, 0, none⟩) l.length cap ∧ (∀ t (h : t < l.length), w.cell? ⟨gx, t, none⟩ = some (.int .i64 l[t])) ∧ (∀ i, w.frozen? ⟨gx, i, none⟩ = false) ∧ gx < w.heap.size := by
  have o0 := o
  rcases o.2 with ⟨_, e⟩ | ⟨gx, cap, cur, e, hb, hh, hn, _⟩
  · omega
  · rw [e] at o0
    obtain ⟨c, f, lt, _⟩ := row_look o0
    refine ⟨gx, cap, e, fun t ht => c t _ ?_, f, lt⟩
    unfold rowI
    rw [List.getElem?_map, List.getElem?_eq_getElem ht]
    rfl
theorem Dj.wset {gx m c : Nat} (h : Dj Y w gd cv (.slice (some ⟨gx, 0, none⟩) m c) lv C wh lo n) (t : Nat) (ht : t < wh.length) (v : Int) : Dj Y (w.setCell ⟨gx, t, none⟩ (.int .i64 v)) gd cv (.slice (some ⟨gx, 0, none⟩) m c) lv C (wh.set t v) lo n := by
  have cc : Chg (· = gx) w (w.setCell ⟨gx, t, none⟩ (.int .i64 v)) := Chg.set _ rfl
  have ig : InT cv (.slice (some ⟨gx, 0, none⟩) m c) lv C gx := .inr (.inr (.inl rfl))
  have ow := h.tl.ow
  have hm : m = wh.length := by
    rcases ow.2 with ⟨e2, _⟩ | ⟨g2, c2, cur, e2, _⟩
    · cases e2
    · injection e2
  refine ⟨(cc.block gd (blk_lt h.bx) (fun q => h.ne ig q.symm)).trans h.bx, ⟨chg_row h.tl.oc cc (fun k e q => own_ne h.tl.oc ow (by decide) e (by rw [q]; rfl)), fun y hy => chg_row (h.tl.ob y hy) cc (fun k e q => own_ne (h.tl.ob y hy) ow (by decide) e (by rw [q]; rfl)), h.tl.ap, ?_, chg_row h.tl.ol cc (fun k e q => h.tl.aw k (by rw [q]; rfl) e), h.tl.aw⟩, h.be.trans (cc.below (fun k q => by have := (h.tl.old ig).1; rw [q]; exact this) h.be.size), h.gd0⟩
  rw [← hm] at ow
  have := row_put ow t (by omega) (.int .i64 v)
  rw [rowI_set] at this
  rw [List.length_set, ← hm]; exact this
theorem Dj.lset {gx m c : Nat} (h : Dj Y w gd cv wv (.slice (some ⟨gx, 0, none⟩) m c) C wh lo n) (t : Nat) (ht : t < lo.length) (v : Int) : Dj Y (w.setCell ⟨gx, t, none⟩ (.int .i64 v)) gd cv wv (.slice (some ⟨gx, 0, none⟩) m c) C wh (lo.set t v) n := by
  have cc : Chg (· = gx) w (w.setCell ⟨gx, t, none⟩ (.int .i64 v)) := Chg.set _ rfl
  have ig : InT cv wv (.slice (some ⟨gx, 0, none⟩) m c) C gx := .inr (.inr (.inr rfl))
  have ol := h.tl.ol
  have hm : m = lo.length := by
    rcases ol.2 with ⟨e2, _⟩ | ⟨g2, c2, cur, e2, _⟩
    · cases e2
    · injection e2
  refine ⟨(cc.block gd (blk_lt h.bx) (fun q => h.ne ig q.symm)).trans h.bx, ⟨chg_row h.tl.oc cc (fun k e q => own_ne h.tl.oc ol (by decide) e (by rw [q]; rfl)), fun y hy => chg_row (h.tl.ob y hy) cc (fun k e q => own_ne (h.tl.ob y hy) ol (by decide) e (by rw [q]; rfl)), h.tl.ap, chg_row h.tl.ow cc (fun k e q => h.tl.aw k e (by rw [q]; rfl)), ?_, h.tl.aw⟩, h.be.trans (cc.below (fun k q => by have := (h.tl.old ig).1; rw [q]; exact this) h.be.size), h.gd0⟩
  rw [← hm] at ol
  have := row_put ol t (by omega) (.int .i64 v)
  rw [rowI_set] at this
  rw [List.length_set, ← hm]; exact this
theorem Dj.box {w2 : World} (h : Dj Y w gd cv wv lv C wh lo n) {S : Nat → Prop} {wv' lv' : Value} {wh' lo' : List Int} (t : Tl Y.heap.size w1 cv wv' lv' C wh' lo') (c : Chg S w w1) (f : ∀ k, S k → InT cv wv lv C k) {i : Nat} {v : Value} (e : (w1.setCell ⟨gd, i, none⟩ v).heap[gd]? = some (.cells #[cv, wv', lv', .int .i64 n] 38 (0, 0))) : Dj Y (w1.setCell ⟨gd, i, none⟩ v) gd cv wv' lv' C wh' lo' n := by
  have c2 : Chg (· = gd) w1 (w1.setCell ⟨gd, i, none⟩ v) := Chg.set _ rfl
  have b1 : w1.heap[gd]? = some (.cells #[cv, wv, lv, .int .i64 n] 38 (0, 0)) := (c.block gd (blk_lt h.bx) (fun q => h.ne (f _ q) rfl)).trans h.bx
  refine ⟨e, t.chg c2 (fun k i q => t.no b1 (by decide) (by decide) (by decide) i q), h.be.trans ((c.below (fun k q => (h.tl.old (f k q)).1) h.be.size).trans (c2.below (fun k q => by rw [q]; exact h.gd0) (Nat.le_trans h.be.size c.size))), h.gd0⟩
theorem Dj.wadd {v : Value} {id : Int} (h : Dj Y w gd cv wv lv C wh lo n) (o : w1.ownsRow Y.heap.size 2 1 v (wh.length + 1) (rowI wh ++ [.int .i64 id])) (gr : w.grownBy w1 wv.ownBlock) (mv : v.ownBlock = wv.ownBlock ∨ v.ownBlock = some w.heap.size) : Dj Y (w1.setCell ⟨gd, 1, none⟩ v) gd cv v lv C (wh ++ [id]) lo n := by
  obtain ⟨t, c⟩ := h.tl.whole o gr mv
  have b1 : w1.heap[gd]? = some (.cells #[cv, wv, lv, .int .i64 n] 38 (0, 0)) := (c.block gd (blk_lt h.bx) (fun q => h.ne (.inr (.inr (.inl q))) rfl)).trans h.bx
  exact h.box (w2 := w1) t c (fun k q => .inr (.inr (.inl q))) (by simp [World.setCell, Array.getElem?_modify, b1])
theorem Dj.ladd {v : Value} {id : Int} (h : Dj Y w gd cv wv lv C wh lo n) (o : w1.ownsRow Y.heap.size 2 1 v (lo.length + 1) (rowI lo ++ [.int .i64 id])) (gr : w.grownBy w1 lv.ownBlock) (mv : v.ownBlock = lv.ownBlock ∨ v.ownBlock = some w.heap.size) : Dj Y (w1.setCell ⟨gd, 2, none⟩ v) gd cv wv v C wh (lo ++ [id]) n := by
  obtain ⟨t, c⟩ := h.tl.lose o gr mv
  have b1 : w1.heap[gd]? = some (.cells #[cv, wv, lv, .int .i64 n] 38 (0, 0)) := (c.block gd (blk_lt h.bx) (fun q => h.ne (.inr (.inr (.inr q))) rfl)).trans h.bx
  exact h.box (w2 := w1) t c (fun k q => .inr (.inr (.inr q))) (by simp [World.setCell, Array.getElem?_modify, b1])
end
end Go.Proofs.YtbahhlgcebgfeaaDoor
