/- sink: what a sink holds of its connections and frames. -/
import Derived.Test.YtbahhlgcebgfeaaDoorChg
import Derived.Test.YtbahhlgcebgfeaaDoorBytes
import Derived.Test.YtbahhlgcebgfeaaDoorInts
namespace Go.Proofs.YtbahhlgcebgfeaaDoor
set_option linter.unusedVariables false
set_option linter.unusedSimpArgs false
open Go.RowKit W
def rowB (l : List UInt8) : List Value := l.map fun x => .int .u8 (x.toNat : Int)
theorem rowB_len (l : List UInt8) : (rowB l).length = l.length := by simp [rowB]
theorem rowB_app (l m : List UInt8) : rowB (l ++ m) = rowB l ++ rowB m := by simp [rowB]
theorem rowB_one (l : List UInt8) : ∀ u ∈ rowB l, u.oneCell' = true := by
  intro u hu
  obtain ⟨x, _, rfl⟩ := List.mem_map.1 hu
  rfl
def rowI (l : List Int) : List Value := l.map (Value.int .i64)
theorem rowI_len (l : List Int) : (rowI l).length = l.length := by simp [rowI]
theorem rowI_app (l m : List Int) : rowI (l ++ m) = rowI l ++ rowI m := by simp [rowI]
/-- A connection: its slice, its bytes, whether it has failed. -/
abbrev CE := Value × List UInt8 × Bool
def rowC (l : List CE) : List Value := l.flatMap fun x => [x.1, .bool x.2.2]
theorem rowC_nil : rowC [] = [] := rfl
theorem rowC_cons (x : CE) (l : List CE) : rowC (x :: l) = x.1 :: .bool x.2.2 :: rowC l := by simp [rowC]
theorem rowC_app (l m : List CE) : rowC (l ++ m) = rowC l ++ rowC m := by simp [rowC]
theorem rowC_len (l : List CE) : (rowC l).length = l.length * 2 := by
  induction l with
  | nil => rfl
  | cons x l ih => rw [rowC_cons, List.length_cons, List.length_cons, List.length_cons, ih]; omega
theorem rowC_at0 (D : List CE) (x : CE) (r : List CE) : (rowC (D ++ x :: r))[D.length * 2]? = some x.1 := by
  rw [rowC_app, List.getElem?_append_right (by rw [rowC_len]; exact Nat.le_refl _), rowC_len, Nat.sub_self, rowC_cons]; rfl
theorem rowC_at1 (D : List CE) (x : CE) (r : List CE) : (rowC (D ++ x :: r))[D.length * 2 + 1]? = some (.bool x.2.2) := by
  rw [rowC_app, List.getElem?_append_right (by rw [rowC_len]; omega), rowC_len, Nat.add_sub_cancel_left, rowC_cons]; rfl
theorem rowC_set0 (D : List CE) (x : CE) (r : List CE) (v : Value) (bs : List UInt8) : (rowC (D ++ x :: r)).set (D.length * 2) v = rowC (D ++ (v, bs, x.2.2) :: r) := by
  rw [rowC_app, rowC_app, List.set_append_right _ _ (by rw [rowC_len]; exact Nat.le_refl _), rowC_len, Nat.sub_self, rowC_cons, rowC_cons]; rfl
theorem rowC_set1 (D : List CE) (x : CE) (r : List CE) (f : Bool) : (rowC (D ++ x :: r)).set (D.length * 2 + 1) (.bool f) = rowC (D ++ (x.1, x.2.1, f) :: r) := by
  rw [rowC_app, rowC_app, List.set_append_right _ _ (by rw [rowC_len]; omega), rowC_len, Nat.add_sub_cancel_left, rowC_cons, rowC_cons]; rfl
theorem info_u8 : (Tryd.prog.info? 5).map (fun i => (i.zero, i.size, i.bytes)) = some (some (.int .u8 0), 1, 1) := by kernel_rfl
theorem info_w64 : (Tryd.prog.info? 2).map (fun i => (i.zero, i.size, i.bytes)) = some (some (.int .i64 0), 1, 8) := by kernel_rfl
theorem info_conn : (Tryd.prog.info? 53).map (fun i => (i.zero, i.size, i.bytes)) = some (some (.agg #[.slice none 0 0, .bool false]), 2, 32) := by kernel_rfl
/-- The connections, and the numbers of the frames that are whole and lost. -/
structure Tl (B : Nat) (w : World) (cv wv lv : Value) (C : List CE) (wh lo : List Int) : Prop where
  oc : w.ownsRow B 53 2 cv C.length (rowC C)
  ob : ∀ x ∈ C, w.ownsRow B 5 1 x.1 x.2.1.length (rowB x.2.1)
  ap : C.Pairwise fun x y => Apt x.1 y.1
  ow : w.ownsRow B 2 1 wv wh.length (rowI wh)
  ol : w.ownsRow B 2 1 lv lo.length (rowI lo)
  aw : Apt wv lv
/-- The blocks of it. -/
def InT (cv wv lv : Value) (C : List CE) (k : Nat) : Prop := cv.ownBlock = some k ∨ (∃ x ∈ C, x.1.ownBlock = some k) ∨ wv.ownBlock = some k ∨ lv.ownBlock = some k
section
variable {B : Nat} {w w' : World} {cv wv lv : Value} {C : List CE} {wh lo : List Int}
theorem Tl.old (h : Tl B w cv wv lv C wh lo) {k : Nat} (i : InT cv wv lv C k) : B ≤ k ∧ k < w.heap.size := by
  rcases i with i | ⟨x, hx, i⟩ | i | i
  · exact own_old h.oc i
  · exact own_old (h.ob x hx) i
  · exact own_old h.ow i
  · exact own_old h.ol i
theorem Tl.chg (h : Tl B w cv wv lv C wh lo) {S : Nat → Prop} (c : Chg S w w') (f : ∀ k, InT cv wv lv C k → ¬ S k) : Tl B w' cv wv lv C wh lo :=
  ⟨chg_row h.oc c (fun k e => f k (.inl e)), fun x hx => chg_row (h.ob x hx) c (fun k e => f k (.inr (.inl ⟨x, hx, e⟩))), h.ap, chg_row h.ow c (fun k e => f k (.inr (.inr (.inl e)))), chg_row h.ol c (fun k e => f k (.inr (.inr (.inr e)))), h.aw⟩
theorem Tl.later (h : Tl B w cv wv lv C wh lo) (b : Below w.heap.size w w') : Tl B w' cv wv lv C wh lo := h.chg (Chg.of_below (S := fun _ => False) b) (fun _ _ q => q)
/-- No block of it is of another type. -/
theorem Tl.no (h : Tl B w cv wv lv C wh lo) {g e : Nat} {cs : Array Value} {fr : Nat × Nat} (hg : w.heap[g]? = some (.cells cs e fr)) (n1 : e ≠ 53) (n2 : e ≠ 5) (n3 : e ≠ 2) {k : Nat} (i : InT cv wv lv C k) : k ≠ g := by
  rcases i with i | ⟨x, hx, i⟩ | i | i
  · exact own_ne_blk h.oc hg (fun q => n1 q.symm) i
  · exact own_ne_blk (h.ob x hx) hg (fun q => n2 q.symm) i
  · exact own_ne_blk h.ow hg (fun q => n3 q.symm) i
  · exact own_ne_blk h.ol hg (fun q => n3 q.symm) i
/-- The last connection. -/
theorem Tl.last {D : List CE} {x : CE} (h : Tl B w cv wv lv (D ++ [x]) wh lo) : ∃ g cap, cv = .slice (some ⟨g, 0, none⟩) (D.length + 1) cap ∧ D.length + 1 ≤ cap ∧ w.cell? ⟨g, D.length * 2, none⟩ = some x.1 ∧ w.cell? ⟨g, D.length * 2 + 1, none⟩ = some (.bool x.2.2) ∧ (∀ i, w.frozen? ⟨g, i, none⟩ = false) ∧ g < w.heap.size ∧ B ≤ g := by
  have oc := h.oc
  rw [List.length_append, List.length_singleton] at oc
  rcases oc.2 with ⟨_, e⟩ | ⟨g, cap, cur, rfl, hb, hh, hn, _⟩
  · omega
  · obtain ⟨c, f, lt, _⟩ := row_look oc
    exact ⟨g, cap, rfl, hn, c _ _ (rowC_at0 D x []), c _ _ (rowC_at1 D x []), f, lt, hb⟩
theorem InT.of_set {D : List CE} {x y : CE} (e : y.1 = x.1) {k : Nat} (i : InT cv wv lv (D ++ [y]) k) : InT cv wv lv (D ++ [x]) k := by
  rcases i with i | ⟨z, hz, i⟩ | i
  · exact .inl i
  · rcases List.mem_append.1 hz with hz | hz
    · exact .inr (.inl ⟨z, List.mem_append_left _ hz, i⟩)
    · rw [List.mem_singleton] at hz
      subst hz
      exact .inr (.inl ⟨x, List.mem_append_right _ List.mem_cons_self, e ▸ i⟩)
  · exact .inr (.inr i)
/-- The last connection has failed. -/
theorem Tl.fail {D : List CE} {x : CE} {g cap : Nat} (h : Tl B w (.slice (some ⟨g, 0, none⟩) (D.length + 1) cap) wv lv (D ++ [x]) wh lo) : Tl B (w.setCell ⟨g, D.length * 2 + 1, none⟩ (.bool true)) (.slice (some ⟨g, 0, none⟩) (D.length + 1) cap) wv lv (D ++ [(x.1, x.2.1, true)]) wh lo ∧ Chg (· = g) w (w.setCell ⟨g, D.length * 2 + 1, none⟩ (.bool true)) := by
  have c : Chg (· = g) w (w.setCell ⟨g, D.length * 2 + 1, none⟩ (.bool true)) := Chg.set _ rfl
  refine ⟨⟨?_, ?_, ?_, chg_row h.ow c (fun k e q => own_ne h.ow h.oc (by decide) e (by rw [q]; rfl)), chg_row h.ol c (fun k e q => own_ne h.ol h.oc (by decide) e (by rw [q]; rfl)), h.aw⟩, c⟩
  · have oc := h.oc
    rw [List.length_append, List.length_singleton] at oc ⊢
    have := row_put oc (D.length * 2 + 1) (by omega) (.bool true)
    rw [rowC_set1] at this
    exact this
  · intro y hy
    have hy2 : ∃ z ∈ D ++ [x], z.1 = y.1 ∧ z.2.1 = y.2.1 := by
      rcases List.mem_append.1 hy with hy | hy
      · exact ⟨y, List.mem_append_left _ hy, rfl, rfl⟩
      · rw [List.mem_singleton] at hy; subst hy
        exact ⟨x, List.mem_append_right _ List.mem_cons_self, rfl, rfl⟩
    obtain ⟨z, hz, e1, e2⟩ := hy2
    rw [← e1, ← e2]
    exact chg_row (h.ob z hz) c (fun k e q => own_ne (h.ob z hz) h.oc (by decide) e (by rw [q]; rfl))
  · have ap := h.ap
    rw [List.pairwise_append] at ap ⊢
    exact ⟨ap.1, List.pairwise_singleton _ _, fun a ha b hb => by rw [List.mem_singleton] at hb; subst hb; exact ap.2.2 a ha x List.mem_cons_self⟩
/-- The last connection has more bytes. -/
theorem Tl.more {D : List CE} {x : CE} {g cap : Nat} (h : Tl B w (.slice (some ⟨g, 0, none⟩) (D.length + 1) cap) wv lv (D ++ [x]) wh lo) {v : Value} {l : List UInt8} {w1 : World} (o : w1.ownsRow B 5 1 v l.length (rowB l)) (gr : w.grownBy w1 x.1.ownBlock) (mv : v.ownBlock = x.1.ownBlock ∨ v.ownBlock = some w.heap.size) :
    Tl B (w1.setCell ⟨g, D.length * 2, none⟩ v) (.slice (some ⟨g, 0, none⟩) (D.length + 1) cap) wv lv (D ++ [(v, l, x.2.2)]) wh lo ∧ Chg (fun k => k = g ∨ x.1.ownBlock = some k) w (w1.setCell ⟨g, D.length * 2, none⟩ v) := by
  have hx : x ∈ D ++ [x] := List.mem_append_right _ List.mem_cons_self
  have c1 : Chg (fun k => x.1.ownBlock = some k) w w1 := Chg.grown gr (fun k e => e)
  have oc1 := chg_row h.oc c1 (fun k e q => own_ne h.oc (h.ob x hx) (by decide) e q)
  have c2 : Chg (· = g) w1 (w1.setCell ⟨g, D.length * 2, none⟩ v) := Chg.set _ rfl
  have c : Chg (fun k => k = g ∨ x.1.ownBlock = some k) w (w1.setCell ⟨g, D.length * 2, none⟩ v) := (c1.mono (fun k e => .inr e)).trans c2 (fun j _ e => .inl e)
  have gn : Value.ownBlock (.slice (some ⟨g, 0, none⟩) (D.length + 1) cap) = some g := rfl
  refine ⟨⟨?_, ?_, ?_, chg_row h.ow c (fun k e q => ?_), chg_row h.ol c (fun k e q => ?_), h.aw⟩, c⟩
  · rw [List.length_append, List.length_singleton] at oc1 ⊢
    have := row_put oc1 (D.length * 2) (by omega) v
    rw [rowC_set0 D x [] v l] at this
    exact this
  · intro y hy
    rcases List.mem_append.1 hy with hy | hy
    · have hyy : y ∈ D ++ [x] := List.mem_append_left _ hy
      refine chg_row (h.ob y hyy) c (fun k e q => ?_)
      rcases q with q | q
      · exact own_ne (h.ob y hyy) h.oc (by decide) e (by rw [q]; rfl)
      · have ap := h.ap
        rw [List.pairwise_append] at ap
        exact ap.2.2 y hy x List.mem_cons_self k e q
    · rw [List.mem_singleton] at hy; subst hy
      exact chg_row o c2 (fun k e q => own_ne o oc1 (by decide) e (by rw [q]; rfl))
  · have ap := h.ap
    rw [List.pairwise_append] at ap ⊢
    refine ⟨ap.1, List.pairwise_singleton _ _, fun a ha b hb => ?_⟩
    rw [List.mem_singleton] at hb; subst hb
    exact (Apt.moved (ap.2.2 a ha x List.mem_cons_self).symm (h.ob a (List.mem_append_left _ ha)) mv).symm
  · rcases q with q | q
    · exact own_ne h.ow h.oc (by decide) e (by rw [q]; rfl)
    · exact own_ne h.ow (h.ob x hx) (by decide) e q
  · rcases q with q | q
    · exact own_ne h.ol h.oc (by decide) e (by rw [q]; rfl)
    · exact own_ne h.ol (h.ob x hx) (by decide) e q
/-- A new connection. -/
theorem Tl.conn (h : Tl B w cv wv lv C wh lo) {v : Value} {w1 : World} (o : w1.ownsRow B 53 2 v (C.length + 1) (rowC C ++ [.slice none 0 0, .bool false])) (gr : w.grownBy w1 cv.ownBlock) :
    Tl B w1 v wv lv (C ++ [(.slice none 0 0, [], false)]) wh lo ∧ Chg (fun k => cv.ownBlock = some k) w w1 := by
  have c : Chg (fun k => cv.ownBlock = some k) w w1 := Chg.grown gr (fun k e => e)
  refine ⟨⟨?_, ?_, ?_, chg_row h.ow c (fun k e q => own_ne h.ow h.oc (by decide) e q), chg_row h.ol c (fun k e q => own_ne h.ol h.oc (by decide) e q), h.aw⟩, c⟩
  · rw [List.length_append, List.length_singleton, rowC_app]; exact o
  · intro y hy
    rcases List.mem_append.1 hy with hy | hy
    · exact chg_row (h.ob y hy) c (fun k e q => own_ne (h.ob y hy) h.oc (by decide) e q)
    · rw [List.mem_singleton] at hy; subst hy
      exact ⟨rfl, .inl ⟨rfl, rfl⟩⟩
  · rw [List.pairwise_append]
    exact ⟨h.ap, List.pairwise_singleton _ _, fun a ha b hb => by rw [List.mem_singleton] at hb; subst hb; exact (Apt.nil _).symm⟩
/-- One more whole frame. -/
theorem Tl.whole (h : Tl B w cv wv lv C wh lo) {v : Value} {id : Int} {w1 : World} (o : w1.ownsRow B 2 1 v (wh.length + 1) (rowI wh ++ [.int .i64 id])) (gr : w.grownBy w1 wv.ownBlock) (mv : v.ownBlock = wv.ownBlock ∨ v.ownBlock = some w.heap.size) :
    Tl B w1 cv v lv C (wh ++ [id]) lo ∧ Chg (fun k => wv.ownBlock = some k) w w1 := by
  have c : Chg (fun k => wv.ownBlock = some k) w w1 := Chg.grown gr (fun k e => e)
  exact ⟨⟨chg_row h.oc c (fun k e q => own_ne h.oc h.ow (by decide) e q), fun y hy => chg_row (h.ob y hy) c (fun k e q => own_ne (h.ob y hy) h.ow (by decide) e q), h.ap, by rw [List.length_append, List.length_singleton, rowI_app]; exact o, chg_row h.ol c (fun k e q => h.aw k q e), Apt.moved h.aw h.ol mv⟩, c⟩
/-- One more lost frame. -/
theorem Tl.lose (h : Tl B w cv wv lv C wh lo) {v : Value} {id : Int} {w1 : World} (o : w1.ownsRow B 2 1 v (lo.length + 1) (rowI lo ++ [.int .i64 id])) (gr : w.grownBy w1 lv.ownBlock) (mv : v.ownBlock = lv.ownBlock ∨ v.ownBlock = some w.heap.size) :
    Tl B w1 cv wv v C wh (lo ++ [id]) ∧ Chg (fun k => lv.ownBlock = some k) w w1 := by
  have c : Chg (fun k => lv.ownBlock = some k) w w1 := Chg.grown gr (fun k e => e)
  exact ⟨⟨chg_row h.oc c (fun k e q => own_ne h.oc h.ol (by decide) e q), fun y hy => chg_row (h.ob y hy) c (fun k e q => own_ne (h.ob y hy) h.ol (by decide) e q), h.ap, chg_row h.ow c (fun k e q => h.aw k e q), by rw [List.length_append, List.length_singleton, rowI_app]; exact o, (Apt.moved h.aw.symm h.ow mv).symm⟩, c⟩
end
end Go.Proofs.YtbahhlgcebgfeaaDoor
