/- sink: Report. -/
import Derived.Test.YtbahhlgcebgfeaaDoorSnk7
import Derived.Deep.RegionHeld3
import Derived.Deep.DeepCutAuto
namespace Go.Proofs.YtbahhlgcebgfeaaDoor
set_option linter.unusedVariables false
set_option linter.unusedSimpArgs false
open Go.RowKit W
theorem rowI_one (l : List Int) : ∀ u ∈ rowI l, u.oneCell' = true := by
  intro u hu
  obtain ⟨x, _, rfl⟩ := List.mem_map.1 hu
  rfl
/-- A row of one's own, cloned in a later world. -/
theorem clone_own_i {B : Nat} {w : World} {v : Value} {l : List Int} (o : w.ownsRow B 2 1 v l.length (rowI l)) (hb : l.length ≤ 4000000000000) {W : World} (b : Below w.heap.size w W) :
    Calls Tryd.prog 25 #[v] W fun e w' => ∃ v', e = .returned v' ∧ w'.ownsRow W.heap.size 2 1 v' l.length (rowI l) ∧ Below W.heap.size W w' := by
  obtain ⟨A, c, rfl, hc, hn⟩ := own_form o
  refine clone_i (w := W) (by rw [rowI_len, Nat.mul_one]) hn ?_ (rowI_one l) (by omega)
  rintro ad rfl j u hu
  have lt := (own_old o (j := ad.block) rfl).2
  have ea : ad = ⟨ad.block, 0, none⟩ := by
    rcases o.2 with ⟨e, _⟩ | ⟨g, cap, cur, e, _⟩
    · cases e
    · injection e with e1
      injection e1 with e1
      rw [e1]
  have := World.ownsRow.cells o (g := ad.block) (by rfl) j u hu
  rw [← ea] at this
  exact ⟨(b.cell (by rw [addr_blk]; exact lt)).trans this, Nat.lt_of_lt_of_le lt b.size⟩
theorem clone_own_b {B : Nat} {w : World} {v : Value} {l : List UInt8} (o : w.ownsRow B 5 1 v l.length (rowB l)) (hb : l.length ≤ 140737488355328) {W : World} (b : Below w.heap.size w W) :
    Calls Tryd.prog 26 #[v] W fun e w' => ∃ v', e = .returned v' ∧ w'.ownsRow W.heap.size 5 1 v' l.length (rowB l) ∧ Below W.heap.size W w' := by
  obtain ⟨A, c, rfl, hc, hn⟩ := own_form o
  refine clone_b (w := W) (by rw [rowB_len, Nat.mul_one]) hn ?_ (rowB_one l) (by omega)
  rintro ad rfl j u hu
  have lt := (own_old o (j := ad.block) rfl).2
  have ea : ad = ⟨ad.block, 0, none⟩ := by
    rcases o.2 with ⟨e, _⟩ | ⟨g, cap, cur, e, _⟩
    · cases e
    · injection e with e1
      injection e1 with e1
      rw [e1]
  have := World.ownsRow.cells o (g := ad.block) (by rfl) j u hu
  rw [← ea] at this
  exact ⟨(b.cell (by rw [addr_blk]; exact lt)).trans this, Nat.lt_of_lt_of_le lt b.size⟩
/-- One more connection, cloned. -/
theorem Tl.addc {B : Nat} {w w1 : World} {cv wv lv v y : Value} {C : List CE} {wh lo : List Int} {bs : List UInt8} {f : Bool} (h : Tl B w cv wv lv C wh lo) (oy : w.ownsRow B 5 1 y bs.length (rowB bs)) (ay : ∀ x ∈ C, Apt x.1 y) (o : w1.ownsRow B 53 2 v (C.length + 1) (rowC C ++ [y, .bool f])) (gr : w.grownBy w1 cv.ownBlock) :
    Tl B w1 v wv lv (C ++ [(y, bs, f)]) wh lo := by
  have c : Chg (fun k => cv.ownBlock = some k) w w1 := Chg.grown gr (fun k e => e)
  refine ⟨?_, ?_, ?_, chg_row h.ow c (fun k e q => own_ne h.ow h.oc (by decide) e q), chg_row h.ol c (fun k e q => own_ne h.ol h.oc (by decide) e q), h.aw⟩
  · rw [List.length_append, List.length_singleton, rowC_app]; exact o
  · intro x hx
    rcases List.mem_append.1 hx with hx | hx
    · exact chg_row (h.ob x hx) c (fun k e q => own_ne (h.ob x hx) h.oc (by decide) e q)
    · rw [List.mem_singleton] at hx; subst hx
      exact chg_row oy c (fun k e q => own_ne oy h.oc (by decide) e q)
  · rw [List.pairwise_append]
    exact ⟨h.ap, List.pairwise_singleton _ _, fun a ha b hb => by rw [List.mem_singleton] at hb; subst hb; exact ay a ha⟩
def RpPost (w : World) (S : SS) (e : Ending) (w' : World) : Prop := ∃ cv wv lv C, e = .returned (.agg #[cv, wv, lv, .int .i64 S.n]) ∧ Tl w.heap.size w' cv wv lv C S.wh S.lo ∧ C.map (fun y : CE => y.2) = S.cs ∧ Below w.heap.size w w'
/-- The answer's box in the midst of Report. -/
structure RpBox (w0 w' : World) (G : Nat) (cv v5 v6 : Value) (n : Int) (wh lo : List Int) : Prop where
  bx : w'.heap[G]? = some (.cells #[cv, v5, v6, .int .i64 n] 38 (0, 0))
  o5 : w'.ownsRow w0.heap.size 2 1 v5 wh.length (rowI wh)
  o6 : w'.ownsRow w0.heap.size 2 1 v6 lo.length (rowI lo)
  ap : Apt v5 v6
  be : Below w0.heap.size w0 w'
  le : w0.heap.size ≤ G
theorem own_base {w : World} {b b' e s n : Nat} {v : Value} {xs : List Value} (h : w.ownsRow b e s v n xs) (l : b' ≤ b) : w.ownsRow b' e s v n xs := by
  refine ⟨h.1, h.2.imp id ?_⟩
  rintro ⟨g, cap, cur, rfl, hb, r⟩
  exact ⟨g, cap, cur, rfl, Nat.le_trans l hb, r⟩
theorem own_later {w w' : World} {b e s n : Nat} {v : Value} {xs : List Value} (h : w.ownsRow b e s v n xs) (k : Below w.heap.size w w') : w'.ownsRow b e s v n xs := chg_row h (Chg.of_below (S := fun _ => False) k) (fun _ _ q => q)
/-- Between the rounds of Report. -/
structure Rl (W0 wr : World) (G : Nat) (cw v5 v6 : Value) (n : Int) (wh lo : List Int) (D : List CE) (cs : List (List UInt8 × Bool)) (k : Nat) : Prop where
  bx : wr.heap[G]? = some (.cells #[cw, v5, v6, .int .i64 n] 38 (0, 0))
  tl : Tl W0.heap.size wr cw v5 v6 D wh lo
  dd : D.map (fun y : CE => y.2) = cs.take k
  be : Below W0.heap.size W0 wr
  le : W0.heap.size ≤ G
theorem Rl.cells {W0 wr : World} {G : Nat} {cw v5 v6 : Value} {n : Int} {wh lo : List Int} {D : List CE} {cs : List (List UInt8 × Bool)} {k : Nat} (h : Rl W0 wr G cw v5 v6 n wh lo D cs k) : wr.cell? ⟨G, 0, none⟩ = some cw ∧ wr.cell? ⟨G, 1, none⟩ = some v5 ∧ wr.cell? ⟨G, 2, none⟩ = some v6 ∧ wr.cell? ⟨G, 3, none⟩ = some (.int .i64 n) ∧ wr.frozen? ⟨G, 0, none⟩ = false ∧ G < wr.heap.size := by
  refine ⟨?_, ?_, ?_, ?_, ?_, blk_lt h.bx⟩
  all_goals simp [World.cell?, World.frozen?, h.bx]
theorem Rl.next {W0 wr wX w1 : World} {G : Nat} {cw v5 v6 v y : Value} {n : Int} {wh lo : List Int} {D : List CE} {cs : List (List UInt8 × Bool)} {k b : Nat} {bs : List UInt8} {f : Bool} (h : Rl W0 wr G cw v5 v6 n wh lo D cs k) (hk : cs.take (k + 1) = cs.take k ++ [(bs, f)]) (bX : Below wr.heap.size wr wX) (oy : wX.ownsRow b 5 1 y bs.length (rowB bs)) (lb : wr.heap.size ≤ b) (o : w1.ownsRow W0.heap.size 53 2 v (D.length + 1) (rowC D ++ [y, .bool f])) (gr : wX.grownBy w1 cw.ownBlock) :
    Rl W0 (w1.setCell ⟨G, 0, none⟩ v) G v v5 v6 n wh lo (D ++ [(y, bs, f)]) cs (k + 1) := by
  have tX := h.tl.later bX
  have oc := tX.oc
  have t1 := tX.addc (own_base oy (Nat.le_trans h.be.size lb)) (fun x hx j e q => by have h1 := (own_old (h.tl.ob x hx) e).2; have h2 := (own_old oy q).1; omega) o gr
  have bx1 : w1.heap[G]? = some (.cells #[cw, v5, v6, .int .i64 n] 38 (0, 0)) := ((Chg.grown (S := fun k => cw.ownBlock = some k) gr (fun k e => e)).block G (Nat.lt_of_lt_of_le (blk_lt h.bx) bX.size) (fun e => own_ne_blk h.tl.oc h.bx (by decide) e rfl)).trans ((bX.block G (blk_lt h.bx)).trans h.bx)
  have c := Chg.set (S := (· = G)) (a := w1) (g := G) (i := 0) v rfl
  have b1 : Below W0.heap.size W0 w1 := (h.be.trans (bX.mono h.be.size)).grown gr (Nat.le_trans h.be.size bX.size) (fun j e => (own_old h.tl.oc e).1)
  refine ⟨?_, t1.chg c (fun j i q => t1.no bx1 (by decide) (by decide) (by decide) i q), by rw [List.map_append, h.dd, hk]; rfl, b1.trans (c.below (fun j q => q ▸ h.le) b1.size), h.le⟩
  simp [World.setCell, Array.getElem?_modify, bx1]
/-- append of a connection, as a step of a region that draws. -/
theorem step_append_conn {ops : Array Oper} {o : Oper} {a : Act} {w : World} {K : Act → World → Prop} {Q : Exit → Act → World → Prop} {E : Prop} (hgd : o.guard = none) (s x : Operand)
    (ho : o.op = .call { callee := .builtin .append, args := #[s, x], argTypes := #[35, 35] }) (B : Nat) (cv : Value) (C : List CE) (hs : a.eval s = cv) (hown : w.ownsRow B 53 2 cv C.length (rowC C)) (g : Nat) (y : Value) (b : Bool) (hx : a.eval x = .slice (some ⟨g, 0, none⟩) 1 1) (hy : y.oneCell' = true) (x0 : w.cell? ⟨g, 0, none⟩ = some y) (x1 : w.cell? ⟨g, 1, none⟩ = some (.bool b))
    (hl : C.length ≤ 4000000000000) (hB : B ≤ w.heap.size) (h : ∀ v' w', w'.ownsRow B 53 2 v' (C.length + 1) (rowC C ++ [y, .bool b]) → w.grownBy w' cv.ownBlock → K (a.put o.dst v') w') : if Region.wanted o (yielded ops a.tmps) = true then Oper.wp Tryd.prog o a w K Q else E := by
  obtain ⟨i0, hi0, hz0, hz1, hz2⟩ := info_parts info_conn
  refine step_append_at hgd s x 35 ho B 53 i0 (.agg #[.slice none 0 0, .bool false]) 2 32 Tryd.underlying35 hi0 hz0 hz1 hz2 rfl (by decide) cv C.length (rowC C) hs hown ⟨g, 0, none⟩ 1 1 [y, .bool b] hx rfl ?_ ?_ (by unfold maxLen; omega) (by omega) hB (fun v' w' q1 q2 _ => h v' w' q1 q2)
  · intro j u hu
    rw [Go.WideShapes.add_plain, Nat.zero_add]
    rcases j with _ | _ | j
    · rw [List.getElem?_cons_zero] at hu; exact (Option.some.inj hu) ▸ x0
    · rw [List.getElem?_cons_succ, List.getElem?_cons_zero] at hu; exact (Option.some.inj hu) ▸ x1
    · simp at hu
  · intro u hu
    simp only [List.mem_cons, List.not_mem_nil, or_false] at hu
    rcases hu with rfl | rfl
    · exact hy
    · rfl
theorem cell2 {w : World} {g e : Nat} {a b : Value} (h : w.heap[g]? = some (.cells #[a, b] e (0, 0))) : w.cell? ⟨g, 0, none⟩ = some a ∧ w.cell? ⟨g, 1, none⟩ = some b := by
  constructor <;> simp [World.cell?, h]
theorem cell4 {w : World} {g e : Nat} {a b c d : Value} (h : w.heap[g]? = some (.cells #[a, b, c, d] e (0, 0))) : w.cell? ⟨g, 0, none⟩ = some a ∧ w.cell? ⟨g, 1, none⟩ = some b ∧ w.cell? ⟨g, 2, none⟩ = some c ∧ w.cell? ⟨g, 3, none⟩ = some d ∧ w.frozen? ⟨g, 0, none⟩ = false := by
  refine ⟨?_, ?_, ?_, ?_, ?_⟩ <;> simp [World.cell?, World.frozen?, h]
/-- What holds in each later world of a round. -/
structure Rw (W1 wr W0 : World) (G : Nat) (bv : Value) (f : Bool) (cw v5 v6 : Value) (n : Int) (dn : Nat) (D : List CE) (X : World) : Prop where
  bc : X.heap[wr.heap.size]? = some (.cells #[bv, .bool f] 53 (0, 0))
  bg : X.heap[G]? = some (.cells #[cw, v5, v6, .int .i64 n] 38 (0, 0))
  oc : X.ownsRow W0.heap.size 53 2 cw D.length (rowC D)
  be : Below wr.heap.size wr X
  le : wr.heap.size < X.heap.size
theorem Rw.next {W1 wr W0 X Y : World} {G : Nat} {bv : Value} {f : Bool} {cw v5 v6 : Value} {n : Int} {dn : Nat} {D : List CE} (h : Rw W1 wr W0 G bv f cw v5 v6 n dn D X) (b : Below X.heap.size X Y) : Rw W1 wr W0 G bv f cw v5 v6 n dn D Y :=
  ⟨(b.block _ h.le).trans h.bc, (b.block _ (blk_lt h.bg)).trans h.bg, own_later h.oc b, h.be.trans (b.mono h.be.size), Nat.lt_of_lt_of_le h.le b.size⟩
theorem Rl.done {w W0 wr : World} {G : Nat} {cw v5 v6 a b c d : Value} {n : Int} {wh lo : List Int} {D : List CE} {cs : List (List UInt8 × Bool)} {k : Nat} (h : Rl W0 wr G cw v5 v6 n wh lo D cs k) (hk : cs.take k = cs) (b0 : Below w.heap.size w W0) (X0 : W0.heap[w.heap.size]? = some (.cells #[a, b, c, d] 38 (0, 0))) :
    let w' := (((wr.setCell ⟨w.heap.size, 0, none⟩ cw).setCell ⟨w.heap.size, 1, none⟩ v5).setCell ⟨w.heap.size, 2, none⟩ v6).setCell ⟨w.heap.size, 3, none⟩ (.int .i64 n)
    w'.heap[w.heap.size]? = some (.cells #[cw, v5, v6, .int .i64 n] 38 (0, 0)) ∧ Tl w.heap.size w' cw v5 v6 D wh lo ∧ D.map (fun y : CE => y.2) = cs ∧ Below w.heap.size w w' := by
  have x0 := (h.be.block _ (blk_lt X0)).trans X0
  have ch : Chg (· = w.heap.size) wr ((((wr.setCell ⟨w.heap.size, 0, none⟩ cw).setCell ⟨w.heap.size, 1, none⟩ v5).setCell ⟨w.heap.size, 2, none⟩ v6).setCell ⟨w.heap.size, 3, none⟩ (.int .i64 n)) :=
    (((Chg.set (S := (· = w.heap.size)) _ rfl).trans (Chg.set (S := (· = w.heap.size)) _ rfl) (fun _ _ q => q)).trans (Chg.set (S := (· = w.heap.size)) _ rfl) (fun _ _ q => q)).trans (Chg.set (S := (· = w.heap.size)) _ rfl) (fun _ _ q => q)
  have t := h.tl
  have t0 : Tl w.heap.size wr cw v5 v6 D wh lo := ⟨own_base t.oc b0.size, fun x hx => own_base (t.ob x hx) b0.size, t.ap, own_base t.ow b0.size, own_base t.ol b0.size, t.aw⟩
  have b1 := b0.trans (h.be.mono b0.size)
  refine ⟨by simp [World.setCell, Array.getElem?_modify, x0], t0.chg ch (fun j i q => t0.no x0 (by decide) (by decide) (by decide) i q), h.dd.trans hk, b1.trans (ch.below (fun j q => Nat.le_of_eq q.symm) b1.size)⟩
theorem Rw.grow {W1 wr W0 X Y : World} {G : Nat} {bv : Value} {f : Bool} {cw v5 v6 : Value} {n : Int} {dn : Nat} {D : List CE} (h : Rw W1 wr W0 G bv f cw v5 v6 n dn D X) (hw : ∀ j, cw.ownBlock = some j → j < wr.heap.size) (gr : X.grownBy Y cw.ownBlock) : Y.heap[wr.heap.size]? = some (.cells #[bv, .bool f] 53 (0, 0)) ∧ Y.heap[G]? = some (.cells #[cw, v5, v6, .int .i64 n] 38 (0, 0)) ∧ wr.heap.size < Y.heap.size := by
  have c : Chg (fun k => cw.ownBlock = some k) X Y := Chg.grown gr (fun k e => e)
  exact ⟨(c.block _ h.le (fun e => Nat.lt_irrefl _ (hw _ e))).trans h.bc, (c.block _ (blk_lt h.bg) (fun e => own_ne_blk h.oc h.bg (by decide) e rfl)).trans h.bg, Nat.lt_of_lt_of_le h.le c.size⟩
theorem rp_new {w0 w5 w6 : World} {v5 v6 : Value} {b5 b6 : Nat} {wh lo : List Int} {n5 n6 : Nat} (e5 : n5 = wh.length) (e6 : n6 = lo.length) (n : Int) (o5 : w5.ownsRow b5 2 1 v5 n5 (rowI wh)) (l5 : w0.heap.size ≤ b5) (k6 : Below w5.heap.size w5 w6) (o6 : w6.ownsRow b6 2 1 v6 n6 (rowI lo)) (l6 : w5.heap.size ≤ b6) (be : Below w0.heap.size w0 w6) (le : w0.heap.size ≤ w5.heap.size) : RpBox w0 (w6.alloc (.cells #[.slice none 0 0, v5, v6, .int .i64 n] 38)) w6.heap.size (.slice none 0 0) v5 v6 n wh lo := by
  subst e5 e6
  have b : Below w6.heap.size w6 (w6.alloc (.cells #[.slice none 0 0, v5, v6, .int .i64 n] 38)) := (Below.refl _ _).alloc (Nat.le_refl _) _
  refine ⟨heap_alloc_new w6 _, own_later (own_later (own_base o5 l5) k6) b, own_later (own_base o6 (Nat.le_trans le l6)) b, fun j h q => ?_, be.trans (b.mono be.size), be.size⟩
  have h1 := (own_old o5 h).2
  have h2 := (own_old o6 q).1
  omega
theorem rp_old {w0 w5 w6 : World} {v5 v6 : Value} {b5 b6 G : Nat} {wh lo : List Int} {n5 n6 : Nat} (e5 : n5 = wh.length) (e6 : n6 = lo.length) (n : Int) (o5 : w5.ownsRow b5 2 1 v5 n5 (rowI wh)) (l5 : w0.heap.size ≤ b5) (k6 : Below w5.heap.size w5 w6) (o6 : w6.ownsRow b6 2 1 v6 n6 (rowI lo)) (l6 : w5.heap.size ≤ b6) (be : Below w0.heap.size w0 w6) (le : w0.heap.size ≤ w5.heap.size) (hx : w6.heap[G]? = some (.cells #[.slice none 0 0, .slice none 0 0, .slice none 0 0, .int .i64 0] 38 (0, 0))) (lG : w0.heap.size ≤ G) :
    RpBox w0 ((((w6.setCell ⟨G, 0, none⟩ (.slice none 0 0)).setCell ⟨G, 1, none⟩ v5).setCell ⟨G, 2, none⟩ v6).setCell ⟨G, 3, none⟩ (.int .i64 n)) G (.slice none 0 0) v5 v6 n wh lo := by
  subst e5 e6
  have p5 := own_later (own_base o5 l5) k6
  have p6 := own_base o6 (Nat.le_trans le l6)
  have c : Chg (· = G) w6 ((((w6.setCell ⟨G, 0, none⟩ (.slice none 0 0)).setCell ⟨G, 1, none⟩ v5).setCell ⟨G, 2, none⟩ v6).setCell ⟨G, 3, none⟩ (.int .i64 n)) :=
    (((Chg.set (S := (· = G)) _ rfl).trans (Chg.set (S := (· = G)) _ rfl) (fun _ _ q => q)).trans (Chg.set (S := (· = G)) _ rfl) (fun _ _ q => q)).trans (Chg.set (S := (· = G)) _ rfl) (fun _ _ q => q)
  refine ⟨?_, chg_row p5 c (fun k e q => own_ne_blk p5 hx (by decide) e q), chg_row p6 c (fun k e q => own_ne_blk p6 hx (by decide) e q), fun j h q => ?_, be.trans (c.below (fun k q => q ▸ lG) be.size), lG⟩
  · simp [World.setCell, Array.getElem?_modify, hx]
  · have h1 := (own_old o5 h).2
    have h2 := (own_old o6 q).1
    omega
set_option maxRecDepth 100000 in
set_option maxHeartbeats 8000000 in
theorem report_spec {B : Nat} {w : World} {g : Nat} {S : SS} {M : Nat → Prop} (h : SkA B w g S M) (sm : SmS S 0) : Calls Tryd.prog 15 #[.pointer (some ⟨g, 0, none⟩)] w (RpPost w S) := by
  obtain ⟨pa, pc, cv, wv, lv, C, h⟩ := h
  have H0 := hide h
  have lg := blk_lt h.sb
  have SM := hide sm
  have kM := fun (W : World) (c0 : W.cell? ⟨g, 0, none⟩ = some (.pointer (some ⟨g, 0, none⟩))) => smade c0
  have c0 := h.sb.cells.1
  clear h sm
  go_enter Tryd.func15, Tryd.ntmps15
  go_wp2_with fail
  refine Calls.mono (kM _ ?_) ?_
  · simp [go_sem, c0, lg]
  rintro e w1 ⟨rfl, rfl⟩
  go_upto_region 3 with (fail)
  have b0 : Below w.heap.size w (w.alloc (.cells #[.slice none 0 0, .slice none 0 0, .slice none 0 0, .int .i64 0] 38)) := (Below.refl _ _).alloc (Nat.le_refl _) _
  refine abs_wp (fun X => Hid (SkV B X g S M pa pc cv wv lv C) ∧ Hid (X.heap[w.heap.size]? = some (.cells #[.slice none 0 0, .slice none 0 0, .slice none 0 0, .int .i64 0] 38 (0, 0))) ∧ Hid (Below w.heap.size w X) ∧ w.heap.size < X.heap.size) ⟨hide (H0.out.chg (Chg.of_below (S := fun _ => False) b0) (fun _ _ q => q)), hide (heap_alloc_new w _), hide b0, by simp⟩ ?_
  clear H0 lg kM c0 b0
  rintro W0 ⟨H0, X0, B0, lx⟩
  have cl := H0.out.sb.cells
  have c5 := cl.2.2.2.2.2.1
  have c6 := cl.2.2.2.2.2.2.1
  have c7 := cl.2.2.2.2.2.2.2.1
  have lg := blk_lt H0.out.sb
  obtain ⟨A5, q5, e5, _, _⟩ := own_form H0.out.tl.ow
  obtain ⟨A6, q6, e6, _, _⟩ := own_form H0.out.tl.ol
  have K5 := fun (W : World) (b : Keeps W0.heap.size W0 W) => clone_own_i H0.out.tl.ow SM.out.w (W := W) b.below
  have K6 := fun (W : World) (b : Keeps W0.heap.size W0 W) => clone_own_i H0.out.tl.ol SM.out.o (W := W) b.below
  rw [e5] at c5 K5
  rw [e6] at c6 K6
  have E5 := hide e5
  have E6 := hide e6
  obtain ⟨n5, h5⟩ : ∃ n5, n5 = S.wh.length := ⟨_, rfl⟩
  obtain ⟨n6, h6⟩ : ∃ n6, n6 = S.lo.length := ⟨_, rfl⟩
  rw [← h5] at c5 K5
  rw [← h6] at c6 K6
  clear cl e5 e6
  have N5 := hide h5
  have N6 := hide h6
  clear h5 h6
  go_cut [3] (fun t3 W' => ∃ (G : Nat) (v5 v6 : Value), t3 = .pointer (some ⟨G, 0, none⟩) ∧ RpBox W0 W' G (.slice none 0 0) v5 v6 S.n S.wh S.lo)
  case first =>
    have QK := Keeps.start (Nat.le_refl W0.heap.size)
    have QD := QK.drew
    go_region_held3 (fun w' => w'.cell? ⟨g, 5, none⟩ = some (.slice A5 n5 q5) ∧ w'.cell? ⟨g, 6, none⟩ = some (.slice A6 n6 q6) ∧ w'.cell? ⟨g, 7, none⟩ = some (.int .i64 S.n) ∧ Keeps W0.heap.size W0 w') ((refine (fun K => ⟨Keeps.cell K c5 lg, Keeps.cell K c6 lg, Keeps.cell K c7 lg, K⟩) (?_ : Keeps W0.heap.size W0 _); ((repeat (first | with_reducible assumption | with_reducible refine Keeps.alloc ?_ _ | with_reducible refine Keeps.drew ?_ | with_reducible refine Keeps.setCell ?_ ?_ _)); (all_goals (first | (simp; done) | omega | (simp; omega))))))
      (first
      | (go_at_call 25; (with_reducible refine Calls.mono (K5 _ ?_) ?_); (focus ((repeat (first | with_reducible assumption | with_reducible refine Keeps.alloc ?_ _ | with_reducible refine Keeps.drew ?_ | with_reducible refine Keeps.setCell ?_ ?_ _)); (all_goals (first | (simp; done) | omega | (simp; omega))))); rintro e w5 ⟨v5, rfl, o5, k5⟩; obtain ⟨F5, p5, rfl, _, _⟩ := own_form o5; have O5 := hide o5; have Q5 := Keeps.call (B := W0.heap.size) (W := W0) (by (repeat (first | with_reducible assumption | with_reducible refine Keeps.alloc ?_ _ | with_reducible refine Keeps.drew ?_ | with_reducible refine Keeps.setCell ?_ ?_ _)); (all_goals (first | (simp; done) | omega | (simp; omega)))) k5; obtain ⟨bc5, bf5, bs5⟩ := bcell k5; (try simp only [World.size_alloc, World.size_drew] at bc5 bf5 bs5); (try (have ow50 : W0.heap.size < w5.heap.size := by omega)); (try (have ow51 : W0.heap.size ≤ w5.heap.size := by omega)); (try (have ow52 : ¬ W0.heap.size = w5.heap.size := by omega)); (try (have ow53 : ¬ w5.heap.size = W0.heap.size := by omega)); (try (have ow54 : W0.heap.size + 1 < w5.heap.size := by omega)); (try (have ow55 : W0.heap.size + 1 ≤ w5.heap.size := by omega)); (try (have ow56 : ¬ W0.heap.size + 1 = w5.heap.size := by omega)); (try (have ow57 : ¬ w5.heap.size = W0.heap.size + 1 := by omega)); clear o5)
      | (go_at_call 25; (with_reducible refine Calls.mono (K6 _ ?_) ?_); (focus ((repeat (first | with_reducible assumption | with_reducible refine Keeps.alloc ?_ _ | with_reducible refine Keeps.drew ?_ | with_reducible refine Keeps.setCell ?_ ?_ _)); (all_goals (first | (simp; done) | omega | (simp; omega))))); rintro e w6 ⟨v6, rfl, o6, k6⟩; obtain ⟨F6, p6, rfl, _, _⟩ := own_form o6; have O6 := hide o6; have Q6 := Keeps.call (B := W0.heap.size) (W := W0) (by (repeat (first | with_reducible assumption | with_reducible refine Keeps.alloc ?_ _ | with_reducible refine Keeps.drew ?_ | with_reducible refine Keeps.setCell ?_ ?_ _)); (all_goals (first | (simp; done) | omega | (simp; omega)))) k6; obtain ⟨bc6, bf6, bs6⟩ := bcell k6; (try simp only [World.size_alloc, World.size_drew] at bc6 bf6 bs6); (try (have ow60 : W0.heap.size < w6.heap.size := by omega)); (try (have ow61 : W0.heap.size ≤ w6.heap.size := by omega)); (try (have ow62 : ¬ W0.heap.size = w6.heap.size := by omega)); (try (have ow63 : ¬ w6.heap.size = W0.heap.size := by omega)); (try (have ow64 : W0.heap.size + 1 < w6.heap.size := by omega)); (try (have ow65 : W0.heap.size + 1 ≤ w6.heap.size := by omega)); (try (have ow66 : ¬ W0.heap.size + 1 = w6.heap.size := by omega)); (try (have ow67 : ¬ w6.heap.size = W0.heap.size + 1 := by omega)); clear o6))
    all_goals
      go_wp2_with fail
      go_meet
      case rel =>
        have le5 := k5.size
        first
          | exact ⟨_, _, _, rfl, rp_new N5.out N6.out S.n O5.out (Nat.le_refl _) k6 O6.out (Nat.le_refl _) Q6.below Q5.below.size⟩
          | exact ⟨_, _, _, rfl, rp_old N5.out N6.out S.n O5.out (by simp) (((Below.refl _ _).alloc (Nat.le_refl _) _).trans (k6.mono (by simp))) O6.out (by simp) Q6.below Q5.below.size ((k6.block _ (by simp)).trans (heap_alloc_new w5 _)) Q5.below.size⟩
          | exact ⟨_, _, _, rfl, rp_old N5.out N6.out S.n O5.out (by simp) k6 O6.out (Nat.le_refl _) Q6.below Q5.below.size ((k6.block _ (by simp at le5; omega)).trans ((k5.block _ (by simp)).trans (heap_alloc_new W0 _))) (Nat.le_refl _)⟩
          | trace_state
  case rest =>
    obtain ⟨G, v5, v6, rfl, RB⟩ := hcut
    obtain ⟨F5, p5, rfl, _, _⟩ := own_form RB.o5
    obtain ⟨F6, p6, rfl, _, _⟩ := own_form RB.o6
    have HC := hide (H0.out.chg (Chg.of_below (S := fun _ => False) RB.be) (fun _ _ q => q))
    have R0 : Hid (Rl W0 wc G (.slice none 0 0) (.slice F5 S.wh.length p5) (.slice F6 S.lo.length p6) S.n S.wh S.lo [] S.cs 0) := hide ⟨RB.bx, ⟨⟨rfl, .inl ⟨rfl, rfl⟩⟩, fun x hx => (by cases hx), List.Pairwise.nil, RB.o5, RB.o6, RB.ap⟩, rfl, RB.be, RB.le⟩
    have cc := HC.out.sb.cells.2.2.1
    have lgc := blk_lt HC.out.sb
    obtain ⟨A, qc, ec, _, hA⟩ := own_form HC.out.tl.oc
    rw [ec] at cc
    have EC := hide ec
    obtain ⟨m, hm⟩ : ∃ m, m = C.length := ⟨_, rfl⟩
    rw [← hm] at cc
    have HM := hide hm
    have hm4 : m ≤ 4000000000000 := by have := SM.out.c; rw [← H0.out.cs, List.length_map] at this; omega
    clear RB ec hm c5 c6 c7 K5 K6 E5 E6 N5 N6 lg hA
    go_wp2_with fail
    go_loopw [30] (fun i wr => ∃ (k : Nat) (cw : Value) (D : List CE), k ≤ m ∧ i = .int .i64 k ∧ Hid (Rl W0 wr G cw (.slice F5 S.wh.length p5) (.slice F6 S.lo.length p6) S.n S.wh S.lo D S.cs k)) (fun i _ => m - (intOf i).toNat)
    case atStart => exact ⟨0, _, _, by omega, rfl, R0⟩
    case round =>
      clear R0 cc lgc HC
      obtain ⟨k, cw, D, hk, rfl, RR⟩ := hrel
      by_cases hlt : k < m
      · have kC : k < C.length := by have := HM.out; omega
        have HC := hide (H0.out.chg (Chg.of_below (S := fun _ => False) RR.out.be) (fun _ _ q => q))
        obtain ⟨⟨bv, bs, f⟩, hx⟩ : ∃ x, x = C[k] := ⟨_, rfl⟩
        have hxm : ((bv, bs, f) : CE) ∈ C := hx ▸ List.getElem_mem _
        have TK : Hid (S.cs.take (k + 1) = S.cs.take k ++ [(bs, f)]) := by
          have e1 : k < S.cs.length := by rw [← H0.out.cs, List.length_map]; exact kC
          have e2 : S.cs[k]'e1 = (bs, f) := by
            have : (C.map (fun y : CE => y.2))[k]'(by rw [List.length_map]; exact kC) = (bs, f) := by rw [List.getElem_map, ← hx]
            simpa [H0.out.cs] using this
          rw [List.take_succ_eq_append_getElem e1, e2]
          exact hide rfl
        have oc := HC.out.tl.oc
        rw [EC.out] at oc
        obtain ⟨gc, rfl⟩ : ∃ gc, A = some ⟨gc, 0, none⟩ := by
          rcases oc.2 with ⟨e, q⟩ | ⟨gc, cap, cur, e, _⟩
          · omega
          · injection e with e; exact ⟨gc, e⟩
        obtain ⟨lc, _, lgc, _⟩ := row_look oc
        have sp : C = C.take k ++ C[k] :: C.drop (k + 1) := by rw [List.getElem_cons_drop kC, List.take_append_drop]
        have x0 : wr.cell? ⟨gc, k * 2, none⟩ = some bv := lc _ _ (by have := rowC_at0 (C.take k) C[k] (C.drop (k + 1)); rw [← sp, List.length_take, Nat.min_eq_left (by omega), ← hx] at this; exact this)
        have x1 : wr.cell? ⟨gc, k * 2 + 1, none⟩ = some (.bool f) := lc _ _ (by have := rowC_at1 (C.take k) C[k] (C.drop (k + 1)); rw [← sp, List.length_take, Nat.min_eq_left (by omega), ← hx] at this; exact this)
        have OBV := HC.out.tl.ob _ hxm
        simp only at OBV
        have SB8 : bs.length ≤ 140737488355328 := by have := SM.out.b (bs, f) (by rw [← H0.out.cs]; exact List.mem_map.2 ⟨_, hxm, rfl⟩); simp only at this; omega
        have KB := fun (W : World) (b : Below wr.heap.size wr W) => clone_own_b OBV SB8 (W := W) b
        obtain ⟨g0, g1, g2, g3, g4, lG⟩ := RR.out.cells
        have hlt' : (k : Int) < (m : Int) := by omega
        have dl : D.length ≤ 4000000000000 := by
          have := RR.out.dd
          have := congrArg List.length this
          rw [List.length_map, List.length_take] at this
          omega
        obtain ⟨Ab, qb, eb, _, _⟩ := own_form OBV
        rw [eb] at KB x0
        obtain ⟨nb, hnb⟩ : ∃ nb, nb = bs.length := ⟨_, rfl⟩
        rw [← hnb] at KB x0
        have NB := hide hnb
        have OCW := RR.out.tl.oc
        obtain ⟨Aw, qw, ew, _, _⟩ := own_form OCW
        rw [ew] at g0
        obtain ⟨dn, hdn⟩ : ∃ dn, dn = D.length := ⟨_, rfl⟩
        rw [← hdn] at g0
        have DN := hide hdn
        have EW := hide ew
        have OLW : Hid (∀ j, cw.ownBlock = some j → j < wr.heap.size) := hide (fun j e => (own_old OCW e).2)
        have CWL : Hid (W0.heap.size ≤ wr.heap.size) := hide RR.out.be.size
        clear oc sp lc OBV SB8 hx hxm eb hnb hdn ew OCW
        go_upto_region 7 with (fail)
        refine abs_wp (fun X => Hid (Rw X wr W0 G (.slice Ab nb qb) f cw (.slice F5 S.wh.length p5) (.slice F6 S.lo.length p6) S.n dn D X)) ?_ ?_
        · have b0 : Below wr.heap.size wr (wr.alloc (.cells #[.slice Ab nb qb, .bool f] 53)) := (Below.refl _ _).alloc (Nat.le_refl _) _
          exact hide ⟨heap_alloc_new wr _, (b0.block _ lG).trans RR.out.bx, own_later RR.out.tl.oc b0, b0, by simp⟩
        rintro W1 RW
        obtain ⟨z0, z1⟩ := cell2 RW.out.bc
        obtain ⟨z2, _, _, _, _⟩ := cell4 RW.out.bg
        rw [EW.out, ← DN.out] at z2
        clear g0 g1 g2 g3 g4 x0 x1 lgc
        have KB1 := fun (W : World) (b : Below W1.heap.size W1 W) => KB W (RW.out.next b).be
        clear KB
        go_region_law (first | (go_simp; go_at_call 26; (with_reducible refine Calls.mono (KB1 _ ?_) ?_); (focus (repeat (first | exact Below.refl _ _ | with_reducible assumption | with_reducible refine Below.alloc ?_ (Nat.le_refl _) _ | with_reducible refine Below.drew ?_ | (with_reducible refine Below.alloc ?_ ?_ _) | (simp; done)))); rintro e w5 ⟨y, rfl, o5, k5⟩; obtain ⟨F7, p7, rfl, _, _⟩ := own_form o5; have O5 := hide o5; have RX := hide ((RW.out.next (by (repeat (first | exact Below.refl _ _ | with_reducible assumption | with_reducible refine Below.alloc ?_ (Nat.le_refl _) _ | with_reducible refine Below.drew ?_ | (with_reducible refine Below.alloc ?_ ?_ _) | (simp; done))))).next k5); have K5 := hide k5; obtain ⟨zz0, zz1⟩ := cell2 RX.out.bc; obtain ⟨zz2, _, _, _, _⟩ := cell4 RX.out.bg; rw [EW.out, ← DN.out] at zz2; have ne0 : wr.heap.size < w5.heap.size := RX.out.le; have ne1 : G < w5.heap.size := blk_lt RX.out.bg; clear o5 k5) | (refine step_append_conn rfl _ _ rfl W0.heap.size cw D ?_ (RX.out.next (by (repeat (first | exact Below.refl _ _ | with_reducible assumption | with_reducible refine Below.alloc ?_ (Nat.le_refl _) _ | with_reducible refine Below.drew ?_ | (with_reducible refine Below.alloc ?_ ?_ _) | (simp; done))))).oc w5.heap.size (.slice F7 nb p7) f ?_ rfl ?_ ?_ dl ?_ ?_; (rw [EW.out, ← DN.out]; rfl); (first | rfl | simp [go_sem]); (simp [go_sem]); (simp [go_sem]); (exact Nat.le_trans CWL.out (Nat.le_trans (Nat.le_of_lt RX.out.le) (by simp))); intro v' w' o' gr; obtain ⟨A', c', rfl, ec, en⟩ := own_form o'; clear ec en; obtain ⟨gb, gg, gl⟩ := (RX.out.next (by (repeat (first | exact Below.refl _ _ | with_reducible assumption | with_reducible refine Below.alloc ?_ (Nat.le_refl _) _ | with_reducible refine Below.drew ?_ | (with_reducible refine Below.alloc ?_ ?_ _) | (simp; done))))).grow OLW.out gr; obtain ⟨yy2, _, _, _, yf⟩ := cell4 gg; rw [EW.out, ← DN.out] at yy2; have yl := blk_lt gg; have O' := hide o'; have G' := hide gr; clear o' gr))
        all_goals
          have X5 : Below w5.heap.size w5 (w5.alloc (.cells #[.slice F7 nb p7, .bool f] 53)) := (Below.refl _ _).alloc (Nat.le_refl _) _
          have sz1 : wr.heap.size ≤ W1.heap.size := RW.out.be.size
          have oy := own_later O5.out X5
          have RN := hide (RR.out.next TK.out (RX.out.next X5).be (by rw [← NB.out]; exact oy) (by simp only [World.size_drew]; exact sz1) O'.out G'.out)
          generalize w'.setCell ⟨G, 0, none⟩ (.slice A' (D.length + 1) c') = W2 at RN ⊢
          have k1 : IntKind.i64.wrap ((k : Int) + 1) = (k : Int) + 1 := by rw [IntKind.wrap_i64]; omega
          clear gb gg gl yy2 yf yl O' G' X5 oy O5 K5 RX zz0 zz1 zz2 RW KB1 z0 z1 z2
          go_wp2_with fail
          go_roundw
          case rel => exact ⟨k + 1, _, _, by omega, by go_num, RN⟩
          case measure => simp [intOf]; omega
      · obtain rfl : k = m := by omega
        obtain ⟨g0, g1, g2, g3, g4, lG⟩ := RR.out.cells
        have x0 := (RR.out.be.block _ lx).trans X0.out
        have lw := Nat.lt_of_lt_of_le lx RR.out.be.size
        obtain ⟨y0, y1, y2, y3, f0⟩ := cell4 x0
        have f1 : wr.frozen? ⟨w.heap.size, 1, none⟩ = false := by simp [World.frozen?, x0]
        have f2 : wr.frozen? ⟨w.heap.size, 2, none⟩ = false := by simp [World.frozen?, x0]
        have f3 : wr.frozen? ⟨w.heap.size, 3, none⟩ = false := by simp [World.frozen?, x0]
        have LD := hide (RR.out.done (by rw [HM.out, ← List.length_map (f := fun y : CE => y.2), H0.out.cs, List.take_length]) B0.out X0.out)
        obtain ⟨A7, p7, rfl, _, _⟩ := own_form RR.out.tl.oc
        clear x0
        go_wp2_with fail
        obtain ⟨x9, t9, d9, b9⟩ := LD.out
        have T9 := hide t9
        have B9 := hide b9
        generalize (((wr.setCell ⟨w.heap.size, 0, none⟩ (.slice A7 D.length p7)).setCell ⟨w.heap.size, 1, none⟩ (.slice F5 S.wh.length p5)).setCell ⟨w.heap.size, 2, none⟩ (.slice F6 S.lo.length p6)).setCell ⟨w.heap.size, 3, none⟩ (.int .i64 S.n) = W9 at *
        obtain ⟨j0, j1, j2, j3, _⟩ := cell4 x9
        clear LD y0 y1 y2 y3 f0 f1 f2 f3 g0 g1 g2 g3 g4 t9 b9
        try simp only [Exit.inBlock, Exit.then]
        refine bodyPost_ret (by simp [results, Tryd.results15, go_sem, j0, j1, j2, j3]; try rfl) rfl ?_
        · exact ⟨_, _, _, D, rfl, T9.out, d9, B9.out⟩
end Go.Proofs.YtbahhlgcebgfeaaDoor
