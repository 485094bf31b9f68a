/- sink: write. -/
import Derived.Test.YtbahhlgcebgfeaaDoorSkm
import Derived.RegionTactic
import Derived.BigRegion
import Derived.Deep.RegionLaw
import Derived.Maps.AppendAt
import Derived.Lib.MinMax
namespace Go.Proofs.YtbahhlgcebgfeaaDoor
set_option linter.unusedVariables false
set_option linter.unusedSimpArgs false
open Go.RowKit W
/-- append to a row of one's own, as one step of a region that draws. -/
theorem step_append_at {P : Program} {ops : Array Oper} {o : Oper} {a : Act} {w : World} {K : Act → World → Prop} {Q : Exit → Act → World → Prop} {E : Prop} (hgd : o.guard = none) (s x : Operand) (t : TypeId)
    (ho : o.op = .call { callee := .builtin .append, args := #[s, x], argTypes := #[t, t] })
    (base : Nat) (e : TypeId) (i : TypeInfo) (z : Value) (size bytes : Nat) (ht : P.underlying t = some (.slice e)) (hi : P.info? e = some i) (hz : i.zero = some z)
    (hsize : i.size = size) (hby : i.bytes = bytes) (hzs : z.cells.size = size) (hsz : 0 < size)
    (v : Value) (n : Nat) (xs : List Value) (hs : a.eval s = v) (hown : w.ownsRow base e size v n xs)
    (ad : Addr) (m c : Nat) (news : List Value) (hx : a.eval x = .slice (some ad) m c) (hl : news.length = m * size) (hnews : ∀ j u, news[j]? = some u → w.cell? (ad.add j) = some u) (h1 : ∀ u ∈ news, u.oneCell' = true)
    (h63 : n + m ≤ maxLen) (hbytes : (n + m) * bytes ≤ 140737488355328) (hbase : base ≤ w.heap.size)
    (h : ∀ v' w', w'.ownsRow base e size v' (n + m) (xs ++ news) → w.grownBy w' v.ownBlock → (v'.ownBlock = v.ownBlock ∨ v'.ownBlock = some w.heap.size) → K (a.put o.dst v') w') :
    if Region.wanted o (yielded ops a.tmps) = true then Oper.wp P o a w K Q else E := by
  have hw : Region.wanted o (yielded ops a.tmps) = true := by simp [Region.wanted, hgd]
  rw [if_pos hw]
  obtain ⟨v', w', hr, h2, h3, h4, h5⟩ := run_append_own_at (P := P) w base t o.type e i z size bytes ht hi hz hsize hby hzs hsz v n xs hown ad m c news hl hnews h1 h63 hbytes hbase
  unfold Oper.wp execOp
  simp only [ho, resolve, invoke, builtin, Sem.run_bind, Sem.run_pure, Result.andThen_ok, List.map_toArray, List.map_cons, List.map_nil, hs, hx, hr]
  exact h _ _ h2 h3 h5
section
variable {B g : Nat} {w W W' : World} {M : Nat → Prop} {pa : Option Addr} {pc : Nat} {P : List Ch} {cv : Value} {hd : Bool} {last : Int} {wv lv : Value} {n : Int} {C : List CE} {wh lo : List Int} {ba : Option Addr} {bl : List UInt8} {ea : Addr}
/-- The last connection has more bytes. -/
theorem Wk.more {D : List CE} {x : CE} {gc cap : Nat} (h : Wk B g w M W pa pc P (.slice (some ⟨gc, 0, none⟩) (D.length + 1) cap) hd last wv lv n (D ++ [x]) wh lo ba bl ea) {v : Value} {l : List UInt8} {w1 : World} (o : w1.ownsRow B 5 1 v l.length (rowB l)) (gr : W.grownBy w1 x.1.ownBlock) (mv : v.ownBlock = x.1.ownBlock ∨ v.ownBlock = some W.heap.size) :
    Wk B g w M (w1.setCell ⟨gc, D.length * 2, none⟩ v) pa pc P (.slice (some ⟨gc, 0, none⟩) (D.length + 1) cap) hd last wv lv n (D ++ [(v, l, x.2.2)]) wh lo ba bl ea := by
  obtain ⟨t, c⟩ := h.tl.more o gr mv
  have hx : x ∈ D ++ [x] := List.mem_append_right _ List.mem_cons_self
  have f : ∀ k, (k = gc ∨ x.1.ownBlock = some k) → InT (.slice (some ⟨gc, 0, none⟩) (D.length + 1) cap) wv lv (D ++ [x]) k := fun k q => by
    rcases q with q | q
    · exact .inl (by rw [q]; rfl)
    · exact .inr (.inl ⟨x, hx, q⟩)
  refine h.held t c f (fun k i => ?_) (h.sb.chg c (fun q => h.notg (f _ q) rfl))
  rcases i with i | ⟨y, hy, i⟩ | i
  · exact .inl (.inl i)
  · rcases List.mem_append.1 hy with hy | hy
    · exact .inl (.inr (.inl ⟨y, List.mem_append_left _ hy, i⟩))
    · rw [List.mem_singleton] at hy; subst hy
      rcases mv with q | q
      · exact .inl (.inr (.inl ⟨x, hx, q ▸ i⟩))
      · have e : v.ownBlock = some k := i
        rw [q] at e; injection e with e
        exact .inr (Nat.le_of_eq e)
  · exact .inl (.inr (.inr i))
theorem Wk.fail {D : List CE} {x : CE} {gc cap : Nat} (h : Wk B g w M W pa pc P (.slice (some ⟨gc, 0, none⟩) (D.length + 1) cap) hd last wv lv n (D ++ [x]) wh lo ba bl ea) :
    Wk B g w M (W.setCell ⟨gc, D.length * 2 + 1, none⟩ (.bool true)) pa pc P (.slice (some ⟨gc, 0, none⟩) (D.length + 1) cap) hd last wv lv n (D ++ [(x.1, x.2.1, true)]) wh lo ba bl ea := by
  obtain ⟨t, c⟩ := h.tl.fail
  have f : ∀ k, k = gc → InT (.slice (some ⟨gc, 0, none⟩) (D.length + 1) cap) wv lv (D ++ [x]) k := fun k q => .inl (by rw [q]; rfl)
  exact h.held t c f (fun k i => .inl (InT.of_set (x := x) (y := (x.1, x.2.1, true)) rfl i)) (h.sb.chg c (fun q => h.notg (f _ q) rfl))
end
/-- b[:e]. -/
theorem bytes_to {a : Option Addr} {n c e : Nat} (he : e ≤ n) (hc : n ≤ c) : ∀ v, (Instr.slice 30 (.slice a n c) none (some (.int .i64 (e : Int))) none).run Tryd.prog v = .ok (.slice a e c) v := fun v => by
  rw [run_slice_h (P := Tryd.prog) (w := v) 30 a n c (by kernel_rfl) .i64 (e : Int) (by omega) (by omega), size_b]
  simp [Result.andThen, sliced, add0]
theorem cells_bytes {w : World} {ad : Addr} {l : List UInt8} (h : IsBytes w (some ad) l) (k : Nat) : ∀ j u, (rowB (l.take k))[j]? = some u → w.cell? (ad.add j) = some u := by
  intro j u hu
  rcases h with rfl | ⟨g, o, e, lt, h⟩
  · simp [rowB] at hu
  · injection e with e
    subst e
    unfold rowB at hu
    rw [List.getElem?_map, Option.map_eq_some_iff] at hu
    obtain ⟨y, hy, rfl⟩ := hu
    obtain ⟨hj, rfl⟩ := List.getElem?_eq_some_iff.1 hy
    rw [List.length_take] at hj
    rw [Go.WideShapes.add_plain, h j (by omega), List.getElem_take]
theorem Tl.grown {B : Nat} {w w1 : World} {wv lv : Value} {gc m cap : Nat} {D : List CE} {x : CE} {wh lo : List Int} (h : Tl B w (.slice (some ⟨gc, 0, none⟩) (m + 1) cap) wv lv (D ++ [x]) wh lo) (gr : w.grownBy w1 x.1.ownBlock) : (∀ i, w1.cell? ⟨gc, i, none⟩ = w.cell? ⟨gc, i, none⟩) ∧ (∀ i, w1.frozen? ⟨gc, i, none⟩ = w.frozen? ⟨gc, i, none⟩) ∧ gc < w1.heap.size := by
  have hx : x ∈ D ++ [x] := List.mem_append_right _ List.mem_cons_self
  have lt := (own_old h.oc (j := gc) rfl).2
  have c : Chg (fun k => x.1.ownBlock = some k) w w1 := Chg.grown gr (fun k e => e)
  have b := c.block gc lt (fun q => own_ne h.oc (h.ob x hx) (by decide) (j := gc) rfl q)
  exact ⟨fun i => World.cell?_of_block b, fun i => by unfold World.frozen?; rw [b], Nat.lt_of_lt_of_le lt c.size⟩
/-- What write comes to. -/
def WrPost (B g : Nat) (w : World) (M : Nat → Prop) (P : List Ch) (cv : Value) (hd : Bool) (last : Int) (wv lv : Value) (n : Int) (D : List CE) (acc : List UInt8) (f : Bool) (wh lo : List Int) (ba : Option Addr) (bl : List UInt8) (ea : Addr) (e : Ending) (w' : World) : Prop :=
  ∃ pa' pc' x', e = .returned (.tuple #[.int .i64 ((wrF P bl.length).1 : Nat), if (wrF P bl.length).2.1 then EV ea else .nilIface]) ∧ Wk B g w M w' pa' pc' (wrF P bl.length).2.2 cv hd last wv lv (n + 1) (D ++ [(x', acc ++ bl.take (wrF P bl.length).1, f || (wrF P bl.length).2.1)]) wh lo ba bl ea
set_option maxRecDepth 100000 in
set_option maxHeartbeats 8000000 in
theorem write_nil {B g : Nat} {w W : World} {M : Nat → Prop} {pa : Option Addr} {pc : Nat} {cv : Value} {hd : Bool} {last : Int} {wv lv : Value} {n : Int} {D : List CE} {x : Value} {acc : List UInt8} {f : Bool} {wh lo : List Int} {ba : Option Addr} {bl : List UInt8} {bc : Nat} {ea : Addr} 
    (h : Wk B g w M W pa pc [] cv hd last wv lv n (D ++ [(x, acc, f)]) wh lo ba bl ea) (hb : bl ≠ []) (hbc : bl.length ≤ bc) (hn : 0 ≤ n ∧ n ≤ 4611686018427387904) (hz : acc.length + bl.length ≤ 140737488355328) (hD : D.length ≤ 4611686018427387904) :
    Calls Tryd.prog 27 #[.pointer (some ⟨g, 0, none⟩), .slice ba bl.length bc] W (WrPost B g w M [] cv hd last wv lv n D acc f wh lo ba bl ea) := by
  obtain ⟨gc, cap, rfl, hcap, k0, k1, kf, lgc, bgc⟩ := h.tl.last
  obtain ⟨c0, c1, c2, c3, c4, c5, c6, c7, fr, lg⟩ := h.sb.cells
  obtain ⟨m, hm⟩ : ∃ m, m = D.length := ⟨_, rfl⟩
  obtain ⟨q, hq⟩ : ∃ q, q = bl.length := ⟨_, rfl⟩
  obtain ⟨ad, rfl⟩ : ∃ ad, ba = some ad := by
    rcases h.bs with e | ⟨g, o, e, _⟩
    · exact absurd e hb
    · exact ⟨_, e⟩
  have q0 : 0 < q := by rw [hq]; exact List.length_pos_iff.2 hb
  rw [← hm] at c2 k0 k1 hcap hD
  rw [← hq] at hbc hz
  rw [← hq, ← hm]
  have f7 := fr 7
  have W0 := hide h
  have HM := hide hm
  have HQ := hide hq
  have w1 : IntKind.i64.wrap (n + 1) = n + 1 := by rw [IntKind.wrap_i64]; omega
  clear h fr kf hm hq hb
  go_enter Tryd.func27, Tryd.ntmps27
  go_wp2_with fail
  refine abs_wp (fun X => Hid (Wk B g w M X pa pc [] (.slice (some ⟨gc, 0, none⟩) (D.length + 1) cap) hd last wv lv (n + 1) (D ++ [(x, acc, f)]) wh lo (some ad) bl ea)) (W0.out.count (n + 1)) ?_
  clear c0 c1 c2 c3 c4 c5 c6 c7 k0 k1 lg lgc W0 f7 w1
  rintro W1 H1
  have c2 := H1.out.sb.cells.2.2.1
  have lg := H1.out.sb.cells.2.2.2.2.2.2.2.2.2
  rw [← HM.out] at c2
  have s1 : IntKind.i64.wrap (m : Int) = m := by rw [IntKind.wrap_i64]; omega
  have s2 : IntKind.i64.wrap ((m : Int) + 1 - 1) = m := by rw [IntKind.wrap_i64]; omega
  have s3 : (0 : Int) ≤ (m : Int) := by omega
  have s4 : (m : Int) < (m : Int) + 1 := by omega
  go_quiet (fail)
  have H2 := hide (H1.out.later (below_drewN (Below.refl _ _) nq))
  clear s1 s2 s3 s4 H1 c2 lg
  generalize W1.drewN nq = W2 at H2 ⊢
  have c1 := H2.out.sb.cells.2.1
  have lg := H2.out.sb.cells.2.2.2.2.2.2.2.2.2
  have WR : wrF [] bl.length = (q, false, []) := by rw [HQ.out]; rfl
  go_wp2_with fail
  refine abs_wp (fun X => Hid (Wk B g w M X pa pc [] (.slice (some ⟨gc, 0, none⟩) (D.length + 1) cap) hd last wv lv (n + 1) (D ++ [(x, acc, f)]) wh lo (some ad) bl ea) ∧ X.cell? ⟨W2.heap.size, 1, none⟩ = some (.bool false) ∧ W2.heap.size < X.heap.size) ⟨H2.out.later ((Below.refl _ _).alloc (Nat.le_refl _) _), by simp [go_sem], by simp⟩ ?_
  clear c1 lg
  rintro W3 ⟨H3, b1, lb3⟩
  have TL := H3.out.tl
  obtain ⟨gc', cap', e0, _, k0, k1, kf, lgc, _⟩ := TL.last
  obtain ⟨rfl, rfl⟩ : gc' = gc ∧ cap' = cap := by
    injection e0 with e1 _ e2
    injection e1 with e1
    injection e1 with e1
    exact ⟨e1.symm, e2.symm⟩
  rw [← HM.out] at k0 k1 TL
  have OB := TL.ob _ (List.mem_append_right _ List.mem_cons_self)
  have CB := cells_bytes H3.out.bs q
  have sl := bytes_to (a := some ad) (c := bc) (Nat.le_refl q) hbc
  obtain ⟨i0, hi0, hz0, hz1, hz2⟩ := info_parts info_u8
  have lb : (rowB (bl.take q)).length = q * 1 := by rw [rowB_len, List.length_take, Nat.mul_one, ← HQ.out]; omega
  have bw := H3.out.bw
  have bw2 := H3.out.ch.size
  have TLd : Tl B W3.drew _ wv lv _ wh lo := TL.later ((Below.refl _ _).drew)
  have GR := fun w1 gr => Tl.grown (w1 := w1) TLd gr
  have kf0 := kf (m * 2)
  have I0 := hide hi0
  have Z0 := hide hz0
  have Z1 := hide hz1
  have Z2 := hide hz2
  have OBH := hide OB
  have CBH := hide CB
  have LBH := hide lb
  have GRH := hide GR
  have NX : Hid (∀ k, x.ownBlock = some k → k ≠ W2.heap.size) := fun k e => by have := (own_old (H2.out.tl.ob _ (List.mem_append_right _ List.mem_cons_self)) e).2; omega
  clear hi0 hz0 hz1 hz2 TL TLd OB CB lb GR kf
  go_region_law (refine step_append_at rfl _ _ 30 rfl B 5 i0 (.int .u8 0) 1 1 Tryd.underlying30 I0.out Z0.out Z1.out Z2.out rfl (by decide) x acc.length (rowB acc) ?_ OBH.out ad q bc (rowB (bl.take q)) ?_ LBH.out CBH.out (rowB_one _) ?_ ?_ ?_ ?_; (rfl); (rfl); (unfold maxLen; omega); (omega); (exact Nat.le_trans bw bw2); (intro v' w' o' gr mv; obtain ⟨A', c', rfl, ec, en⟩ := own_form o'; clear ec en; have g1 := ((GRH.out w' gr).1 (m * 2)).trans k0; have g2 := ((GRH.out w' gr).2.1 (m * 2)).trans kf0; have g3 := (GRH.out w' gr).2.2; have g4 := ((Chg.grown (S := fun k => x.ownBlock = some k) gr (fun k e => e)).cell (o := 1) lb3 (fun e => NX.out _ e rfl)).trans b1; have g5 := Nat.lt_of_lt_of_le lb3 gr.size; have O' := hide o'; have G' := hide gr; have M' := hide mv; clear o' gr mv))
  have l1 : (acc ++ bl.take q).length = acc.length + q := by rw [List.length_append, List.length_take, ← HQ.out]; omega
  have O2 : w'.ownsRow B 5 1 (.slice A' (acc.length + q) c') (acc ++ bl.take q).length (rowB (acc ++ bl.take q)) := by rw [rowB_app, l1]; exact O'.out
  have H4 := hide ((H3.out.later ((Below.refl _ _).drew)).more O2 G'.out M'.out)
  clear l1 O2
  rw [← HM.out] at H4
  have gne : gc' ≠ W2.heap.size := by have := (own_old H2.out.tl.oc (j := gc') rfl).2; omega
  have b4 : (w'.setCell ⟨gc', m * 2, none⟩ (.slice A' (acc.length + q) c')).cell? ⟨W2.heap.size, 1, none⟩ = some (.bool false) := by
    rw [World.cell?_setCell_other (h := by intro e; injection e with e; exact gne e)]; exact g4
  have l4 : W2.heap.size < (w'.setCell ⟨gc', m * 2, none⟩ (.slice A' (acc.length + q) c')).heap.size := by simpa using g5
  generalize w'.setCell ⟨gc', m * 2, none⟩ (.slice A' (acc.length + q) c') = W4 at H4 b4 l4 ⊢
  clear g1 g2 g3 g4 g5 O' G' M' k0 k1 kf0 lgc sl b1 lb3 H3 OBH CBH LBH GRH NX I0 Z0 Z1 Z2 bw bw2 gne
  go_wp2_with fail
  go_returns
  refine ⟨_, _, _, ?_, by rw [WR]; simpa using H4.out⟩
  rw [WR]; rfl
set_option maxRecDepth 100000 in
set_option maxHeartbeats 8000000 in
theorem write_false {B g : Nat} {w W : World} {M : Nat → Prop} {pa : Option Addr} {pc : Nat} {cv : Value} {hd : Bool} {last : Int} {wv lv : Value} {n : Int} {D : List CE} {x : Value} {acc : List UInt8} {f : Bool} {wh lo : List Int} {ba : Option Addr} {bl : List UInt8} {bc : Nat} {ea : Addr} {c : Int} {r : List Ch}
    (h : Wk B g w M W pa pc ((c, false) :: r) cv hd last wv lv n (D ++ [(x, acc, f)]) wh lo ba bl ea) (hb : bl ≠ []) (hbc : bl.length ≤ bc) (hn : 0 ≤ n ∧ n ≤ 4611686018427387904) (hz : acc.length + bl.length ≤ 140737488355328) (hD : D.length ≤ 4611686018427387904) :
    Calls Tryd.prog 27 #[.pointer (some ⟨g, 0, none⟩), .slice ba bl.length bc] W (WrPost B g w M ((c, false) :: r) cv hd last wv lv n D acc f wh lo ba bl ea) := by
  obtain ⟨gc, cap, rfl, hcap, k0, k1, kf, lgc, bgc⟩ := h.tl.last
  obtain ⟨c0, c1, c2, c3, c4, c5, c6, c7, fr, lg⟩ := h.sb.cells
  obtain ⟨m, hm⟩ : ∃ m, m = D.length := ⟨_, rfl⟩
  obtain ⟨q, hq⟩ : ∃ q, q = bl.length := ⟨_, rfl⟩
  obtain ⟨ad, rfl⟩ : ∃ ad, ba = some ad := by
    rcases h.bs with e | ⟨g, o, e, _⟩
    · exact absurd e hb
    · exact ⟨_, e⟩
  have q0 : 0 < q := by rw [hq]; exact List.length_pos_iff.2 hb
  rw [← hm] at c2 k0 k1 hcap hD
  rw [← hq] at hbc hz
  rw [← hq, ← hm]
  have f7 := fr 7
  have W0 := hide h
  have HM := hide hm
  have HQ := hide hq
  have w1 : IntKind.i64.wrap (n + 1) = n + 1 := by rw [IntKind.wrap_i64]; omega
  obtain ⟨k, hk⟩ : ∃ k, k = tk c q := ⟨_, rfl⟩
  have kq : k ≤ q := by rw [hk]; exact tk_le _ _
  have TK : min (max c 0) (q : Int) = (k : Int) := by rw [hk]; unfold tk; omega
  have HK := hide hk
  clear hk h fr kf hm hq hb
  go_enter Tryd.func27, Tryd.ntmps27
  go_wp2_with fail
  refine abs_wp (fun X => Hid (Wk B g w M X pa pc ((c, false) :: r) (.slice (some ⟨gc, 0, none⟩) (D.length + 1) cap) hd last wv lv (n + 1) (D ++ [(x, acc, f)]) wh lo (some ad) bl ea)) (W0.out.count (n + 1)) ?_
  clear c0 c1 c2 c3 c4 c5 c6 c7 k0 k1 lg lgc W0 f7 w1
  rintro W1 H1
  have c2 := H1.out.sb.cells.2.2.1
  have lg := H1.out.sb.cells.2.2.2.2.2.2.2.2.2
  rw [← HM.out] at c2
  have s1 : IntKind.i64.wrap (m : Int) = m := by rw [IntKind.wrap_i64]; omega
  have s2 : IntKind.i64.wrap ((m : Int) + 1 - 1) = m := by rw [IntKind.wrap_i64]; omega
  have s3 : (0 : Int) ≤ (m : Int) := by omega
  have s4 : (m : Int) < (m : Int) + 1 := by omega
  go_quiet (fail)
  have H2 := hide (H1.out.later (below_drewN (Below.refl _ _) nq))
  clear s1 s2 s3 s4 H1 c2 lg
  generalize W1.drewN nq = W2 at H2 ⊢
  have c1 := H2.out.sb.cells.2.1
  have lg := H2.out.sb.cells.2.2.2.2.2.2.2.2.2
  have WR : wrF ((c, false) :: r) bl.length = (k, false, r) := by rw [← HQ.out]; show (tk c q, false, r) = _; rw [← HK.out]
  obtain ⟨gp, op, rfl, lp, p0, p1⟩ := chs_head H2.out.pl
  simp only at p0 p1
  have pcb := H2.out.pc
  rw [List.length_cons] at pcb
  obtain ⟨a2, sl2, ch2, bk2⟩ := chs_tail H2.out.pl pc pcb.1 pcb.2
  have rl : ((c, false) :: r).length = r.length + 1 := rfl
  rw [rl] at c1
  have f1 := H2.out.sb.cells.2.2.2.2.2.2.2.2.1 1
  have gpn := (H2.out.pn _ rfl).1
  simp only at gpn
  have n1 : ¬ g = gp := fun e => gpn e.symm
  have n2 : ¬ gp = W2.heap.size := by omega
  have n3 : ¬ W2.heap.size = gp := by omega
  have n4 : ¬ g = W2.heap.size := by omega
  have n5 : ¬ W2.heap.size = g := by omega
  have rp : (0 : Int) < (r.length : Int) + 1 := by omega
  obtain ⟨rn, hrn⟩ : ∃ rn, rn = r.length := ⟨_, rfl⟩
  rw [← hrn] at c1 sl2 rp
  have RN := hide hrn
  clear rl hrn pcb
  go_upto_region 5 with (fail)
  refine abs_wp (fun X => Hid (Wk B g w M X (some ⟨gp, op, none⟩) pc ((c, false) :: r) (.slice (some ⟨gc, 0, none⟩) (D.length + 1) cap) hd last wv lv (n + 1) (D ++ [(x, acc, f)]) wh lo (some ad) bl ea) ∧ Hid (Box2 X W2.heap.size (.int .i64 q) (.bool false)) ∧ Hid (IsCh X a2 r)) ⟨H2.out.later ((Below.refl _ _).alloc (Nat.le_refl _) _), ⟨by simp [go_sem], by simp [go_sem], by simp [go_sem], by simp [go_sem], by simp⟩, ch2.chg (Chg.of_below (S := fun _ => False) ((Below.refl _ _).alloc (Nat.le_refl _) _)) (fun _ _ q => q)⟩ ?_
  rintro W3 ⟨H3, X3, I3⟩
  have c13 : W3.cell? ⟨g, 1, none⟩ = some (.slice (some ⟨gp, op, none⟩) (rn + 1) pc) := by have := H3.out.sb.cells.2.1; rw [List.length_cons, ← RN.out] at this; exact this
  have f13 := H3.out.sb.cells.2.2.2.2.2.2.2.2.1 1
  have lg3 := H3.out.sb.cells.2.2.2.2.2.2.2.2.2
  obtain ⟨gp', op', e5, lp3, p03, p13⟩ := chs_head H3.out.pl
  obtain ⟨rfl, rfl⟩ : gp' = gp ∧ op' = op := by
    injection e5 with e1
    injection e1 with e1 e2
    exact ⟨e1.symm, e2.symm⟩
  simp only at p03 p13
  have x0 := X3.out.x
  have x1 := X3.out.y
  have y0 := X3.out.fx
  have y1 := X3.out.fy
  have y2 := X3.out.lt
  clear c1 f1 lg p0 p1 lp
  go_region
  go_upto_region 6 with (fail)
  have HI : ∀ k, InT (.slice (some ⟨gc, 0, none⟩) (D.length + 1) cap) wv lv (D ++ [(x, acc, f)]) k → k < W2.heap.size := fun k i => (H2.out.tl.old i).2
  have lg2 := H2.out.sb.cells.2.2.2.2.2.2.2.2.2
  have hw2 := H2.out.ch.size
  have H3b := (H3.out.box (i := 0) (v := .int .i64 c) hw2 lg2 HI).box (i := 1) (v := .bool false) hw2 lg2 HI
  have CX : Chg (· = W2.heap.size) W3 ((W3.setCell ⟨W2.heap.size, 0, none⟩ (.int .i64 c)).setCell ⟨W2.heap.size, 1, none⟩ (.bool false)) := (Chg.set (S := (· = W2.heap.size)) _ rfl).trans (Chg.set (S := (· = W2.heap.size)) _ rfl) (fun _ _ q => q)
  have pnb : ∀ y, a2 = some y → y.block ≠ W2.heap.size := fun y e => by
    obtain ⟨z, hz, q⟩ := bk2 y e
    have := (H2.out.pn z hz).2.2
    omega
  have H4a := hide ((H3b.plan (a2 := a2) (c2 := pc - 1) (I3.out.chg CX (fun y e => pnb y e)) ⟨by have := H2.out.pc; rw [List.length_cons] at this; omega, by have := H2.out.pc; omega⟩ bk2).later ((Below.refl _ _).drew))
  rw [← RN.out] at H4a
  refine abs_wp (fun X => Hid (Wk B g w M X a2 (pc - 1) r (.slice (some ⟨gc, 0, none⟩) (D.length + 1) cap) hd last wv lv (n + 1) (D ++ [(x, acc, f)]) wh lo (some ad) bl ea) ∧ X.cell? ⟨W2.heap.size, 0, none⟩ = some (.int .i64 c) ∧ X.cell? ⟨W2.heap.size, 1, none⟩ = some (.bool false) ∧ W2.heap.size < X.heap.size) ⟨H4a, ?_, ?_, ?_⟩ ?_
  · simp [go_sem, x0, x1, n4, n5]
  · simp [go_sem, x0, x1, n4, n5]
  · simp [go_sem]; exact y2
  clear H4a H3b CX pnb x0 x1 y0 y1 y2 c13 f13 lg3 lp3 p03 p13 H3 X3 I3 sl2 bk2 n1 n2 n3 n4 n5 gpn rp RN ch2 HI lg2 hw2
  rintro W3 ⟨H3, b0, b1, lb3⟩
  go_upto_region 7 with (fail)
  clear b0
  have TL := H3.out.tl
  obtain ⟨gc', cap', e0, _, k0, k1, kf, lgc, _⟩ := TL.last
  obtain ⟨rfl, rfl⟩ : gc' = gc ∧ cap' = cap := by
    injection e0 with e1 _ e2
    injection e1 with e1
    injection e1 with e1
    exact ⟨e1.symm, e2.symm⟩
  rw [← HM.out] at k0 k1 TL
  have OB := TL.ob _ (List.mem_append_right _ List.mem_cons_self)
  have CB := cells_bytes H3.out.bs k
  have sl := bytes_to (a := some ad) (c := bc) kq hbc
  obtain ⟨i0, hi0, hz0, hz1, hz2⟩ := info_parts info_u8
  have lb : (rowB (bl.take k)).length = k * 1 := by rw [rowB_len, List.length_take, Nat.mul_one, ← HQ.out]; omega
  have bw := H3.out.bw
  have bw2 := H3.out.ch.size
  have TLd : Tl B W3.drew _ wv lv _ wh lo := TL.later ((Below.refl _ _).drew)
  have GR := fun w1 gr => Tl.grown (w1 := w1) TLd gr
  have kf0 := kf (m * 2)
  have I0 := hide hi0
  have Z0 := hide hz0
  have Z1 := hide hz1
  have Z2 := hide hz2
  have OBH := hide OB
  have CBH := hide CB
  have LBH := hide lb
  have GRH := hide GR
  have NX : Hid (∀ k, x.ownBlock = some k → k ≠ W2.heap.size) := fun k e => by have := (own_old (H2.out.tl.ob _ (List.mem_append_right _ List.mem_cons_self)) e).2; omega
  clear hi0 hz0 hz1 hz2 TL TLd OB CB lb GR kf
  go_region_law (refine step_append_at rfl _ _ 30 rfl B 5 i0 (.int .u8 0) 1 1 Tryd.underlying30 I0.out Z0.out Z1.out Z2.out rfl (by decide) x acc.length (rowB acc) ?_ OBH.out ad k bc (rowB (bl.take k)) ?_ LBH.out CBH.out (rowB_one _) ?_ ?_ ?_ ?_; (rfl); (rfl); (unfold maxLen; omega); (omega); (exact Nat.le_trans bw bw2); (intro v' w' o' gr mv; obtain ⟨A', c', rfl, ec, en⟩ := own_form o'; clear ec en; have g1 := ((GRH.out w' gr).1 (m * 2)).trans k0; have g2 := ((GRH.out w' gr).2.1 (m * 2)).trans kf0; have g3 := (GRH.out w' gr).2.2; have g4 := ((Chg.grown (S := fun k => x.ownBlock = some k) gr (fun k e => e)).cell (o := 1) lb3 (fun e => NX.out _ e rfl)).trans b1; have g5 := Nat.lt_of_lt_of_le lb3 gr.size; have O' := hide o'; have G' := hide gr; have M' := hide mv; clear o' gr mv))
  have l1 : (acc ++ bl.take k).length = acc.length + k := by rw [List.length_append, List.length_take, ← HQ.out]; omega
  have O2 : w'.ownsRow B 5 1 (.slice A' (acc.length + k) c') (acc ++ bl.take k).length (rowB (acc ++ bl.take k)) := by rw [rowB_app, l1]; exact O'.out
  have H4 := hide ((H3.out.later ((Below.refl _ _).drew)).more O2 G'.out M'.out)
  clear l1 O2
  rw [← HM.out] at H4
  have gne : gc' ≠ W2.heap.size := by have := (own_old H2.out.tl.oc (j := gc') rfl).2; omega
  have b4 : (w'.setCell ⟨gc', m * 2, none⟩ (.slice A' (acc.length + k) c')).cell? ⟨W2.heap.size, 1, none⟩ = some (.bool false) := by
    rw [World.cell?_setCell_other (h := by intro e; injection e with e; exact gne e)]; exact g4
  have l4 : W2.heap.size < (w'.setCell ⟨gc', m * 2, none⟩ (.slice A' (acc.length + k) c')).heap.size := by simpa using g5
  generalize w'.setCell ⟨gc', m * 2, none⟩ (.slice A' (acc.length + k) c') = W4 at H4 b4 l4 ⊢
  clear g1 g2 g3 g4 g5 O' G' M' k0 k1 kf0 lgc sl b1 lb3 H3 OBH CBH LBH GRH NX I0 Z0 Z1 Z2 bw bw2 gne
  go_wp2_with fail
  go_returns
  refine ⟨_, _, _, ?_, by rw [WR]; simpa using H4.out⟩
  rw [WR]; rfl
set_option maxRecDepth 100000 in
set_option maxHeartbeats 8000000 in
theorem write_true {B g : Nat} {w W : World} {M : Nat → Prop} {pa : Option Addr} {pc : Nat} {cv : Value} {hd : Bool} {last : Int} {wv lv : Value} {n : Int} {D : List CE} {x : Value} {acc : List UInt8} {f : Bool} {wh lo : List Int} {ba : Option Addr} {bl : List UInt8} {bc : Nat} {ea : Addr} {c : Int} {r : List Ch}
    (h : Wk B g w M W pa pc ((c, true) :: r) cv hd last wv lv n (D ++ [(x, acc, f)]) wh lo ba bl ea) (hb : bl ≠ []) (hbc : bl.length ≤ bc) (hn : 0 ≤ n ∧ n ≤ 4611686018427387904) (hz : acc.length + bl.length ≤ 140737488355328) (hD : D.length ≤ 4611686018427387904) :
    Calls Tryd.prog 27 #[.pointer (some ⟨g, 0, none⟩), .slice ba bl.length bc] W (WrPost B g w M ((c, true) :: r) cv hd last wv lv n D acc f wh lo ba bl ea) := by
  obtain ⟨gc, cap, rfl, hcap, k0, k1, kf, lgc, bgc⟩ := h.tl.last
  obtain ⟨c0, c1, c2, c3, c4, c5, c6, c7, fr, lg⟩ := h.sb.cells
  obtain ⟨m, hm⟩ : ∃ m, m = D.length := ⟨_, rfl⟩
  obtain ⟨q, hq⟩ : ∃ q, q = bl.length := ⟨_, rfl⟩
  obtain ⟨ad, rfl⟩ : ∃ ad, ba = some ad := by
    rcases h.bs with e | ⟨g, o, e, _⟩
    · exact absurd e hb
    · exact ⟨_, e⟩
  have q0 : 0 < q := by rw [hq]; exact List.length_pos_iff.2 hb
  rw [← hm] at c2 k0 k1 hcap hD
  rw [← hq] at hbc hz
  rw [← hq, ← hm]
  have f7 := fr 7
  have W0 := hide h
  have HM := hide hm
  have HQ := hide hq
  have w1 : IntKind.i64.wrap (n + 1) = n + 1 := by rw [IntKind.wrap_i64]; omega
  obtain ⟨k, hk⟩ : ∃ k, k = tk c q := ⟨_, rfl⟩
  have kq : k ≤ q := by rw [hk]; exact tk_le _ _
  have TK : min (max c 0) (q : Int) = (k : Int) := by rw [hk]; unfold tk; omega
  have HK := hide hk
  clear hk h fr kf hm hq hb
  go_enter Tryd.func27, Tryd.ntmps27
  go_wp2_with fail
  refine abs_wp (fun X => Hid (Wk B g w M X pa pc ((c, true) :: r) (.slice (some ⟨gc, 0, none⟩) (D.length + 1) cap) hd last wv lv (n + 1) (D ++ [(x, acc, f)]) wh lo (some ad) bl ea)) (W0.out.count (n + 1)) ?_
  clear c0 c1 c2 c3 c4 c5 c6 c7 k0 k1 lg lgc W0 f7 w1
  rintro W1 H1
  have c2 := H1.out.sb.cells.2.2.1
  have lg := H1.out.sb.cells.2.2.2.2.2.2.2.2.2
  rw [← HM.out] at c2
  have s1 : IntKind.i64.wrap (m : Int) = m := by rw [IntKind.wrap_i64]; omega
  have s2 : IntKind.i64.wrap ((m : Int) + 1 - 1) = m := by rw [IntKind.wrap_i64]; omega
  have s3 : (0 : Int) ≤ (m : Int) := by omega
  have s4 : (m : Int) < (m : Int) + 1 := by omega
  go_quiet (fail)
  have H2 := hide (H1.out.later (below_drewN (Below.refl _ _) nq))
  clear s1 s2 s3 s4 H1 c2 lg
  generalize W1.drewN nq = W2 at H2 ⊢
  have c1 := H2.out.sb.cells.2.1
  have lg := H2.out.sb.cells.2.2.2.2.2.2.2.2.2
  have WR : wrF ((c, true) :: r) bl.length = (k, true, r) := by rw [← HQ.out]; show (tk c q, true, r) = _; rw [← HK.out]
  obtain ⟨gp, op, rfl, lp, p0, p1⟩ := chs_head H2.out.pl
  simp only at p0 p1
  have pcb := H2.out.pc
  rw [List.length_cons] at pcb
  obtain ⟨a2, sl2, ch2, bk2⟩ := chs_tail H2.out.pl pc pcb.1 pcb.2
  have rl : ((c, true) :: r).length = r.length + 1 := rfl
  rw [rl] at c1
  have f1 := H2.out.sb.cells.2.2.2.2.2.2.2.2.1 1
  have gpn := (H2.out.pn _ rfl).1
  simp only at gpn
  have n1 : ¬ g = gp := fun e => gpn e.symm
  have n2 : ¬ gp = W2.heap.size := by omega
  have n3 : ¬ W2.heap.size = gp := by omega
  have n4 : ¬ g = W2.heap.size := by omega
  have n5 : ¬ W2.heap.size = g := by omega
  have rp : (0 : Int) < (r.length : Int) + 1 := by omega
  obtain ⟨rn, hrn⟩ : ∃ rn, rn = r.length := ⟨_, rfl⟩
  rw [← hrn] at c1 sl2 rp
  have RN := hide hrn
  clear rl hrn pcb
  go_upto_region 5 with (fail)
  refine abs_wp (fun X => Hid (Wk B g w M X (some ⟨gp, op, none⟩) pc ((c, true) :: r) (.slice (some ⟨gc, 0, none⟩) (D.length + 1) cap) hd last wv lv (n + 1) (D ++ [(x, acc, f)]) wh lo (some ad) bl ea) ∧ Hid (Box2 X W2.heap.size (.int .i64 q) (.bool false)) ∧ Hid (IsCh X a2 r)) ⟨H2.out.later ((Below.refl _ _).alloc (Nat.le_refl _) _), ⟨by simp [go_sem], by simp [go_sem], by simp [go_sem], by simp [go_sem], by simp⟩, ch2.chg (Chg.of_below (S := fun _ => False) ((Below.refl _ _).alloc (Nat.le_refl _) _)) (fun _ _ q => q)⟩ ?_
  rintro W3 ⟨H3, X3, I3⟩
  have c13 : W3.cell? ⟨g, 1, none⟩ = some (.slice (some ⟨gp, op, none⟩) (rn + 1) pc) := by have := H3.out.sb.cells.2.1; rw [List.length_cons, ← RN.out] at this; exact this
  have f13 := H3.out.sb.cells.2.2.2.2.2.2.2.2.1 1
  have lg3 := H3.out.sb.cells.2.2.2.2.2.2.2.2.2
  obtain ⟨gp', op', e5, lp3, p03, p13⟩ := chs_head H3.out.pl
  obtain ⟨rfl, rfl⟩ : gp' = gp ∧ op' = op := by
    injection e5 with e1
    injection e1 with e1 e2
    exact ⟨e1.symm, e2.symm⟩
  simp only at p03 p13
  have x0 := X3.out.x
  have x1 := X3.out.y
  have y0 := X3.out.fx
  have y1 := X3.out.fy
  have y2 := X3.out.lt
  clear c1 f1 lg p0 p1 lp
  go_region
  go_upto_region 6 with (fail)
  have HI : ∀ k, InT (.slice (some ⟨gc, 0, none⟩) (D.length + 1) cap) wv lv (D ++ [(x, acc, f)]) k → k < W2.heap.size := fun k i => (H2.out.tl.old i).2
  have lg2 := H2.out.sb.cells.2.2.2.2.2.2.2.2.2
  have hw2 := H2.out.ch.size
  have H3b := (H3.out.box (i := 0) (v := .int .i64 c) hw2 lg2 HI).box (i := 1) (v := .bool true) hw2 lg2 HI
  have CX : Chg (· = W2.heap.size) W3 ((W3.setCell ⟨W2.heap.size, 0, none⟩ (.int .i64 c)).setCell ⟨W2.heap.size, 1, none⟩ (.bool true)) := (Chg.set (S := (· = W2.heap.size)) _ rfl).trans (Chg.set (S := (· = W2.heap.size)) _ rfl) (fun _ _ q => q)
  have pnb : ∀ y, a2 = some y → y.block ≠ W2.heap.size := fun y e => by
    obtain ⟨z, hz, q⟩ := bk2 y e
    have := (H2.out.pn z hz).2.2
    omega
  have H4a := hide ((H3b.plan (a2 := a2) (c2 := pc - 1) (I3.out.chg CX (fun y e => pnb y e)) ⟨by have := H2.out.pc; rw [List.length_cons] at this; omega, by have := H2.out.pc; omega⟩ bk2).later ((Below.refl _ _).drew))
  rw [← RN.out] at H4a
  refine abs_wp (fun X => Hid (Wk B g w M X a2 (pc - 1) r (.slice (some ⟨gc, 0, none⟩) (D.length + 1) cap) hd last wv lv (n + 1) (D ++ [(x, acc, f)]) wh lo (some ad) bl ea) ∧ X.cell? ⟨W2.heap.size, 0, none⟩ = some (.int .i64 c) ∧ X.cell? ⟨W2.heap.size, 1, none⟩ = some (.bool true) ∧ W2.heap.size < X.heap.size) ⟨H4a, ?_, ?_, ?_⟩ ?_
  · simp [go_sem, x0, x1, n4, n5]
  · simp [go_sem, x0, x1, n4, n5]
  · simp [go_sem]; exact y2
  clear H4a H3b CX pnb x0 x1 y0 y1 y2 c13 f13 lg3 lp3 p03 p13 H3 X3 I3 sl2 bk2 n1 n2 n3 n4 n5 gpn rp RN ch2 HI lg2 hw2
  rintro W3 ⟨H3, b0, b1, lb3⟩
  go_upto_region 7 with (fail)
  clear b0
  have TL := H3.out.tl
  obtain ⟨gc', cap', e0, _, k0, k1, kf, lgc, _⟩ := TL.last
  obtain ⟨rfl, rfl⟩ : gc' = gc ∧ cap' = cap := by
    injection e0 with e1 _ e2
    injection e1 with e1
    injection e1 with e1
    exact ⟨e1.symm, e2.symm⟩
  rw [← HM.out] at k0 k1 TL
  have OB := TL.ob _ (List.mem_append_right _ List.mem_cons_self)
  have CB := cells_bytes H3.out.bs k
  have sl := bytes_to (a := some ad) (c := bc) kq hbc
  obtain ⟨i0, hi0, hz0, hz1, hz2⟩ := info_parts info_u8
  have lb : (rowB (bl.take k)).length = k * 1 := by rw [rowB_len, List.length_take, Nat.mul_one, ← HQ.out]; omega
  have bw := H3.out.bw
  have bw2 := H3.out.ch.size
  have TLd : Tl B W3.drew _ wv lv _ wh lo := TL.later ((Below.refl _ _).drew)
  have GR := fun w1 gr => Tl.grown (w1 := w1) TLd gr
  have kf0 := kf (m * 2)
  have I0 := hide hi0
  have Z0 := hide hz0
  have Z1 := hide hz1
  have Z2 := hide hz2
  have OBH := hide OB
  have CBH := hide CB
  have LBH := hide lb
  have GRH := hide GR
  have NX : Hid (∀ k, x.ownBlock = some k → k ≠ W2.heap.size) := fun k e => by have := (own_old (H2.out.tl.ob _ (List.mem_append_right _ List.mem_cons_self)) e).2; omega
  clear hi0 hz0 hz1 hz2 TL TLd OB CB lb GR kf
  go_region_law (refine step_append_at rfl _ _ 30 rfl B 5 i0 (.int .u8 0) 1 1 Tryd.underlying30 I0.out Z0.out Z1.out Z2.out rfl (by decide) x acc.length (rowB acc) ?_ OBH.out ad k bc (rowB (bl.take k)) ?_ LBH.out CBH.out (rowB_one _) ?_ ?_ ?_ ?_; (rfl); (rfl); (unfold maxLen; omega); (omega); (exact Nat.le_trans bw bw2); (intro v' w' o' gr mv; obtain ⟨A', c', rfl, ec, en⟩ := own_form o'; clear ec en; have g1 := ((GRH.out w' gr).1 (m * 2)).trans k0; have g2 := ((GRH.out w' gr).2.1 (m * 2)).trans kf0; have g3 := (GRH.out w' gr).2.2; have g4 := ((Chg.grown (S := fun k => x.ownBlock = some k) gr (fun k e => e)).cell (o := 1) lb3 (fun e => NX.out _ e rfl)).trans b1; have g5 := Nat.lt_of_lt_of_le lb3 gr.size; have O' := hide o'; have G' := hide gr; have M' := hide mv; clear o' gr mv))
  have l1 : (acc ++ bl.take k).length = acc.length + k := by rw [List.length_append, List.length_take, ← HQ.out]; omega
  have O2 : w'.ownsRow B 5 1 (.slice A' (acc.length + k) c') (acc ++ bl.take k).length (rowB (acc ++ bl.take k)) := by rw [rowB_app, l1]; exact O'.out
  have H4 := hide ((H3.out.later ((Below.refl _ _).drew)).more O2 G'.out M'.out)
  clear l1 O2
  rw [← HM.out] at H4
  have gne : gc' ≠ W2.heap.size := by have := (own_old H2.out.tl.oc (j := gc') rfl).2; omega
  have b4 : (w'.setCell ⟨gc', m * 2, none⟩ (.slice A' (acc.length + k) c')).cell? ⟨W2.heap.size, 1, none⟩ = some (.bool true) := by
    rw [World.cell?_setCell_other (h := by intro e; injection e with e; exact gne e)]; exact g4
  have l4 : W2.heap.size < (w'.setCell ⟨gc', m * 2, none⟩ (.slice A' (acc.length + k) c')).heap.size := by simpa using g5
  generalize w'.setCell ⟨gc', m * 2, none⟩ (.slice A' (acc.length + k) c') = W4 at H4 b4 l4 ⊢
  clear g1 g2 g3 g4 g5 O' G' M' k0 k1 kf0 lgc sl b1 lb3 H3 OBH CBH LBH GRH NX I0 Z0 Z1 Z2 bw bw2 gne
  rw [HM.out] at H4
  obtain ⟨g9, cap9, e9, _, k0, k1, kf, lgc, _⟩ := H4.out.tl.last
  obtain ⟨rfl, rfl⟩ : g9 = gc' ∧ cap9 = cap' := by
    injection e9 with e1 _ e2
    injection e1 with e1
    injection e1 with e1
    exact ⟨e1.symm, e2.symm⟩
  rw [← HM.out] at k1
  have kf1 := kf (m * 2 + 1)
  have H5 := hide H4.out.fail
  rw [← HM.out] at H5
  clear k0 kf H4
  go_wp2_with fail
  generalize W4.setCell ⟨g9, m * 2 + 1, none⟩ (.bool true) = W5 at H5 ⊢
  have ef := H5.out.ef
  have z0 := Nat.lt_of_lt_of_le H5.out.z H5.out.ch.size
  clear k1 kf1 lgc b4 l4
  go_quiet (fail)
  have H6 := hide (H5.out.later (below_drewN (Below.refl _ _) nq))
  go_wp2_with fail
  go_returns
  refine ⟨_, _, _, ?_, by rw [WR]; simpa using H6.out⟩
  rw [WR]; rfl
end Go.Proofs.YtbahhlgcebgfeaaDoor
