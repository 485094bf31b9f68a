/- sink: the reference's Frame, New. -/
import Derived.Test.YtbahhlgcebgfeaaDoorSnk27
import Derived.Test.YtbahhlgcebgfeaaDoorSnk7
namespace Go.Proofs.YtbahhlgcebgfeaaDoor
set_option linter.unusedVariables false
set_option linter.unusedSimpArgs false
open Go.RowKit W
theorem sendF_drop (P : List Ch) (cs : List (List UInt8 × Bool)) (m : Nat) (b : List UInt8) : ∃ m2 : Nat, (sendF (P.drop m) cs m b).2.2.2 = (m2 : Int) ∧ (sendF (P.drop m) cs m b).1 = P.drop m2 := by
  unfold sendF
  split
  · exact ⟨m, rfl, rfl⟩
  · exact sendL_drop P _ false b 0 m
def RnAny (B g : Nat) (w : World) (M : Nat → Prop) (pa : Option Addr) (pc : Nat) (P : List Ch) (hd : Bool) (last : Int) (wv lv : Value) (wh lo : List Int) (ea : Addr) (F : List Ch × List (List UInt8 × Bool) × Bool × Int) (e : Ending) (w' : World) : Prop :=
  ∃ cv C ba bl, e = .returned (.bool F.2.2.1) ∧ C.map (fun y : CE => y.2) = F.2.1 ∧ Rk B g w M w' pa pc P cv hd last wv lv F.2.2.2 C wh lo ba bl ea
theorem rsend_any {B g : Nat} {w W : World} {M : Nat → Prop} {pa : Option Addr} {pc : Nat} {P : List Ch} {cv : Value} {hd : Bool} {last : Int} {wv lv : Value} {n0 : Nat} {C : List CE} {wh lo : List Int} {ba : Option Addr} {bl : List UInt8} {bc : Nat} {ea : Addr}
    (h : Rk B g w M W pa pc P cv hd last wv lv (n0 : Int) C wh lo ba bl ea) (b0 : bl ≠ []) (hbc : bl.length ≤ bc) (hn : n0 + 64 * bl.length + 64 ≤ 4611686018427387904) (hz : ∀ x ∈ C, x.2.1.length + bl.length ≤ 140737488355328) (hb : bl.length ≤ 140737488355328) (hC : C.length ≤ 4000000000000) (hP : P.length ≤ 1048576) :
    Calls Tryd.prog 23 #[.pointer (some ⟨g, 0, none⟩), .slice ba bl.length bc] W (RnAny B g w M pa pc P hd last wv lv wh lo ea (sendF (P.drop n0) (C.map fun y => y.2) n0 bl)) := by
  have fin : ∀ (D : List (List UInt8 × Bool)) (acc : List UInt8), opn (C.map fun y => y.2) = (D, acc) → ∀ e w', RnPost B g w M pa pc P hd last wv lv wh lo ea D (sendL (P.drop n0) acc false bl 0 n0) e w' → RnAny B g w M pa pc P hd last wv lv wh lo ea (sendF (P.drop n0) (C.map fun y => y.2) n0 bl) e w' := by
    rintro D acc ho e w' ⟨cv', D', x, ba', rfl, hD, k⟩
    unfold sendF
    rw [if_neg b0, ho]
    exact ⟨cv', _, ba', _, rfl, by rw [List.map_append, hD]; rfl, k⟩
  rcases snoc_or C with rfl | ⟨D, y, ac, f, rfl⟩
  · exact Calls.mono (rsend_empty (D := []) (y := .bool true) (ac := []) h b0 hbc hn hb hC hP) (fin _ _ opn_nil)
  · cases f
    · refine Calls.mono (rsend_old h b0 hbc hn (hz _ (List.mem_append_right _ List.mem_cons_self)) hC hP) (fin _ _ ?_)
      rw [List.map_append]
      exact opn_old _ _
    · refine Calls.mono (rsend_failed h b0 hbc hn hb hC hP) (fin _ _ ?_)
      rw [List.map_append]
      exact opn_failed _ _
/-- A reference's sink, between calls. M: its blocks. -/
structure RkV (B : Nat) (w : World) (g : Nat) (P : List Ch) (S : SS) (M : Nat → Prop) (pa : Option Addr) (pc : Nat) (cv wv lv : Value) (C : List CE) : Prop where
  cs : C.map (fun y => y.2) = S.cs
  sb : RB w g (.slice pa P.length pc) cv S.hd S.last wv lv S.n
  tl : Tl B w cv wv lv C S.wh S.lo
  pl : IsCh w pa P
  pc : True
  bg : B ≤ g
  pn : P ≠ [] → ∀ a, pa = some a → a.block ≠ g ∧ ¬ InT cv wv lv C a.block ∧ a.block < w.heap.size
  m : ∀ k, M k ↔ (k = g ∨ InT cv wv lv C k)
  at_ : ∃ m : Nat, S.n = (m : Int) ∧ S.P = P.drop m
def RkA (B : Nat) (w : World) (g : Nat) (P : List Ch) (S : SS) (M : Nat → Prop) : Prop := ∃ pa pc cv wv lv C, RkV B w g P S M pa pc cv wv lv C ∧ (P ≠ [] → ∀ a, pa = some a → a.block < B)
theorem RkV.wk {B g : Nat} {w : World} {P : List Ch} {S : SS} {M : Nat → Prop} {pa : Option Addr} {pc : Nat} {cv wv lv : Value} {C : List CE} (h : RkV B w g P S M pa pc cv wv lv C) {ba : Option Addr} {bl : List UInt8} {ea : Addr} (hb : IsBytes w ba bl) (nb : ∀ a, ba = some a → ¬ M a.block ∧ a.block < w.heap.size) (ef : w.cell? ⟨0, 0, none⟩ = some (EV ea)) (b1 : 1 ≤ B) :
    Rk B g w M w pa pc P cv S.hd S.last wv lv S.n C S.wh S.lo ba bl ea :=
  have lg := blk_lt h.sb
  ⟨h.sb, h.tl, Chg.refl _ _, h.pl, h.pc, hb, ef, by omega, h.bg, b1, by have := h.bg; omega, h.pn, fun a e => ⟨fun q => (nb a e).1 ((h.m _).2 (.inl q)), fun q => (nb a e).1 ((h.m _).2 (.inr q)), (nb a e).2⟩, (h.m _).2 (.inl rfl), fun k i => .inl ((h.m k).2 (.inr i))⟩
theorem Rk.skv {B g : Nat} {w W : World} {M : Nat → Prop} {pa : Option Addr} {pc : Nat} {P Q : List Ch} {cv : Value} {hd : Bool} {last : Int} {wv lv : Value} {n : Int} {C : List CE} {wh lo : List Int} {ba : Option Addr} {bl : List UInt8} {ea : Addr} (h : Rk B g w M W pa pc P cv hd last wv lv n C wh lo ba bl ea) (at_ : ∃ m : Nat, n = (m : Int) ∧ Q = P.drop m) (hp : P ≠ [] → ∀ a, pa = some a → a.block < B) :
    (∃ M', RkA B W g P ⟨Q, C.map fun y => y.2, hd, last, wh, lo, n⟩ M' ∧ (∀ k, M' k → M k ∨ w.heap.size ≤ k)) ∧ Chg M w W := by
  refine ⟨⟨fun k => k = g ∨ InT cv wv lv C k, ⟨pa, pc, cv, wv, lv, C, ⟨rfl, h.sb, h.tl, h.pl, h.pc, h.bg, fun ne a e => ⟨(h.pn ne a e).1, (h.pn ne a e).2.1, Nat.lt_of_lt_of_le (h.pn ne a e).2.2 h.ch.size⟩, fun k => Iff.rfl, at_⟩, hp⟩, ?_⟩, h.ch⟩
  · rintro k (q | q)
    · exact .inl (q ▸ h.mg)
    · exact h.mi k q
theorem RkA.chg {B g : Nat} {w w' : World} {P : List Ch} {S : SS} {M T : Nat → Prop} (h : RkA B w g P S M) (c : Chg T w w') (f : ∀ k, M k → ¬ T k) (fp : ∀ k, T k → B ≤ k) : RkA B w' g P S M := by
  obtain ⟨pa, pc, cv, wv, lv, C, h, hp⟩ := h
  have pb : P ≠ [] → ∀ a, pa = some a → ¬ T a.block := fun ne a e q => by have := hp ne a e; have := fp _ q; omega
  exact ⟨pa, pc, cv, wv, lv, C, ⟨h.cs, h.sb.chg c (f _ ((h.m _).2 (.inl rfl))), h.tl.chg c (fun k i => f k ((h.m _).2 (.inr i))), h.pl.chgn c pb, h.pc, h.bg, fun ne a e => ⟨(h.pn ne a e).1, (h.pn ne a e).2.1, Nat.lt_of_lt_of_le (h.pn ne a e).2.2 c.size⟩, h.m, h.at_⟩, hp⟩
theorem RkA.old {B g : Nat} {w : World} {P : List Ch} {S : SS} {M : Nat → Prop} (h : RkA B w g P S M) {k : Nat} (m : M k) : k < w.heap.size := by
  obtain ⟨pa, pc, cv, wv, lv, C, h, _⟩ := h
  rcases (h.m k).1 m with q | q
  · rw [q]; exact blk_lt h.sb
  · exact (h.tl.old q).2
theorem RkA.later {B g : Nat} {w w' : World} {P : List Ch} {S : SS} {M : Nat → Prop} (h : RkA B w g P S M) (b : Below w.heap.size w w') : RkA B w' g P S M :=
  h.chg (Chg.of_below (S := fun _ => False) b) (fun _ _ q => q) (fun _ q => q.elim)
def RFrPost (B : Nat) (w : World) (g : Nat) (P : List Ch) (S : SS) (M : Nat → Prop) (id : Int) (b : List UInt8) (e : Ending) (w' : World) : Prop :=
  e = .returned (.int .i64 (frE S id)) ∧ (∃ M', RkA B w' g P (frS S id b) M' ∧ ∀ k, M' k → M k ∨ w.heap.size ≤ k) ∧ Chg M w w'
set_option maxRecDepth 100000 in
set_option maxHeartbeats 8000000 in
theorem rframe_go {B g : Nat} {w : World} {M : Nat → Prop} {pa : Option Addr} {pc : Nat} {P Q : List Ch} {cv : Value} {hd : Bool} {last : Int} {wv lv : Value} {n0 : Nat} {C0 : List CE} {wh lo : List Int} {ba : Option Addr} {bl : List UInt8} {bc : Nat} {ea : Addr} {id : Int} {bx : Option Addr}
    (h : Rk B g w M w pa pc P cv hd last wv lv (n0 : Int) C0 wh lo ba bl ea) (hQ : Q = P.drop n0) (hq : bl ≠ [] → bx = ba) (hbc : bl.length ≤ bc) (hn : n0 + 64 * bl.length + 64 ≤ 4611686018427387904) (hz : ∀ x ∈ C0, x.2.1.length + bl.length ≤ 140737488355328) (hb : bl.length ≤ 140737488355328) (hC : C0.length ≤ 4000000000000) (hP : P.length ≤ 1048576) (sw : wh.length ≤ 4000000000000) (so : lo.length ≤ 4000000000000) (hp : P ≠ [] → ∀ a, pa = some a → a.block < B) (ng : ¬ (hd = true ∧ id ≤ last)) :
    Calls Tryd.prog 13 #[.pointer (some ⟨g, 0, none⟩), .int .i64 id, .slice bx bl.length bc] w (RFrPost B w g P ⟨Q, C0.map fun y => y.2, hd, last, wh, lo, n0⟩ M id bl) := by
  subst hQ
  have cl := h.sb.cells
  have c3 := cl.2.2.1
  have c4 := cl.2.2.2.1
  have f3 := cl.2.2.2.2.2.2.2.1 6
  have f4 := cl.2.2.2.2.2.2.2.1 5
  have lg := blk_lt h.sb
  have H1 := hide (h.hand id)
  have kS := fun b0 => rsend_any H1.out b0 hbc hn hz hb hC hP
  have NG := hide ng
  have HPB := hide hp
  have HN0 := hide (show Unit → True from fun _ => trivial)
  have SF := hide (sendF_drop P (C0.map fun y => y.2) n0 bl)
  have F : Hid (hd = false ∨ hd = true ∧ last < id) := by
    cases hd
    · exact .inl rfl
    · exact .inr ⟨rfl, by simp at ng; omega⟩
  obtain ⟨q, hlq⟩ : ∃ q, q = bl.length := ⟨_, rfl⟩
  have HLQ := hide hlq
  rw [← hlq] at kS ⊢
  clear h cl ng hlq hp
  go_enter Tryd.func13, Tryd.ntmps13
  rcases F.out with F1 | ⟨F1, F2⟩
  · rw [F1] at c3
    go_upto_region 6 with (fail)
    clear F1
    generalize (w.setCell ⟨g, 6, none⟩ (.bool true)).setCell ⟨g, 5, none⟩ (.int .i64 id) = W1 at H1 kS ⊢
    clear c3 c4 f3 f4 lg
    by_cases b0 : bl = []
    · have q0 : q = 0 := by rw [HLQ.out, b0]; rfl
      subst q0
      have hf : (sendF (P.drop n0) (C0.map fun y => y.2) n0 bl).2.2.1 = true := by rw [b0]; unfold sendF; rw [if_pos rfl]
      have HM : Hid (C0.map (fun y : CE => y.2) = (sendF (P.drop n0) (C0.map fun y => y.2) n0 bl).2.1) := hide (by rw [b0]; unfold sendF; rw [if_pos rfl])
      have hn4 : (sendF (P.drop n0) (C0.map fun y => y.2) n0 bl).2.2.2 = (n0 : Int) := by rw [b0]; unfold sendF; rw [if_pos rfl]
      have H2 : Hid (Rk B g w M W1 pa pc P cv true id wv lv (sendF (P.drop n0) (C0.map fun y => y.2) n0 bl).2.2.2 C0 wh lo ba bl ea) := by rw [hn4]; exact H1
      clear kS H1 hn4 b0
      have FIN : Hid (∀ W', (∃ va vb cv C ba bl', C.map (fun y : CE => y.2) = (sendF (P.drop n0) (C0.map fun y => y.2) n0 bl).2.1 ∧ Rk B g w M W' pa pc P cv true id va vb (sendF (P.drop n0) (C0.map fun y => y.2) n0 bl).2.2.2 C (wh ++ [id]) lo ba bl' ea) → RFrPost B w g P ⟨P.drop n0, C0.map fun y => y.2, hd, last, wh, lo, n0⟩ M id bl (.returned (.int .i64 0)) W') := by
        rintro W' ⟨va, vb, cv, C, ba, bl', e1, k⟩
        obtain ⟨m2, u1, u2⟩ := SF.out
        obtain ⟨k1, k2⟩ := k.skv (Q := (sendF (P.drop n0) (C0.map fun y => y.2) n0 bl).1) ⟨m2, u1, u2⟩ HPB.out
        refine ⟨by unfold frE; rw [if_neg NG.out], ?_, k2⟩
        have : frS ⟨P.drop n0, C0.map fun y => y.2, hd, last, wh, lo, n0⟩ id bl = ⟨(sendF (P.drop n0) (C0.map fun y => y.2) n0 bl).1, C.map fun y => y.2, true, id, (wh ++ [id]), lo, (sendF (P.drop n0) (C0.map fun y => y.2) n0 bl).2.2.2⟩ := by
          unfold frS
          rw [if_neg NG.out]
          simp only
          rw [hf, e1]
          rfl
        rw [this]
        exact k1
      have H3 := hide (H2.out.later ((Below.refl _ _).alloc (Nat.le_refl _) (.cells #[.int .i64 id] 2)))
      have lg := blk_lt H2.out.sb
      have c5 := H2.out.sb.cells.2.2.2.2.1
      have OC := hide H3.out.tl.ow
      have BW := hide (Nat.le_trans H3.out.bw H3.out.ch.size)
      have HL := hide sw
      obtain ⟨A0, cA, ev, _, _⟩ := own_form H2.out.tl.ow
      have EV0 := hide ev
      rw [ev] at c5
      obtain ⟨ln, hln⟩ : ∃ ln, ln = wh.length := ⟨_, rfl⟩
      rw [← hln] at c5 ev
      have LN := hide hln
      clear ev hln hf
      have EV1 : Hid (wv = .slice A0 ln cA) := by rw [EV0.out, ← LN.out]; exact hide rfl
      go_wp2_with (at_builtin; go_loud (refine wpList_append_id rfl _ _ rfl B wv wh ?_ OC.out W1.heap.size id rfl (by simp [go_sem]) HL.out BW.out ?_); (go_loud (rw [EV1.out]; rfl)); intro v' w' o' gr mv; go_loud (rw [← LN.out] at o'); go_loud (obtain ⟨A', c', rfl, ec, en⟩ := own_form o'); go_loud (rw [LN.out] at o' mv); go_loud (have s3 := H3.out.sb.chg (Chg.grown (S := fun k => Value.ownBlock wv = some k) gr (fun k e => e)) (fun e => own_ne_blk OC.out H3.out.sb (by decide) e rfl)); go_loud (have c23 := s3.cells.2.2.2.2.1); have f23 := s3.cells.2.2.2.2.2.2.2.1 2; go_loud (have HN := hide (H3.out.whole o' gr mv)); go_loud (rw [← LN.out] at HN); go_loud (clear o' gr mv ec en s3))
      go_returns
      exact FIN.out _ ⟨_, _, _, _, _, _, HM.out, HN.out⟩
    · have q0 : (0 : Int) < (q : Int) := by rw [HLQ.out]; have := List.length_pos_iff.2 b0; omega
      obtain rfl := hq b0
      have kS := kS b0
      go_wp2_with fail
      refine Calls.mono kS ?_
      rintro e W2 ⟨cv2, C2, ba2, bl2, rfl, hm, h2⟩
      have H2 := hide h2
      have HM := hide hm
      clear h2 hm kS H1
      cases hf : (sendF (P.drop n0) (C0.map fun y => y.2) n0 bl).2.2.1
      · have FIN : Hid (∀ W', (∃ va vb cv C ba bl', C.map (fun y : CE => y.2) = (sendF (P.drop n0) (C0.map fun y => y.2) n0 bl).2.1 ∧ Rk B g w M W' pa pc P cv true id va vb (sendF (P.drop n0) (C0.map fun y => y.2) n0 bl).2.2.2 C wh (lo ++ [id]) ba bl' ea) → RFrPost B w g P ⟨P.drop n0, C0.map fun y => y.2, hd, last, wh, lo, n0⟩ M id bl (.returned (.int .i64 0)) W') := by
          rintro W' ⟨va, vb, cv, C, ba, bl', e1, k⟩
          obtain ⟨m2, u1, u2⟩ := SF.out
          obtain ⟨k1, k2⟩ := k.skv (Q := (sendF (P.drop n0) (C0.map fun y => y.2) n0 bl).1) ⟨m2, u1, u2⟩ HPB.out
          refine ⟨by unfold frE; rw [if_neg NG.out], ?_, k2⟩
          have : frS ⟨P.drop n0, C0.map fun y => y.2, hd, last, wh, lo, n0⟩ id bl = ⟨(sendF (P.drop n0) (C0.map fun y => y.2) n0 bl).1, C.map fun y => y.2, true, id, wh, (lo ++ [id]), (sendF (P.drop n0) (C0.map fun y => y.2) n0 bl).2.2.2⟩ := by
            unfold frS
            rw [if_neg NG.out]
            simp only
            rw [hf, e1]
            rfl
          rw [this]
          exact k1
        have H3 := hide (H2.out.later ((Below.refl _ _).alloc (Nat.le_refl _) (.cells #[.int .i64 id] 2)))
        have lg := blk_lt H2.out.sb
        have c5 := H2.out.sb.cells.2.2.2.2.2.1
        have OC := hide H3.out.tl.ol
        have BW := hide (Nat.le_trans H3.out.bw H3.out.ch.size)
        have HL := hide so
        obtain ⟨A0, cA, ev, _, _⟩ := own_form H2.out.tl.ol
        have EV0 := hide ev
        rw [ev] at c5
        obtain ⟨ln, hln⟩ : ∃ ln, ln = lo.length := ⟨_, rfl⟩
        rw [← hln] at c5 ev
        have LN := hide hln
        clear ev hln hf
        have EV1 : Hid (lv = .slice A0 ln cA) := by rw [EV0.out, ← LN.out]; exact hide rfl
        go_wp2_with (at_builtin; go_loud (refine wpList_append_id rfl _ _ rfl B lv lo ?_ OC.out W2.heap.size id rfl (by simp [go_sem]) HL.out BW.out ?_); (go_loud (rw [EV1.out]; rfl)); intro v' w' o' gr mv; go_loud (rw [← LN.out] at o'); go_loud (obtain ⟨A', c', rfl, ec, en⟩ := own_form o'); go_loud (rw [LN.out] at o' mv); go_loud (have s3 := H3.out.sb.chg (Chg.grown (S := fun k => Value.ownBlock lv = some k) gr (fun k e => e)) (fun e => own_ne_blk OC.out H3.out.sb (by decide) e rfl)); go_loud (have c23 := s3.cells.2.2.2.2.2.1); have f23 := s3.cells.2.2.2.2.2.2.2.1 3; go_loud (have HN := hide (H3.out.lose o' gr mv)); go_loud (rw [← LN.out] at HN); go_loud (clear o' gr mv ec en s3))
        go_returns
        exact FIN.out _ ⟨_, _, _, _, _, _, HM.out, HN.out⟩
      · have FIN : Hid (∀ W', (∃ va vb cv C ba bl', C.map (fun y : CE => y.2) = (sendF (P.drop n0) (C0.map fun y => y.2) n0 bl).2.1 ∧ Rk B g w M W' pa pc P cv true id va vb (sendF (P.drop n0) (C0.map fun y => y.2) n0 bl).2.2.2 C (wh ++ [id]) lo ba bl' ea) → RFrPost B w g P ⟨P.drop n0, C0.map fun y => y.2, hd, last, wh, lo, n0⟩ M id bl (.returned (.int .i64 0)) W') := by
          rintro W' ⟨va, vb, cv, C, ba, bl', e1, k⟩
          obtain ⟨m2, u1, u2⟩ := SF.out
          obtain ⟨k1, k2⟩ := k.skv (Q := (sendF (P.drop n0) (C0.map fun y => y.2) n0 bl).1) ⟨m2, u1, u2⟩ HPB.out
          refine ⟨by unfold frE; rw [if_neg NG.out], ?_, k2⟩
          have : frS ⟨P.drop n0, C0.map fun y => y.2, hd, last, wh, lo, n0⟩ id bl = ⟨(sendF (P.drop n0) (C0.map fun y => y.2) n0 bl).1, C.map fun y => y.2, true, id, (wh ++ [id]), lo, (sendF (P.drop n0) (C0.map fun y => y.2) n0 bl).2.2.2⟩ := by
            unfold frS
            rw [if_neg NG.out]
            simp only
            rw [hf, e1]
            rfl
          rw [this]
          exact k1
        have H3 := hide (H2.out.later ((Below.refl _ _).alloc (Nat.le_refl _) (.cells #[.int .i64 id] 2)))
        have lg := blk_lt H2.out.sb
        have c5 := H2.out.sb.cells.2.2.2.2.1
        have OC := hide H3.out.tl.ow
        have BW := hide (Nat.le_trans H3.out.bw H3.out.ch.size)
        have HL := hide sw
        obtain ⟨A0, cA, ev, _, _⟩ := own_form H2.out.tl.ow
        have EV0 := hide ev
        rw [ev] at c5
        obtain ⟨ln, hln⟩ : ∃ ln, ln = wh.length := ⟨_, rfl⟩
        rw [← hln] at c5 ev
        have LN := hide hln
        clear ev hln hf
        have EV1 : Hid (wv = .slice A0 ln cA) := by rw [EV0.out, ← LN.out]; exact hide rfl
        go_wp2_with (at_builtin; go_loud (refine wpList_append_id rfl _ _ rfl B wv wh ?_ OC.out W2.heap.size id rfl (by simp [go_sem]) HL.out BW.out ?_); (go_loud (rw [EV1.out]; rfl)); intro v' w' o' gr mv; go_loud (rw [← LN.out] at o'); go_loud (obtain ⟨A', c', rfl, ec, en⟩ := own_form o'); go_loud (rw [LN.out] at o' mv); go_loud (have s3 := H3.out.sb.chg (Chg.grown (S := fun k => Value.ownBlock wv = some k) gr (fun k e => e)) (fun e => own_ne_blk OC.out H3.out.sb (by decide) e rfl)); go_loud (have c23 := s3.cells.2.2.2.2.1); have f23 := s3.cells.2.2.2.2.2.2.2.1 2; go_loud (have HN := hide (H3.out.whole o' gr mv)); go_loud (rw [← LN.out] at HN); go_loud (clear o' gr mv ec en s3))
        go_returns
        exact FIN.out _ ⟨_, _, _, _, _, _, HM.out, HN.out⟩
  · have F2' : ¬ id ≤ last := by omega
    rw [F1] at c3
    go_upto_region 6 with (fail)
    clear F1
    generalize (w.setCell ⟨g, 6, none⟩ (.bool true)).setCell ⟨g, 5, none⟩ (.int .i64 id) = W1 at H1 kS ⊢
    clear c3 c4 f3 f4 lg
    by_cases b0 : bl = []
    · have q0 : q = 0 := by rw [HLQ.out, b0]; rfl
      subst q0
      have hf : (sendF (P.drop n0) (C0.map fun y => y.2) n0 bl).2.2.1 = true := by rw [b0]; unfold sendF; rw [if_pos rfl]
      have HM : Hid (C0.map (fun y : CE => y.2) = (sendF (P.drop n0) (C0.map fun y => y.2) n0 bl).2.1) := hide (by rw [b0]; unfold sendF; rw [if_pos rfl])
      have hn4 : (sendF (P.drop n0) (C0.map fun y => y.2) n0 bl).2.2.2 = (n0 : Int) := by rw [b0]; unfold sendF; rw [if_pos rfl]
      have H2 : Hid (Rk B g w M W1 pa pc P cv true id wv lv (sendF (P.drop n0) (C0.map fun y => y.2) n0 bl).2.2.2 C0 wh lo ba bl ea) := by rw [hn4]; exact H1
      clear kS H1 hn4 b0
      have FIN : Hid (∀ W', (∃ va vb cv C ba bl', C.map (fun y : CE => y.2) = (sendF (P.drop n0) (C0.map fun y => y.2) n0 bl).2.1 ∧ Rk B g w M W' pa pc P cv true id va vb (sendF (P.drop n0) (C0.map fun y => y.2) n0 bl).2.2.2 C (wh ++ [id]) lo ba bl' ea) → RFrPost B w g P ⟨P.drop n0, C0.map fun y => y.2, hd, last, wh, lo, n0⟩ M id bl (.returned (.int .i64 0)) W') := by
        rintro W' ⟨va, vb, cv, C, ba, bl', e1, k⟩
        obtain ⟨m2, u1, u2⟩ := SF.out
        obtain ⟨k1, k2⟩ := k.skv (Q := (sendF (P.drop n0) (C0.map fun y => y.2) n0 bl).1) ⟨m2, u1, u2⟩ HPB.out
        refine ⟨by unfold frE; rw [if_neg NG.out], ?_, k2⟩
        have : frS ⟨P.drop n0, C0.map fun y => y.2, hd, last, wh, lo, n0⟩ id bl = ⟨(sendF (P.drop n0) (C0.map fun y => y.2) n0 bl).1, C.map fun y => y.2, true, id, (wh ++ [id]), lo, (sendF (P.drop n0) (C0.map fun y => y.2) n0 bl).2.2.2⟩ := by
          unfold frS
          rw [if_neg NG.out]
          simp only
          rw [hf, e1]
          rfl
        rw [this]
        exact k1
      have H3 := hide (H2.out.later ((Below.refl _ _).alloc (Nat.le_refl _) (.cells #[.int .i64 id] 2)))
      have lg := blk_lt H2.out.sb
      have c5 := H2.out.sb.cells.2.2.2.2.1
      have OC := hide H3.out.tl.ow
      have BW := hide (Nat.le_trans H3.out.bw H3.out.ch.size)
      have HL := hide sw
      obtain ⟨A0, cA, ev, _, _⟩ := own_form H2.out.tl.ow
      have EV0 := hide ev
      rw [ev] at c5
      obtain ⟨ln, hln⟩ : ∃ ln, ln = wh.length := ⟨_, rfl⟩
      rw [← hln] at c5 ev
      have LN := hide hln
      clear ev hln hf
      have EV1 : Hid (wv = .slice A0 ln cA) := by rw [EV0.out, ← LN.out]; exact hide rfl
      go_wp2_with (at_builtin; go_loud (refine wpList_append_id rfl _ _ rfl B wv wh ?_ OC.out W1.heap.size id rfl (by simp [go_sem]) HL.out BW.out ?_); (go_loud (rw [EV1.out]; rfl)); intro v' w' o' gr mv; go_loud (rw [← LN.out] at o'); go_loud (obtain ⟨A', c', rfl, ec, en⟩ := own_form o'); go_loud (rw [LN.out] at o' mv); go_loud (have s3 := H3.out.sb.chg (Chg.grown (S := fun k => Value.ownBlock wv = some k) gr (fun k e => e)) (fun e => own_ne_blk OC.out H3.out.sb (by decide) e rfl)); go_loud (have c23 := s3.cells.2.2.2.2.1); have f23 := s3.cells.2.2.2.2.2.2.2.1 2; go_loud (have HN := hide (H3.out.whole o' gr mv)); go_loud (rw [← LN.out] at HN); go_loud (clear o' gr mv ec en s3))
      go_returns
      exact FIN.out _ ⟨_, _, _, _, _, _, HM.out, HN.out⟩
    · have q0 : (0 : Int) < (q : Int) := by rw [HLQ.out]; have := List.length_pos_iff.2 b0; omega
      obtain rfl := hq b0
      have kS := kS b0
      go_wp2_with fail
      refine Calls.mono kS ?_
      rintro e W2 ⟨cv2, C2, ba2, bl2, rfl, hm, h2⟩
      have H2 := hide h2
      have HM := hide hm
      clear h2 hm kS H1
      cases hf : (sendF (P.drop n0) (C0.map fun y => y.2) n0 bl).2.2.1
      · have FIN : Hid (∀ W', (∃ va vb cv C ba bl', C.map (fun y : CE => y.2) = (sendF (P.drop n0) (C0.map fun y => y.2) n0 bl).2.1 ∧ Rk B g w M W' pa pc P cv true id va vb (sendF (P.drop n0) (C0.map fun y => y.2) n0 bl).2.2.2 C wh (lo ++ [id]) ba bl' ea) → RFrPost B w g P ⟨P.drop n0, C0.map fun y => y.2, hd, last, wh, lo, n0⟩ M id bl (.returned (.int .i64 0)) W') := by
          rintro W' ⟨va, vb, cv, C, ba, bl', e1, k⟩
          obtain ⟨m2, u1, u2⟩ := SF.out
          obtain ⟨k1, k2⟩ := k.skv (Q := (sendF (P.drop n0) (C0.map fun y => y.2) n0 bl).1) ⟨m2, u1, u2⟩ HPB.out
          refine ⟨by unfold frE; rw [if_neg NG.out], ?_, k2⟩
          have : frS ⟨P.drop n0, C0.map fun y => y.2, hd, last, wh, lo, n0⟩ id bl = ⟨(sendF (P.drop n0) (C0.map fun y => y.2) n0 bl).1, C.map fun y => y.2, true, id, wh, (lo ++ [id]), (sendF (P.drop n0) (C0.map fun y => y.2) n0 bl).2.2.2⟩ := by
            unfold frS
            rw [if_neg NG.out]
            simp only
            rw [hf, e1]
            rfl
          rw [this]
          exact k1
        have H3 := hide (H2.out.later ((Below.refl _ _).alloc (Nat.le_refl _) (.cells #[.int .i64 id] 2)))
        have lg := blk_lt H2.out.sb
        have c5 := H2.out.sb.cells.2.2.2.2.2.1
        have OC := hide H3.out.tl.ol
        have BW := hide (Nat.le_trans H3.out.bw H3.out.ch.size)
        have HL := hide so
        obtain ⟨A0, cA, ev, _, _⟩ := own_form H2.out.tl.ol
        have EV0 := hide ev
        rw [ev] at c5
        obtain ⟨ln, hln⟩ : ∃ ln, ln = lo.length := ⟨_, rfl⟩
        rw [← hln] at c5 ev
        have LN := hide hln
        clear ev hln hf
        have EV1 : Hid (lv = .slice A0 ln cA) := by rw [EV0.out, ← LN.out]; exact hide rfl
        go_wp2_with (at_builtin; go_loud (refine wpList_append_id rfl _ _ rfl B lv lo ?_ OC.out W2.heap.size id rfl (by simp [go_sem]) HL.out BW.out ?_); (go_loud (rw [EV1.out]; rfl)); intro v' w' o' gr mv; go_loud (rw [← LN.out] at o'); go_loud (obtain ⟨A', c', rfl, ec, en⟩ := own_form o'); go_loud (rw [LN.out] at o' mv); go_loud (have s3 := H3.out.sb.chg (Chg.grown (S := fun k => Value.ownBlock lv = some k) gr (fun k e => e)) (fun e => own_ne_blk OC.out H3.out.sb (by decide) e rfl)); go_loud (have c23 := s3.cells.2.2.2.2.2.1); have f23 := s3.cells.2.2.2.2.2.2.2.1 3; go_loud (have HN := hide (H3.out.lose o' gr mv)); go_loud (rw [← LN.out] at HN); go_loud (clear o' gr mv ec en s3))
        go_returns
        exact FIN.out _ ⟨_, _, _, _, _, _, HM.out, HN.out⟩
      · have FIN : Hid (∀ W', (∃ va vb cv C ba bl', C.map (fun y : CE => y.2) = (sendF (P.drop n0) (C0.map fun y => y.2) n0 bl).2.1 ∧ Rk B g w M W' pa pc P cv true id va vb (sendF (P.drop n0) (C0.map fun y => y.2) n0 bl).2.2.2 C (wh ++ [id]) lo ba bl' ea) → RFrPost B w g P ⟨P.drop n0, C0.map fun y => y.2, hd, last, wh, lo, n0⟩ M id bl (.returned (.int .i64 0)) W') := by
          rintro W' ⟨va, vb, cv, C, ba, bl', e1, k⟩
          obtain ⟨m2, u1, u2⟩ := SF.out
          obtain ⟨k1, k2⟩ := k.skv (Q := (sendF (P.drop n0) (C0.map fun y => y.2) n0 bl).1) ⟨m2, u1, u2⟩ HPB.out
          refine ⟨by unfold frE; rw [if_neg NG.out], ?_, k2⟩
          have : frS ⟨P.drop n0, C0.map fun y => y.2, hd, last, wh, lo, n0⟩ id bl = ⟨(sendF (P.drop n0) (C0.map fun y => y.2) n0 bl).1, C.map fun y => y.2, true, id, (wh ++ [id]), lo, (sendF (P.drop n0) (C0.map fun y => y.2) n0 bl).2.2.2⟩ := by
            unfold frS
            rw [if_neg NG.out]
            simp only
            rw [hf, e1]
            rfl
          rw [this]
          exact k1
        have H3 := hide (H2.out.later ((Below.refl _ _).alloc (Nat.le_refl _) (.cells #[.int .i64 id] 2)))
        have lg := blk_lt H2.out.sb
        have c5 := H2.out.sb.cells.2.2.2.2.1
        have OC := hide H3.out.tl.ow
        have BW := hide (Nat.le_trans H3.out.bw H3.out.ch.size)
        have HL := hide sw
        obtain ⟨A0, cA, ev, _, _⟩ := own_form H2.out.tl.ow
        have EV0 := hide ev
        rw [ev] at c5
        obtain ⟨ln, hln⟩ : ∃ ln, ln = wh.length := ⟨_, rfl⟩
        rw [← hln] at c5 ev
        have LN := hide hln
        clear ev hln hf
        have EV1 : Hid (wv = .slice A0 ln cA) := by rw [EV0.out, ← LN.out]; exact hide rfl
        go_wp2_with (at_builtin; go_loud (refine wpList_append_id rfl _ _ rfl B wv wh ?_ OC.out W2.heap.size id rfl (by simp [go_sem]) HL.out BW.out ?_); (go_loud (rw [EV1.out]; rfl)); intro v' w' o' gr mv; go_loud (rw [← LN.out] at o'); go_loud (obtain ⟨A', c', rfl, ec, en⟩ := own_form o'); go_loud (rw [LN.out] at o' mv); go_loud (have s3 := H3.out.sb.chg (Chg.grown (S := fun k => Value.ownBlock wv = some k) gr (fun k e => e)) (fun e => own_ne_blk OC.out H3.out.sb (by decide) e rfl)); go_loud (have c23 := s3.cells.2.2.2.2.1); have f23 := s3.cells.2.2.2.2.2.2.2.1 2; go_loud (have HN := hide (H3.out.whole o' gr mv)); go_loud (rw [← LN.out] at HN); go_loud (clear o' gr mv ec en s3))
        go_returns
        exact FIN.out _ ⟨_, _, _, _, _, _, HM.out, HN.out⟩
end Go.Proofs.YtbahhlgcebgfeaaDoor
