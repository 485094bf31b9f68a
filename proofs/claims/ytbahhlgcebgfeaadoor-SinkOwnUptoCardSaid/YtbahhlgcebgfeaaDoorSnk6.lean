/- sink: Frame, New. -/
import Derived.Test.YtbahhlgcebgfeaaDoorSnk5
namespace Go.Proofs.YtbahhlgcebgfeaaDoor
set_option linter.unusedVariables false
set_option linter.unusedSimpArgs false
open Go.RowKit W
set_option maxRecDepth 100000 in
set_option maxHeartbeats 8000000 in
theorem frame_go {B g : Nat} {w : World} {M : Nat → Prop} {pa : Option Addr} {pc : Nat} {P : List Ch} {cv : Value} {hd : Bool} {last : Int} {wv lv : Value} {n : Int} {C0 : List CE} {wh lo : List Int} {ba : Option Addr} {bl : List UInt8} {bc : Nat} {ea : Addr} {id : Int} {bx : Option Addr}
    (h : Wk B g w M w pa pc P cv hd last wv lv n C0 wh lo ba bl ea) (hq : bl ≠ [] → bx = ba) (hbc : bl.length ≤ bc) (hn : 0 ≤ n ∧ n + 64 * bl.length + 64 ≤ 4611686018427387904) (hz : ∀ x ∈ C0, x.2.1.length + bl.length ≤ 140737488355328) (hb : bl.length ≤ 140737488355328) (hC : C0.length ≤ 4000000000000) (sw : wh.length ≤ 4000000000000) (so : lo.length ≤ 4000000000000) (ng : ¬ (hd = true ∧ id ≤ last)) :
    Calls Tryd.prog 12 #[.pointer (some ⟨g, 0, none⟩), .int .i64 id, .slice bx bl.length bc] w (FrPost B w g ⟨P, C0.map fun y => y.2, hd, last, wh, lo, n⟩ M id bl) := by
  have cl := h.sb.cells
  have c0 := cl.1
  have c3 := cl.2.2.2.1
  have c4 := cl.2.2.2.2.1
  have f3 := cl.2.2.2.2.2.2.2.2.1 3
  have f4 := cl.2.2.2.2.2.2.2.2.1 4
  have lg := blk_lt h.sb
  have kM := smade c0
  have H1 := hide (h.hand id)
  have kS := send_any H1.out hq hbc hn hz hb hC
  have NG := hide ng
  have F : Hid (hd = false ∨ hd = true ∧ last < id) := by
    cases hd
    · exact .inl rfl
    · exact .inr ⟨rfl, by simp at ng; omega⟩
  clear h cl ng
  go_enter Tryd.func12, Tryd.ntmps12
  go_wp2_with fail
  refine Calls.mono kM ?_
  rintro e w1 ⟨rfl, rfl⟩
  rcases F.out with F1 | ⟨F1, F2⟩
  · have e2 := F1
    rw [F1] at c3
    go_wp2_with fail
    refine Calls.mono kS ?_
    rintro e w2 ⟨pa2, pc2, cv2, C2, ba2, bl2, rfl, hm, h2⟩
    have H2 := hide h2
    have HM := hide hm
    have E2 := hide e2
    clear h2 hm kS H1 c0 c3 c4 f3 f4 lg e2
    cases hf : (sendF P (C0.map fun y => y.2) n bl).2.2.1
    · have FIN : Hid (∀ W', (∃ va vb pa pc cv C ba bl', C.map (fun y : CE => y.2) = (sendF P (C0.map fun y => y.2) n bl).2.1 ∧ Wk B g w M W' pa pc (sendF P (C0.map fun y => y.2) n bl).1 cv true id va vb (sendF P (C0.map fun y => y.2) n bl).2.2.2 C wh (lo ++ [id]) ba bl' ea) → FrPost B w g ⟨P, C0.map fun y => y.2, hd, last, wh, lo, n⟩ M id bl (.returned (.int .i64 0)) W') := by
        rintro W' ⟨va, vb, pa, pc, cv, C, ba, bl', e1, k⟩
        obtain ⟨k1, k2⟩ := k.skv
        refine ⟨by unfold frE; rw [if_neg NG.out], ?_, k2⟩
        have : frS ⟨P, C0.map fun y => y.2, hd, last, wh, lo, n⟩ id bl = ⟨(sendF P (C0.map fun y => y.2) n bl).1, C.map fun y => y.2, true, id, wh, (lo ++ [id]), (sendF P (C0.map fun y => y.2) n bl).2.2.2⟩ := by
          unfold frS
          rw [if_neg NG.out]
          simp only
          rw [hf, e1]
          rfl
        rw [this]
        exact k1
      have H3 := hide (H2.out.later ((Below.refl _ _).alloc (Nat.le_refl _) (.cells #[.int .i64 id] 2)))
      have cl := H3.out.sb.cells
      have cc := cl.2.2.2.2.2.2.1
      have lg := blk_lt H2.out.sb
      have c5 := H2.out.sb.cells.2.2.2.2.2.2.1
      have OC := hide H3.out.tl.ol
      have BW := hide (Nat.le_trans H3.out.bw H3.out.ch.size)
      have HL := hide so
      obtain ⟨A0, cA, ev, _, _⟩ := own_form H2.out.tl.ol
      have EV0 := hide ev
      rw [ev] at c5
      obtain ⟨ln, hln⟩ : ∃ ln, ln = lo.length := ⟨_, rfl⟩
      rw [← hln] at c5 ev
      have LN := hide hln
      clear cl cc ev hln hf
      have EV1 : Hid (lv = .slice A0 ln cA) := by rw [EV0.out, ← LN.out]; exact hide rfl
      go_wp2_with (at_builtin; go_loud (refine wpList_append_id rfl _ _ rfl B lv lo ?_ OC.out w2.heap.size id rfl (by simp [go_sem]) HL.out BW.out ?_); (go_loud (rw [EV1.out]; rfl)); intro v' w' o' gr mv; go_loud (rw [← LN.out] at o'); go_loud (obtain ⟨A', c', rfl, ec, en⟩ := own_form o'); go_loud (rw [LN.out] at o' mv); go_loud (have s3 := H3.out.sb.chg (Chg.grown (S := fun k => Value.ownBlock lv = some k) gr (fun k e => e)) (fun e => own_ne_blk OC.out H3.out.sb (by decide) e rfl)); go_loud (have c23 := s3.cells.2.2.2.2.2.2.1); have f23 := s3.cells.2.2.2.2.2.2.2.2.1 6; go_loud (have HN := hide (H3.out.lose o' gr mv)); go_loud (rw [← LN.out] at HN); go_loud (clear o' gr mv ec en s3))
      go_returns
      exact FIN.out _ ⟨_, _, _, _, _, _, _, _, HM.out, HN.out⟩
    · have FIN : Hid (∀ W', (∃ va vb pa pc cv C ba bl', C.map (fun y : CE => y.2) = (sendF P (C0.map fun y => y.2) n bl).2.1 ∧ Wk B g w M W' pa pc (sendF P (C0.map fun y => y.2) n bl).1 cv true id va vb (sendF P (C0.map fun y => y.2) n bl).2.2.2 C (wh ++ [id]) lo ba bl' ea) → FrPost B w g ⟨P, C0.map fun y => y.2, hd, last, wh, lo, n⟩ M id bl (.returned (.int .i64 0)) W') := by
        rintro W' ⟨va, vb, pa, pc, cv, C, ba, bl', e1, k⟩
        obtain ⟨k1, k2⟩ := k.skv
        refine ⟨by unfold frE; rw [if_neg NG.out], ?_, k2⟩
        have : frS ⟨P, C0.map fun y => y.2, hd, last, wh, lo, n⟩ id bl = ⟨(sendF P (C0.map fun y => y.2) n bl).1, C.map fun y => y.2, true, id, (wh ++ [id]), lo, (sendF P (C0.map fun y => y.2) n bl).2.2.2⟩ := by
          unfold frS
          rw [if_neg NG.out]
          simp only
          rw [hf, e1]
          rfl
        rw [this]
        exact k1
      have H3 := hide (H2.out.later ((Below.refl _ _).alloc (Nat.le_refl _) (.cells #[.int .i64 id] 2)))
      have cl := H3.out.sb.cells
      have cc := cl.2.2.2.2.2.1
      have lg := blk_lt H2.out.sb
      have c5 := H2.out.sb.cells.2.2.2.2.2.1
      have OC := hide H3.out.tl.ow
      have BW := hide (Nat.le_trans H3.out.bw H3.out.ch.size)
      have HL := hide sw
      obtain ⟨A0, cA, ev, _, _⟩ := own_form H2.out.tl.ow
      have EV0 := hide ev
      rw [ev] at c5
      obtain ⟨ln, hln⟩ : ∃ ln, ln = wh.length := ⟨_, rfl⟩
      rw [← hln] at c5 ev
      have LN := hide hln
      clear cl cc ev hln hf
      have EV1 : Hid (wv = .slice A0 ln cA) := by rw [EV0.out, ← LN.out]; exact hide rfl
      go_wp2_with (at_builtin; go_loud (refine wpList_append_id rfl _ _ rfl B wv wh ?_ OC.out w2.heap.size id rfl (by simp [go_sem]) HL.out BW.out ?_); (go_loud (rw [EV1.out]; rfl)); intro v' w' o' gr mv; go_loud (rw [← LN.out] at o'); go_loud (obtain ⟨A', c', rfl, ec, en⟩ := own_form o'); go_loud (rw [LN.out] at o' mv); go_loud (have s3 := H3.out.sb.chg (Chg.grown (S := fun k => Value.ownBlock wv = some k) gr (fun k e => e)) (fun e => own_ne_blk OC.out H3.out.sb (by decide) e rfl)); go_loud (have c23 := s3.cells.2.2.2.2.2.1); have f23 := s3.cells.2.2.2.2.2.2.2.2.1 5; go_loud (have HN := hide (H3.out.whole o' gr mv)); go_loud (rw [← LN.out] at HN); go_loud (clear o' gr mv ec en s3))
      go_returns
      exact FIN.out _ ⟨_, _, _, _, _, _, _, _, HM.out, HN.out⟩
  · have e2 := F1
    have F2' : ¬ id ≤ last := by omega
    rw [F1] at c3
    go_wp2_with fail
    refine Calls.mono kS ?_
    rintro e w2 ⟨pa2, pc2, cv2, C2, ba2, bl2, rfl, hm, h2⟩
    have H2 := hide h2
    have HM := hide hm
    have E2 := hide e2
    clear h2 hm kS H1 c0 c3 c4 f3 f4 lg e2
    cases hf : (sendF P (C0.map fun y => y.2) n bl).2.2.1
    · have FIN : Hid (∀ W', (∃ va vb pa pc cv C ba bl', C.map (fun y : CE => y.2) = (sendF P (C0.map fun y => y.2) n bl).2.1 ∧ Wk B g w M W' pa pc (sendF P (C0.map fun y => y.2) n bl).1 cv true id va vb (sendF P (C0.map fun y => y.2) n bl).2.2.2 C wh (lo ++ [id]) ba bl' ea) → FrPost B w g ⟨P, C0.map fun y => y.2, hd, last, wh, lo, n⟩ M id bl (.returned (.int .i64 0)) W') := by
        rintro W' ⟨va, vb, pa, pc, cv, C, ba, bl', e1, k⟩
        obtain ⟨k1, k2⟩ := k.skv
        refine ⟨by unfold frE; rw [if_neg NG.out], ?_, k2⟩
        have : frS ⟨P, C0.map fun y => y.2, hd, last, wh, lo, n⟩ id bl = ⟨(sendF P (C0.map fun y => y.2) n bl).1, C.map fun y => y.2, true, id, wh, (lo ++ [id]), (sendF P (C0.map fun y => y.2) n bl).2.2.2⟩ := by
          unfold frS
          rw [if_neg NG.out]
          simp only
          rw [hf, e1]
          rfl
        rw [this]
        exact k1
      have H3 := hide (H2.out.later ((Below.refl _ _).alloc (Nat.le_refl _) (.cells #[.int .i64 id] 2)))
      have cl := H3.out.sb.cells
      have cc := cl.2.2.2.2.2.2.1
      have lg := blk_lt H2.out.sb
      have c5 := H2.out.sb.cells.2.2.2.2.2.2.1
      have OC := hide H3.out.tl.ol
      have BW := hide (Nat.le_trans H3.out.bw H3.out.ch.size)
      have HL := hide so
      obtain ⟨A0, cA, ev, _, _⟩ := own_form H2.out.tl.ol
      have EV0 := hide ev
      rw [ev] at c5
      obtain ⟨ln, hln⟩ : ∃ ln, ln = lo.length := ⟨_, rfl⟩
      rw [← hln] at c5 ev
      have LN := hide hln
      clear cl cc ev hln hf
      have EV1 : Hid (lv = .slice A0 ln cA) := by rw [EV0.out, ← LN.out]; exact hide rfl
      go_wp2_with (at_builtin; go_loud (refine wpList_append_id rfl _ _ rfl B lv lo ?_ OC.out w2.heap.size id rfl (by simp [go_sem]) HL.out BW.out ?_); (go_loud (rw [EV1.out]; rfl)); intro v' w' o' gr mv; go_loud (rw [← LN.out] at o'); go_loud (obtain ⟨A', c', rfl, ec, en⟩ := own_form o'); go_loud (rw [LN.out] at o' mv); go_loud (have s3 := H3.out.sb.chg (Chg.grown (S := fun k => Value.ownBlock lv = some k) gr (fun k e => e)) (fun e => own_ne_blk OC.out H3.out.sb (by decide) e rfl)); go_loud (have c23 := s3.cells.2.2.2.2.2.2.1); have f23 := s3.cells.2.2.2.2.2.2.2.2.1 6; go_loud (have HN := hide (H3.out.lose o' gr mv)); go_loud (rw [← LN.out] at HN); go_loud (clear o' gr mv ec en s3))
      go_returns
      exact FIN.out _ ⟨_, _, _, _, _, _, _, _, HM.out, HN.out⟩
    · have FIN : Hid (∀ W', (∃ va vb pa pc cv C ba bl', C.map (fun y : CE => y.2) = (sendF P (C0.map fun y => y.2) n bl).2.1 ∧ Wk B g w M W' pa pc (sendF P (C0.map fun y => y.2) n bl).1 cv true id va vb (sendF P (C0.map fun y => y.2) n bl).2.2.2 C (wh ++ [id]) lo ba bl' ea) → FrPost B w g ⟨P, C0.map fun y => y.2, hd, last, wh, lo, n⟩ M id bl (.returned (.int .i64 0)) W') := by
        rintro W' ⟨va, vb, pa, pc, cv, C, ba, bl', e1, k⟩
        obtain ⟨k1, k2⟩ := k.skv
        refine ⟨by unfold frE; rw [if_neg NG.out], ?_, k2⟩
        have : frS ⟨P, C0.map fun y => y.2, hd, last, wh, lo, n⟩ id bl = ⟨(sendF P (C0.map fun y => y.2) n bl).1, C.map fun y => y.2, true, id, (wh ++ [id]), lo, (sendF P (C0.map fun y => y.2) n bl).2.2.2⟩ := by
          unfold frS
          rw [if_neg NG.out]
          simp only
          rw [hf, e1]
          rfl
        rw [this]
        exact k1
      have H3 := hide (H2.out.later ((Below.refl _ _).alloc (Nat.le_refl _) (.cells #[.int .i64 id] 2)))
      have cl := H3.out.sb.cells
      have cc := cl.2.2.2.2.2.1
      have lg := blk_lt H2.out.sb
      have c5 := H2.out.sb.cells.2.2.2.2.2.1
      have OC := hide H3.out.tl.ow
      have BW := hide (Nat.le_trans H3.out.bw H3.out.ch.size)
      have HL := hide sw
      obtain ⟨A0, cA, ev, _, _⟩ := own_form H2.out.tl.ow
      have EV0 := hide ev
      rw [ev] at c5
      obtain ⟨ln, hln⟩ : ∃ ln, ln = wh.length := ⟨_, rfl⟩
      rw [← hln] at c5 ev
      have LN := hide hln
      clear cl cc ev hln hf
      have EV1 : Hid (wv = .slice A0 ln cA) := by rw [EV0.out, ← LN.out]; exact hide rfl
      go_wp2_with (at_builtin; go_loud (refine wpList_append_id rfl _ _ rfl B wv wh ?_ OC.out w2.heap.size id rfl (by simp [go_sem]) HL.out BW.out ?_); (go_loud (rw [EV1.out]; rfl)); intro v' w' o' gr mv; go_loud (rw [← LN.out] at o'); go_loud (obtain ⟨A', c', rfl, ec, en⟩ := own_form o'); go_loud (rw [LN.out] at o' mv); go_loud (have s3 := H3.out.sb.chg (Chg.grown (S := fun k => Value.ownBlock wv = some k) gr (fun k e => e)) (fun e => own_ne_blk OC.out H3.out.sb (by decide) e rfl)); go_loud (have c23 := s3.cells.2.2.2.2.2.1); have f23 := s3.cells.2.2.2.2.2.2.2.2.1 5; go_loud (have HN := hide (H3.out.whole o' gr mv)); go_loud (rw [← LN.out] at HN); go_loud (clear o' gr mv ec en s3))
      go_returns
      exact FIN.out _ ⟨_, _, _, _, _, _, _, _, HM.out, HN.out⟩
end Go.Proofs.YtbahhlgcebgfeaaDoor
