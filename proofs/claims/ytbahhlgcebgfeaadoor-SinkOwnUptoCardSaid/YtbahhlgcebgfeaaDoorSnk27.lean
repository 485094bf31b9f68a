/- sink: the reference's send. -/
import Derived.Test.YtbahhlgcebgfeaaDoorSnk26
import Derived.Deep.DeepCutAuto
namespace Go.Proofs.YtbahhlgcebgfeaaDoor
set_option linter.unusedVariables false
set_option linter.unusedSimpArgs false
open Go.RowKit W
def RnPost (B g : Nat) (w : World) (M : Nat → Prop) (pa : Option Addr) (pc : Nat) (P : List Ch) (hd : Bool) (last : Int) (wv lv : Value) (wh lo : List Int) (ea : Addr) (D : List (List UInt8 × Bool)) (R : List Ch × List UInt8 × Bool × List UInt8 × Int) (e : Ending) (w' : World) : Prop :=
  ∃ cv D' x ba, e = .returned (.bool (decide (R.2.2.2.1 = []))) ∧ D'.map (fun y : CE => y.2) = D ∧ Rk B g w M w' pa pc P cv hd last wv lv R.2.2.2.2 (D' ++ [(x, R.2.1, R.2.2.1)]) wh lo ba R.2.2.2.1 ea
set_option maxRecDepth 100000 in
set_option maxHeartbeats 8000000 in
theorem rsend_empty {B g : Nat} {w W : World} {M : Nat → Prop} {pa : Option Addr} {pc : Nat} {P : List Ch} {cv : Value} {hd : Bool} {last : Int} {wv lv : Value} {n0 : Nat} {D : List CE} {y : Value} {ac : List UInt8} {wh lo : List Int} {ba : Option Addr} {bl : List UInt8} {bc : Nat} {ea : Addr}
    (h : Rk B g w M W pa pc P cv hd last wv lv (n0 : Int) ([] : List CE) wh lo ba bl ea) (hb : bl ≠ []) (hbc : bl.length ≤ bc) (hn : n0 + 64 * bl.length + 64 ≤ 4611686018427387904) (hz : bl.length ≤ 140737488355328) (hC : ([] : List CE).length ≤ 4000000000000) (hP : P.length ≤ 1048576) :
    Calls Tryd.prog 23 #[.pointer (some ⟨g, 0, none⟩), .slice ba bl.length bc] W (RnPost B g w M pa pc P hd last wv lv wh lo ea [] (sendL (P.drop n0) [] false bl 0 n0)) := by
  obtain ⟨R, hR⟩ : ∃ R, sendL (P.drop n0) [] false bl 0 n0 = R := ⟨_, rfl⟩
  rw [hR]
  have H1 := hide h
  have HR := hide hR
  have c1 := h.sb.cells.2.1
  have lg := blk_lt h.sb
  obtain ⟨q, hq⟩ : ∃ q, q = bl.length := ⟨_, rfl⟩
  have q0 : 0 < q := by rw [hq]; exact List.length_pos_iff.2 hb
  have q0' : (0 : Int) < (q : Int) := by omega
  have HQ := hide hq
  rw [← hq] at hbc hz hn
  rw [← hq]
  obtain ⟨A, c, ev, hc, hA⟩ := own_form h.tl.oc
  obtain ⟨m, hm0⟩ : ∃ m, m = ([] : List CE).length := ⟨_, rfl⟩
  rw [← hm0] at ev
  have HEO : Hid (cv = .slice A m c) := ev
  rw [HEO.out] at c1
  have HML := hide hm0
  have s5 : ((m : Int) == 0) = true := by rw [hm0]; rfl
  have hm4 : m ≤ 4000000000000 := by rw [hm0]; simp
  have s9 : IntKind.i64.wrap ((m : Int) + 1) = (m : Int) + 1 := by rw [IntKind.wrap_i64]; omega
  have HA := hide (H1.out.later ((Below.refl _ _).alloc (Nat.le_refl _) (.cells #[.slice none 0 0, .bool false] 53)))
  have OC := hide HA.out.tl.oc
  have BW := hide (Nat.le_trans HA.out.bw HA.out.ch.size)
  have HC := hide hC
  clear h hR hq hb hC hc hA ev hm0
  go_enter Tryd.func23, Tryd.ntmps23
  go_upto_region 5 with (at_builtin; go_loud (refine wpList_append_conn rfl _ _ rfl B cv ([] : List CE) ?_ OC.out W.heap.size (.slice none 0 0) false rfl rfl (by simp [go_sem]) (by simp [go_sem]) HC.out BW.out ?_); (rw [HEO.out]; rfl); intro v' w' o' gr mv; go_loud (obtain ⟨A', c', rfl, ec, en⟩ := own_form o'); have s3 := HA.out.sb.chg (Chg.grown (S := fun k => Value.ownBlock cv = some k) gr (fun k e => e)) (fun e => own_ne_blk OC.out HA.out.sb (by decide) e rfl); have c23 := s3.cells.2.1; have f23 := s3.cells.2.2.2.2.2.2.2.1 1; have HN := hide (HA.out.conn o' gr mv); clear o' gr mv ec en s3)
  generalize w'.setCell ⟨g, 1, none⟩ (.slice A' (([] : List CE).length + 1) c') = W2 at HN ⊢
  clear c23 f23 c1 lg OC BW HA H1 HEO s5 s9
  have hDD : (([] : List CE)).length ≤ 4000000000000 := by simp
  obtain ⟨gc, cap, e9, hcap, _, _, _, _, _⟩ := HN.out.tl.last
  rw [e9] at HN
  clear e9
  obtain ⟨dl, hdl⟩ : ∃ dl : List CE, dl = ([] : List CE) := ⟨_, rfl⟩
  have HN : Hid (Rk B g w M W2 pa pc P (.slice (some ⟨gc, 0, none⟩) (dl.length + 1) cap) hd last wv lv (n0 : Int) (dl ++ [(.slice none 0 0, [], false)]) wh lo ba bl ea) := by subst hdl; exact HN
  have hDD : dl.length ≤ 4000000000000 := by subst hdl; exact hDD
  have HDQ : Hid (dl.map (fun y : CE => y.2) = []) := by subst hdl; exact hide (by simp)
  have HM : Hid (m = dl.length) := by subst hdl; exact HML
  rw [← HM.out] at hDD
  clear hdl hcap HML
  go_wp2_with fail
  go_loopw [1, 6] (fun bs ii wr => ∃ (x : Value) (acc : List UInt8) (nn : Nat) (ba : Option Addr) (bl : List UInt8) (bc idle : Nat), bs = .slice ba bl.length bc ∧ ii = .int .i64 idle ∧ bl.length ≤ bc ∧ idle < 64 ∧ nn + 64 * bl.length + (64 - idle) ≤ 4611686018427387904 ∧ acc.length + bl.length ≤ 140737488355328 ∧ Hid (Rk B g w M wr pa pc P (.slice (some ⟨gc, 0, none⟩) (dl.length + 1) cap) hd last wv lv (nn : Int) (dl ++ [(x, acc, false)]) wh lo ba bl ea) ∧ Hid (sendL (P.drop nn) acc false bl idle nn = R)) (fun bs ii _ => 65 * lenOf bs + (64 - (intOf ii).toNat))
  case atStart => exact ⟨_, _, n0, ba, bl, bc, 0, by rw [← HQ.out], rfl, by rw [← HQ.out]; exact hbc, by omega, by rw [← HQ.out]; omega, by rw [← HQ.out]; simpa using hz, HN, HR⟩
  case round =>
    clear HR HQ hn hbc hz HN
    obtain ⟨x, acc, nn, ba, bl, bc, idle, rfl, rfl, hbc, hid, hK, hz, HX, HS⟩ := hrel
    obtain ⟨q, hq⟩ : ∃ q, q = bl.length := ⟨_, rfl⟩
    by_cases hb : bl = []
    · have hq0 : q = 0 := by rw [hq, hb]; rfl
      have DM0 : dl.map (fun y : CE => y.2) = [] := HDQ.out
      have FIN : Hid (RnPost B g w M pa pc P hd last wv lv wh lo ea [] R (.returned (.bool true)) wr) := by
        have := HS.out
        rw [hb, sendL_nil] at this
        rw [← this]
        exact hide ⟨_, dl, x, ba, rfl, DM0, by have := HX.out; rw [hb] at this; exact this⟩
      rw [← hq, hq0]
      clear hq hq0 hb HX HS
      go_wp2_with fail
      go_returns
      exact FIN.out
    · have q0 : 0 < q := by rw [hq]; exact List.length_pos_iff.2 hb
      have q0' : (0 : Int) < (q : Int) := by omega
      have kC := choice_is HX.out (by omega) hP q
      unfold ChoP at kC
      obtain ⟨k, fl, P2, ht⟩ : ∃ k fl P2, wrF (P.drop nn) bl.length = (k, fl, P2) := ⟨_, _, _, rfl⟩
      have hP2 := wrF_drop P nn bl.length
      rw [ht] at hP2
      have kq : k ≤ q := by have := wrF_le (P.drop nn) bl.length; rw [ht, ← hq] at this; exact this
      have SM := fun (e : fl = false) (k0 : 0 < k) => sendL_more (p := P.drop nn) (acc := acc) (f := false) (b := bl) (idle := idle) (n := (nn : Int)) hb (by rw [ht]; exact e) (by rw [ht]; exact k0)
      have SF := fun (e : fl = true) => sendL_fail (p := P.drop nn) (acc := acc) (f := false) (b := bl) (idle := idle) (n := (nn : Int)) hb (by rw [ht]; exact e)
      have SE := fun (e : fl = false) (k0 : k = 0) (i : 64 ≤ idle + 1) => sendL_end (p := P.drop nn) (acc := acc) (f := false) (b := bl) (idle := idle) (n := (nn : Int)) hb (by rw [ht]; exact e) (by rw [ht]; exact k0) i
      have SI := fun (e : fl = false) (k0 : k = 0) (i : idle + 1 < 64) => sendL_idle (p := P.drop nn) (acc := acc) (f := false) (b := bl) (idle := idle) (n := (nn : Int)) hb (by rw [ht]; exact e) (by rw [ht]; exact k0) i
      rw [ht, HS.out] at SM SF SE SI
      simp only at SM SF SE SI hP2
      subst hP2
      obtain ⟨ad, rfl⟩ : ∃ ad, ba = some ad := by
        rcases HX.out.bs with e | ⟨g, o, e, _⟩
        · exact absurd e hb
        · exact ⟨_, e⟩
      rw [← hq] at ht
      rw [ht] at kC
      simp only at kC
      rw [← hq] at hbc hz hK
      have HQ := hide hq
      have ld : (bl.drop k).length = q - k := by rw [List.length_drop, ← hq]
      have HLD := hide ld
      rw [← hq]
      have KC := hide kC
      clear hq ht ld HX HS kC
      go_upto_region 8 with (go_at_call 29; go_loud (refine Calls.mono KC.out ?_); go_loud (rintro e w' ⟨rfl, H'⟩); have H3 := hide H'; clear H' KC)
      have TL := H3.out.tl
      obtain ⟨gc', cap', e0, _, k0, k1, kf, lgc, _⟩ := TL.last
      obtain ⟨rfl, rfl⟩ : gc' = gc ∧ cap' = cap := by
        injection e0 with e1 _ e2
        injection e1 with e1
        injection e1 with e1
        exact ⟨e1.symm, e2.symm⟩
      rw [← HM.out] at k0 k1 TL
      have c1 := H3.out.sb.cells.2.1
      rw [← HM.out] at c1
      have lg := blk_lt H3.out.sb
      have OB := TL.ob _ (List.mem_append_right _ List.mem_cons_self)
      have CB := cells_bytes H3.out.bs k
      have sl := bytes_to (a := some ad) (c := bc) kq hbc
      obtain ⟨i0, hi0, hz0, hz1, hz2⟩ := info_parts info_u8
      have lb : (rowB (bl.take k)).length = k * 1 := by rw [rowB_len, List.length_take, Nat.mul_one, ← HQ.out]; omega
      have bw := H3.out.bw
      have bw2 := H3.out.ch.size
      have TLd : Tl B w'.drew _ wv lv _ wh lo := TL.later ((Below.refl _ _).drew)
      have GR := fun w1 gr => Tl.grown (w1 := w1) TLd gr
      have kf0 := kf (m * 2)
      have NX : Hid (∀ k, x.ownBlock = some k → k ≠ g) := fun k e => own_ne_blk OB H3.out.sb (by decide) e
      have I0 := hide hi0
      have Z0 := hide hz0
      have Z1 := hide hz1
      have Z2 := hide hz2
      have OBH := hide OB
      have CBH := hide CB
      have LBH := hide lb
      have GRH := hide GR
      have s1 : IntKind.i64.wrap (m : Int) = m := by rw [IntKind.wrap_i64]; omega
      have s2 : IntKind.i64.wrap ((m : Int) + 1 - 1) = m := by rw [IntKind.wrap_i64]; omega
      have s3 : (0 : Int) ≤ (m : Int) := by omega
      have s4 : (m : Int) < (m : Int) + 1 := by omega
      clear hi0 hz0 hz1 hz2 TL TLd OB CB lb GR kf
      go_cut [53] from 53 to 75 (fun _ W' => ∃ v, Hid (Rk B g w M W' pa pc P (.slice (some ⟨gc', 0, none⟩) (dl.length + 1) cap') hd last wv lv ((nn : Int) + 1) (dl ++ [(v, acc ++ bl.take k, false)]) wh lo (some ad) bl ea))
      case first =>
        go_region_law (refine step_append_at rfl _ _ 30 rfl B 5 i0 (.int .u8 0) 1 1 Tryd.underlying30 I0.out Z0.out Z1.out Z2.out rfl (by decide) x acc.length (rowB acc) ?_ OBH.out ad k bc (rowB (bl.take k)) ?_ LBH.out CBH.out (rowB_one _) ?_ ?_ ?_ ?_; (rfl); (rfl); (unfold maxLen; omega); (omega); (exact Nat.le_trans bw bw2); (intro v' w4 o' gr mv; obtain ⟨A', c', rfl, ec, en⟩ := own_form o'; clear ec en; have g1 := ((GRH.out w4 gr).1 (m * 2)).trans k0; have g2 := ((GRH.out w4 gr).2.1 (m * 2)).trans kf0; have g3 := (GRH.out w4 gr).2.2; have g4 := ((Chg.grown (S := fun k => x.ownBlock = some k) gr (fun k e => e)).cell (o := 1) lg (fun e => NX.out _ e rfl)).trans c1; have g5 := Nat.lt_of_lt_of_le lg gr.size; have O' := hide o'; have G' := hide gr; have M' := hide mv; clear o' gr mv))
        all_goals
          go_wp2_with fail
          have l1 : (acc ++ bl.take k).length = acc.length + k := by rw [List.length_append, List.length_take, ← HQ.out]; omega
          have O2 : w4.ownsRow B 5 1 (.slice A' (acc.length + k) c') (acc ++ bl.take k).length (rowB (acc ++ bl.take k)) := by rw [rowB_app, l1]; exact O'.out
          have H4 := hide ((H3.out.later ((Below.refl _ _).drew)).more O2 G'.out M'.out)
          rw [← HM.out] at H4
          go_meet
          case rel => exact ⟨.slice A' (acc.length + k) c', by rw [← HM.out]; exact H4⟩
      case rest =>
        obtain ⟨v, H4⟩ := hcut
        clear k0 k1 kf0 lgc c1 lg sl bw bw2 H3 OBH CBH LBH GRH NX I0 Z0 Z1 Z2
        obtain ⟨g9, cap9, e9, _, _, k9, kf, lgc9, _⟩ := H4.out.tl.last
        obtain ⟨rfl, rfl⟩ : g9 = gc' ∧ cap9 = cap' := by
          injection e9 with e1 _ e2
          injection e1 with e1
          injection e1 with e1
          exact ⟨e1.symm, e2.symm⟩
        rw [← HM.out] at k9
        simp only at k9
        have kf9 := kf (m * 2 + 1)
        have c1 := H4.out.sb.cells.2.1
        rw [← HM.out] at c1
        have lg := blk_lt H4.out.sb
        obtain ⟨a2, sl2, ib, bk⟩ := bytes_off H4.out.bs bc k (by rw [← HQ.out]; exact kq) (by rw [← HQ.out]; exact hbc)
        rw [← HQ.out] at sl2
        have HZ := hide (H4.out.off ib bk)
        have HF : Hid (Rk B g w M (wc.setCell ⟨g9, m * 2 + 1, none⟩ (.bool true)) pa pc P (.slice (some ⟨g9, 0, none⟩) (dl.length + 1) cap9) hd last wv lv ((nn : Int) + 1) (dl ++ [(v, acc ++ bl.take k, true)]) wh lo a2 (bl.drop k) ea) := by
          have := HZ.out.fail
          rw [show dl.length * 2 + 1 = m * 2 + 1 by rw [← HM.out]] at this
          exact hide this
        have w1 : IntKind.i64.wrap ((idle : Int) + 1) = (idle : Int) + 1 := by rw [IntKind.wrap_i64]; omega
        clear e9 kf ib bk
        cases fl
        · by_cases z0 : 0 < k
          · have z0' : (0 : Int) < (k : Int) := by omega
            have HS2 := hide (SM rfl z0).symm
            clear SM SF SE SI HF H4
            go_wp2_with fail
            go_roundw
            case rel => exact ⟨v, _, nn + 1, a2, bl.drop k, bc - k, 0, by rw [HLD.out], rfl, by rw [HLD.out]; omega, by omega, by rw [HLD.out]; omega, by rw [HLD.out, List.length_append, List.length_take, ← HQ.out]; omega, HZ, HS2⟩
            case measure => simp [intOf, lenOf]; omega
          · have z1 : k = 0 := by omega
            subst z1
            have HZ0 : Hid (Rk B g w M wc pa pc P (.slice (some ⟨g9, 0, none⟩) (dl.length + 1) cap9) hd last wv lv ((nn : Int) + 1) (dl ++ [(v, acc, false)]) wh lo (some ad) bl ea) := by
              have := H4.out
              rw [List.take_zero, List.append_nil] at this
              exact hide this
            by_cases i0 : idle + 1 < 64
            · have HS2 := hide (SI rfl rfl i0).symm
              have i1 : ((idle : Int) + 1 == 64) = false := by rw [beq_eq_false_iff_ne]; omega
              clear SM SF SE SI HF HZ H4
              go_wp2_with fail
              go_roundw
              case rel => exact ⟨v, acc, nn + 1, some ad, bl, bc, idle + 1, by rw [← HQ.out], by go_num, by rw [← HQ.out]; exact hbc, by omega, by rw [← HQ.out]; omega, by rw [← HQ.out]; exact hz, HZ0, HS2⟩
              case measure => simp [intOf, lenOf]; omega
            · have HS2 := hide (SE rfl rfl (by omega))
              have i1 : ((idle : Int) + 1 == 64) = true := by rw [beq_iff_eq]; omega
              have FIN : Hid (RnPost B g w M pa pc P hd last wv lv wh lo ea [] R (.returned (.bool ((q : Int) == 0))) (wc.setCell ⟨g9, m * 2 + 1, none⟩ (.bool true))) := by
                rw [HS2.out, HQ.out, beq_len]
                have := HF.out
                rw [List.take_zero, List.append_nil, List.drop_zero] at this
                exact hide ⟨_, dl, v, a2, rfl, HDQ.out, this⟩
              clear SM SF SE SI HF HZ H4 HS2
              go_wp2_with fail
              go_returns
              exact FIN.out
        · have HS2 := hide (SF rfl)
          clear SM SF SE SI
          have FIN : Hid (RnPost B g w M pa pc P hd last wv lv wh lo ea [] R (.returned (.bool (((q - k : Nat) : Int) == 0))) (wc.setCell ⟨g9, m * 2 + 1, none⟩ (.bool true))) := by
            rw [HS2.out, ← HLD.out, beq_len]
            exact hide ⟨_, dl, v, a2, rfl, HDQ.out, HF.out⟩
          clear HS2 HF HZ H4
          by_cases z0 : 0 < k
          · have z0' : (0 : Int) < (k : Int) := by omega
            go_wp2_with fail
            go_returns
            exact FIN.out
          · have z1 : k = 0 := by omega
            subst z1
            go_wp2_with fail
            go_returns
            exact FIN.out
set_option maxRecDepth 100000 in
set_option maxHeartbeats 8000000 in
theorem rsend_failed {B g : Nat} {w W : World} {M : Nat → Prop} {pa : Option Addr} {pc : Nat} {P : List Ch} {cv : Value} {hd : Bool} {last : Int} {wv lv : Value} {n0 : Nat} {D : List CE} {y : Value} {ac : List UInt8} {wh lo : List Int} {ba : Option Addr} {bl : List UInt8} {bc : Nat} {ea : Addr}
    (h : Rk B g w M W pa pc P cv hd last wv lv (n0 : Int) (D ++ [(y, ac, true)]) wh lo ba bl ea) (hb : bl ≠ []) (hbc : bl.length ≤ bc) (hn : n0 + 64 * bl.length + 64 ≤ 4611686018427387904) (hz : bl.length ≤ 140737488355328) (hC : (D ++ [(y, ac, true)]).length ≤ 4000000000000) (hP : P.length ≤ 1048576) :
    Calls Tryd.prog 23 #[.pointer (some ⟨g, 0, none⟩), .slice ba bl.length bc] W (RnPost B g w M pa pc P hd last wv lv wh lo ea ((D.map fun y => y.2) ++ [(ac, true)]) (sendL (P.drop n0) [] false bl 0 n0)) := by
  obtain ⟨R, hR⟩ : ∃ R, sendL (P.drop n0) [] false bl 0 n0 = R := ⟨_, rfl⟩
  rw [hR]
  have H1 := hide h
  have HR := hide hR
  have c1 := h.sb.cells.2.1
  have lg := blk_lt h.sb
  obtain ⟨q, hq⟩ : ∃ q, q = bl.length := ⟨_, rfl⟩
  have q0 : 0 < q := by rw [hq]; exact List.length_pos_iff.2 hb
  have q0' : (0 : Int) < (q : Int) := by omega
  have HQ := hide hq
  rw [← hq] at hbc hz hn
  rw [← hq]
  obtain ⟨gc0, cap0, e9, hcap, _, k1, _, lgc, _⟩ := h.tl.last
  obtain ⟨dm, hdm⟩ : ∃ dm, dm = D.length := ⟨_, rfl⟩
  obtain ⟨m, hm0⟩ : ∃ m, m = (D ++ [(y, ac, true)]).length := ⟨_, rfl⟩
  have e1 : D.length + 1 = m := by rw [hm0, List.length_append]; rfl
  rw [e1] at e9
  rw [← hdm] at k1 e1
  have HEO : Hid (cv = .slice (some ⟨gc0, 0, none⟩) m cap0) := e9
  rw [HEO.out] at c1
  simp only at k1
  have HML := hide hm0
  have s5 : ((m : Int) == 0) = false := by rw [beq_eq_false_iff_ne]; omega
  have s6 : IntKind.i64.wrap ((m : Int) - 1) = (dm : Int) := by rw [IntKind.wrap_i64]; rw [hm0] at e1; omega
  have s7 : (0 : Int) ≤ (dm : Int) := by omega
  have s8 : (dm : Int) < (m : Int) := by omega
  have s9 : IntKind.i64.wrap ((m : Int) + 1) = (m : Int) + 1 := by rw [IntKind.wrap_i64]; rw [hm0]; omega
  have HA := hide (H1.out.later ((Below.refl _ _).alloc (Nat.le_refl _) (.cells #[.slice none 0 0, .bool false] 53)))
  have OC := hide HA.out.tl.oc
  have BW := hide (Nat.le_trans HA.out.bw HA.out.ch.size)
  have HC := hide hC
  clear h hR hq hb hC hm0 e9 hcap hdm e1
  go_enter Tryd.func23, Tryd.ntmps23
  go_upto_region 5 with (at_builtin; go_loud (refine wpList_append_conn rfl _ _ rfl B cv (D ++ [(y, ac, true)]) ?_ OC.out W.heap.size (.slice none 0 0) false rfl rfl (by simp [go_sem]) (by simp [go_sem]) HC.out BW.out ?_); (rw [HEO.out]; rfl); intro v' w' o' gr mv; go_loud (obtain ⟨A', c', rfl, ec, en⟩ := own_form o'); have s3 := HA.out.sb.chg (Chg.grown (S := fun k => Value.ownBlock cv = some k) gr (fun k e => e)) (fun e => own_ne_blk OC.out HA.out.sb (by decide) e rfl); have c23 := s3.cells.2.1; have f23 := s3.cells.2.2.2.2.2.2.2.1 1; have HN := hide (HA.out.conn o' gr mv); clear o' gr mv ec en s3; go_loud (rw [← HML.out] at HN ⊢))
  generalize w'.setCell ⟨g, 1, none⟩ (.slice A' (m + 1) c') = W2 at HN ⊢
  clear c23 f23 c1 lg OC BW HA H1 HEO s5 s6 s7 s8 s9 k1 lgc
  have hDD := HC.out
  obtain ⟨gc, cap, e9, hcap, _, _, _, _, _⟩ := HN.out.tl.last
  rw [e9] at HN
  clear e9
  obtain ⟨dl, hdl⟩ : ∃ dl : List CE, dl = (D ++ [(y, ac, true)]) := ⟨_, rfl⟩
  have HN : Hid (Rk B g w M W2 pa pc P (.slice (some ⟨gc, 0, none⟩) (dl.length + 1) cap) hd last wv lv (n0 : Int) (dl ++ [(.slice none 0 0, [], false)]) wh lo ba bl ea) := by subst hdl; exact HN
  have hDD : dl.length ≤ 4000000000000 := by subst hdl; exact hDD
  have HDQ : Hid (dl.map (fun y : CE => y.2) = ((D.map fun y => y.2) ++ [(ac, true)])) := by subst hdl; exact hide (by simp)
  have HM : Hid (m = dl.length) := by subst hdl; exact HML
  rw [← HM.out] at hDD
  clear hdl hcap HML
  go_wp2_with fail
  go_loopw [1, 6] (fun bs ii wr => ∃ (x : Value) (acc : List UInt8) (nn : Nat) (ba : Option Addr) (bl : List UInt8) (bc idle : Nat), bs = .slice ba bl.length bc ∧ ii = .int .i64 idle ∧ bl.length ≤ bc ∧ idle < 64 ∧ nn + 64 * bl.length + (64 - idle) ≤ 4611686018427387904 ∧ acc.length + bl.length ≤ 140737488355328 ∧ Hid (Rk B g w M wr pa pc P (.slice (some ⟨gc, 0, none⟩) (dl.length + 1) cap) hd last wv lv (nn : Int) (dl ++ [(x, acc, false)]) wh lo ba bl ea) ∧ Hid (sendL (P.drop nn) acc false bl idle nn = R)) (fun bs ii _ => 65 * lenOf bs + (64 - (intOf ii).toNat))
  case atStart => exact ⟨_, _, n0, ba, bl, bc, 0, by rw [← HQ.out], rfl, by rw [← HQ.out]; exact hbc, by omega, by rw [← HQ.out]; omega, by rw [← HQ.out]; simpa using hz, HN, HR⟩
  case round =>
    clear HR HQ hn hbc hz HN
    obtain ⟨x, acc, nn, ba, bl, bc, idle, rfl, rfl, hbc, hid, hK, hz, HX, HS⟩ := hrel
    obtain ⟨q, hq⟩ : ∃ q, q = bl.length := ⟨_, rfl⟩
    by_cases hb : bl = []
    · have hq0 : q = 0 := by rw [hq, hb]; rfl
      have DM0 : dl.map (fun y : CE => y.2) = ((D.map fun y => y.2) ++ [(ac, true)]) := HDQ.out
      have FIN : Hid (RnPost B g w M pa pc P hd last wv lv wh lo ea ((D.map fun y => y.2) ++ [(ac, true)]) R (.returned (.bool true)) wr) := by
        have := HS.out
        rw [hb, sendL_nil] at this
        rw [← this]
        exact hide ⟨_, dl, x, ba, rfl, DM0, by have := HX.out; rw [hb] at this; exact this⟩
      rw [← hq, hq0]
      clear hq hq0 hb HX HS
      go_wp2_with fail
      go_returns
      exact FIN.out
    · have q0 : 0 < q := by rw [hq]; exact List.length_pos_iff.2 hb
      have q0' : (0 : Int) < (q : Int) := by omega
      have kC := choice_is HX.out (by omega) hP q
      unfold ChoP at kC
      obtain ⟨k, fl, P2, ht⟩ : ∃ k fl P2, wrF (P.drop nn) bl.length = (k, fl, P2) := ⟨_, _, _, rfl⟩
      have hP2 := wrF_drop P nn bl.length
      rw [ht] at hP2
      have kq : k ≤ q := by have := wrF_le (P.drop nn) bl.length; rw [ht, ← hq] at this; exact this
      have SM := fun (e : fl = false) (k0 : 0 < k) => sendL_more (p := P.drop nn) (acc := acc) (f := false) (b := bl) (idle := idle) (n := (nn : Int)) hb (by rw [ht]; exact e) (by rw [ht]; exact k0)
      have SF := fun (e : fl = true) => sendL_fail (p := P.drop nn) (acc := acc) (f := false) (b := bl) (idle := idle) (n := (nn : Int)) hb (by rw [ht]; exact e)
      have SE := fun (e : fl = false) (k0 : k = 0) (i : 64 ≤ idle + 1) => sendL_end (p := P.drop nn) (acc := acc) (f := false) (b := bl) (idle := idle) (n := (nn : Int)) hb (by rw [ht]; exact e) (by rw [ht]; exact k0) i
      have SI := fun (e : fl = false) (k0 : k = 0) (i : idle + 1 < 64) => sendL_idle (p := P.drop nn) (acc := acc) (f := false) (b := bl) (idle := idle) (n := (nn : Int)) hb (by rw [ht]; exact e) (by rw [ht]; exact k0) i
      rw [ht, HS.out] at SM SF SE SI
      simp only at SM SF SE SI hP2
      subst hP2
      obtain ⟨ad, rfl⟩ : ∃ ad, ba = some ad := by
        rcases HX.out.bs with e | ⟨g, o, e, _⟩
        · exact absurd e hb
        · exact ⟨_, e⟩
      rw [← hq] at ht
      rw [ht] at kC
      simp only at kC
      rw [← hq] at hbc hz hK
      have HQ := hide hq
      have ld : (bl.drop k).length = q - k := by rw [List.length_drop, ← hq]
      have HLD := hide ld
      rw [← hq]
      have KC := hide kC
      clear hq ht ld HX HS kC
      go_upto_region 8 with (go_at_call 29; go_loud (refine Calls.mono KC.out ?_); go_loud (rintro e w' ⟨rfl, H'⟩); have H3 := hide H'; clear H' KC)
      have TL := H3.out.tl
      obtain ⟨gc', cap', e0, _, k0, k1, kf, lgc, _⟩ := TL.last
      obtain ⟨rfl, rfl⟩ : gc' = gc ∧ cap' = cap := by
        injection e0 with e1 _ e2
        injection e1 with e1
        injection e1 with e1
        exact ⟨e1.symm, e2.symm⟩
      rw [← HM.out] at k0 k1 TL
      have c1 := H3.out.sb.cells.2.1
      rw [← HM.out] at c1
      have lg := blk_lt H3.out.sb
      have OB := TL.ob _ (List.mem_append_right _ List.mem_cons_self)
      have CB := cells_bytes H3.out.bs k
      have sl := bytes_to (a := some ad) (c := bc) kq hbc
      obtain ⟨i0, hi0, hz0, hz1, hz2⟩ := info_parts info_u8
      have lb : (rowB (bl.take k)).length = k * 1 := by rw [rowB_len, List.length_take, Nat.mul_one, ← HQ.out]; omega
      have bw := H3.out.bw
      have bw2 := H3.out.ch.size
      have TLd : Tl B w'.drew _ wv lv _ wh lo := TL.later ((Below.refl _ _).drew)
      have GR := fun w1 gr => Tl.grown (w1 := w1) TLd gr
      have kf0 := kf (m * 2)
      have NX : Hid (∀ k, x.ownBlock = some k → k ≠ g) := fun k e => own_ne_blk OB H3.out.sb (by decide) e
      have I0 := hide hi0
      have Z0 := hide hz0
      have Z1 := hide hz1
      have Z2 := hide hz2
      have OBH := hide OB
      have CBH := hide CB
      have LBH := hide lb
      have GRH := hide GR
      have s1 : IntKind.i64.wrap (m : Int) = m := by rw [IntKind.wrap_i64]; omega
      have s2 : IntKind.i64.wrap ((m : Int) + 1 - 1) = m := by rw [IntKind.wrap_i64]; omega
      have s3 : (0 : Int) ≤ (m : Int) := by omega
      have s4 : (m : Int) < (m : Int) + 1 := by omega
      clear hi0 hz0 hz1 hz2 TL TLd OB CB lb GR kf
      go_cut [53] from 53 to 75 (fun _ W' => ∃ v, Hid (Rk B g w M W' pa pc P (.slice (some ⟨gc', 0, none⟩) (dl.length + 1) cap') hd last wv lv ((nn : Int) + 1) (dl ++ [(v, acc ++ bl.take k, false)]) wh lo (some ad) bl ea))
      case first =>
        go_region_law (refine step_append_at rfl _ _ 30 rfl B 5 i0 (.int .u8 0) 1 1 Tryd.underlying30 I0.out Z0.out Z1.out Z2.out rfl (by decide) x acc.length (rowB acc) ?_ OBH.out ad k bc (rowB (bl.take k)) ?_ LBH.out CBH.out (rowB_one _) ?_ ?_ ?_ ?_; (rfl); (rfl); (unfold maxLen; omega); (omega); (exact Nat.le_trans bw bw2); (intro v' w4 o' gr mv; obtain ⟨A', c', rfl, ec, en⟩ := own_form o'; clear ec en; have g1 := ((GRH.out w4 gr).1 (m * 2)).trans k0; have g2 := ((GRH.out w4 gr).2.1 (m * 2)).trans kf0; have g3 := (GRH.out w4 gr).2.2; have g4 := ((Chg.grown (S := fun k => x.ownBlock = some k) gr (fun k e => e)).cell (o := 1) lg (fun e => NX.out _ e rfl)).trans c1; have g5 := Nat.lt_of_lt_of_le lg gr.size; have O' := hide o'; have G' := hide gr; have M' := hide mv; clear o' gr mv))
        all_goals
          go_wp2_with fail
          have l1 : (acc ++ bl.take k).length = acc.length + k := by rw [List.length_append, List.length_take, ← HQ.out]; omega
          have O2 : w4.ownsRow B 5 1 (.slice A' (acc.length + k) c') (acc ++ bl.take k).length (rowB (acc ++ bl.take k)) := by rw [rowB_app, l1]; exact O'.out
          have H4 := hide ((H3.out.later ((Below.refl _ _).drew)).more O2 G'.out M'.out)
          rw [← HM.out] at H4
          go_meet
          case rel => exact ⟨.slice A' (acc.length + k) c', by rw [← HM.out]; exact H4⟩
      case rest =>
        obtain ⟨v, H4⟩ := hcut
        clear k0 k1 kf0 lgc c1 lg sl bw bw2 H3 OBH CBH LBH GRH NX I0 Z0 Z1 Z2
        obtain ⟨g9, cap9, e9, _, _, k9, kf, lgc9, _⟩ := H4.out.tl.last
        obtain ⟨rfl, rfl⟩ : g9 = gc' ∧ cap9 = cap' := by
          injection e9 with e1 _ e2
          injection e1 with e1
          injection e1 with e1
          exact ⟨e1.symm, e2.symm⟩
        rw [← HM.out] at k9
        simp only at k9
        have kf9 := kf (m * 2 + 1)
        have c1 := H4.out.sb.cells.2.1
        rw [← HM.out] at c1
        have lg := blk_lt H4.out.sb
        obtain ⟨a2, sl2, ib, bk⟩ := bytes_off H4.out.bs bc k (by rw [← HQ.out]; exact kq) (by rw [← HQ.out]; exact hbc)
        rw [← HQ.out] at sl2
        have HZ := hide (H4.out.off ib bk)
        have HF : Hid (Rk B g w M (wc.setCell ⟨g9, m * 2 + 1, none⟩ (.bool true)) pa pc P (.slice (some ⟨g9, 0, none⟩) (dl.length + 1) cap9) hd last wv lv ((nn : Int) + 1) (dl ++ [(v, acc ++ bl.take k, true)]) wh lo a2 (bl.drop k) ea) := by
          have := HZ.out.fail
          rw [show dl.length * 2 + 1 = m * 2 + 1 by rw [← HM.out]] at this
          exact hide this
        have w1 : IntKind.i64.wrap ((idle : Int) + 1) = (idle : Int) + 1 := by rw [IntKind.wrap_i64]; omega
        clear e9 kf ib bk
        cases fl
        · by_cases z0 : 0 < k
          · have z0' : (0 : Int) < (k : Int) := by omega
            have HS2 := hide (SM rfl z0).symm
            clear SM SF SE SI HF H4
            go_wp2_with fail
            go_roundw
            case rel => exact ⟨v, _, nn + 1, a2, bl.drop k, bc - k, 0, by rw [HLD.out], rfl, by rw [HLD.out]; omega, by omega, by rw [HLD.out]; omega, by rw [HLD.out, List.length_append, List.length_take, ← HQ.out]; omega, HZ, HS2⟩
            case measure => simp [intOf, lenOf]; omega
          · have z1 : k = 0 := by omega
            subst z1
            have HZ0 : Hid (Rk B g w M wc pa pc P (.slice (some ⟨g9, 0, none⟩) (dl.length + 1) cap9) hd last wv lv ((nn : Int) + 1) (dl ++ [(v, acc, false)]) wh lo (some ad) bl ea) := by
              have := H4.out
              rw [List.take_zero, List.append_nil] at this
              exact hide this
            by_cases i0 : idle + 1 < 64
            · have HS2 := hide (SI rfl rfl i0).symm
              have i1 : ((idle : Int) + 1 == 64) = false := by rw [beq_eq_false_iff_ne]; omega
              clear SM SF SE SI HF HZ H4
              go_wp2_with fail
              go_roundw
              case rel => exact ⟨v, acc, nn + 1, some ad, bl, bc, idle + 1, by rw [← HQ.out], by go_num, by rw [← HQ.out]; exact hbc, by omega, by rw [← HQ.out]; omega, by rw [← HQ.out]; exact hz, HZ0, HS2⟩
              case measure => simp [intOf, lenOf]; omega
            · have HS2 := hide (SE rfl rfl (by omega))
              have i1 : ((idle : Int) + 1 == 64) = true := by rw [beq_iff_eq]; omega
              have FIN : Hid (RnPost B g w M pa pc P hd last wv lv wh lo ea ((D.map fun y => y.2) ++ [(ac, true)]) R (.returned (.bool ((q : Int) == 0))) (wc.setCell ⟨g9, m * 2 + 1, none⟩ (.bool true))) := by
                rw [HS2.out, HQ.out, beq_len]
                have := HF.out
                rw [List.take_zero, List.append_nil, List.drop_zero] at this
                exact hide ⟨_, dl, v, a2, rfl, HDQ.out, this⟩
              clear SM SF SE SI HF HZ H4 HS2
              go_wp2_with fail
              go_returns
              exact FIN.out
        · have HS2 := hide (SF rfl)
          clear SM SF SE SI
          have FIN : Hid (RnPost B g w M pa pc P hd last wv lv wh lo ea ((D.map fun y => y.2) ++ [(ac, true)]) R (.returned (.bool (((q - k : Nat) : Int) == 0))) (wc.setCell ⟨g9, m * 2 + 1, none⟩ (.bool true))) := by
            rw [HS2.out, ← HLD.out, beq_len]
            exact hide ⟨_, dl, v, a2, rfl, HDQ.out, HF.out⟩
          clear HS2 HF HZ H4
          by_cases z0 : 0 < k
          · have z0' : (0 : Int) < (k : Int) := by omega
            go_wp2_with fail
            go_returns
            exact FIN.out
          · have z1 : k = 0 := by omega
            subst z1
            go_wp2_with fail
            go_returns
            exact FIN.out
set_option maxRecDepth 100000 in
set_option maxHeartbeats 8000000 in
theorem rsend_old {B g : Nat} {w W : World} {M : Nat → Prop} {pa : Option Addr} {pc : Nat} {P : List Ch} {cv : Value} {hd : Bool} {last : Int} {wv lv : Value} {n0 : Nat} {D : List CE} {y : Value} {ac : List UInt8} {wh lo : List Int} {ba : Option Addr} {bl : List UInt8} {bc : Nat} {ea : Addr}
    (h : Rk B g w M W pa pc P cv hd last wv lv (n0 : Int) (D ++ [(y, ac, false)]) wh lo ba bl ea) (hb : bl ≠ []) (hbc : bl.length ≤ bc) (hn : n0 + 64 * bl.length + 64 ≤ 4611686018427387904) (hz : ac.length + bl.length ≤ 140737488355328) (hC : (D ++ [(y, ac, false)]).length ≤ 4000000000000) (hP : P.length ≤ 1048576) :
    Calls Tryd.prog 23 #[.pointer (some ⟨g, 0, none⟩), .slice ba bl.length bc] W (RnPost B g w M pa pc P hd last wv lv wh lo ea (D.map fun y => y.2) (sendL (P.drop n0) ac false bl 0 n0)) := by
  obtain ⟨R, hR⟩ : ∃ R, sendL (P.drop n0) ac false bl 0 n0 = R := ⟨_, rfl⟩
  rw [hR]
  have H1 := hide h
  have HR := hide hR
  have c1 := h.sb.cells.2.1
  have lg := blk_lt h.sb
  obtain ⟨q, hq⟩ : ∃ q, q = bl.length := ⟨_, rfl⟩
  have q0 : 0 < q := by rw [hq]; exact List.length_pos_iff.2 hb
  have q0' : (0 : Int) < (q : Int) := by omega
  have HQ := hide hq
  rw [← hq] at hbc hz hn
  rw [← hq]
  obtain ⟨gc0, cap0, e9, hcap, _, k1, _, lgc, _⟩ := h.tl.last
  obtain ⟨m, hm0⟩ : ∃ m, m = D.length := ⟨_, rfl⟩
  rw [← hm0] at e9 k1
  rw [e9] at c1
  simp only at k1
  have HML := hide hm0
  have hm4 : m ≤ 4000000000000 := by rw [hm0]; simp at hC; omega
  have s1 : IntKind.i64.wrap (m : Int) = m := by rw [IntKind.wrap_i64]; omega
  have s5 : ((m : Int) + 1 == 0) = false := by rw [beq_eq_false_iff_ne]; omega
  have s6 : IntKind.i64.wrap ((m : Int) + 1 - 1) = (m : Int) := by rw [IntKind.wrap_i64]; omega
  have s7 : (0 : Int) ≤ (m : Int) := by omega
  have s8 : (m : Int) < (m : Int) + 1 := by omega
  have hDD : D.length ≤ 4000000000000 := by rw [← hm0]; exact hm4
  clear h hR hq hb hC hm0 e9 hcap
  go_enter Tryd.func23, Tryd.ntmps23
  go_upto_region 5 with (fail)
  clear c1 lg s1 s5 s6 s7 s8 k1 lgc
  have HN := H1
  obtain ⟨W2, hW2⟩ : ∃ W2, W2 = W := ⟨_, rfl⟩
  rw [← hW2] at HN ⊢
  clear H1 hW2
  obtain ⟨gc, cap, e9, hcap, _, _, _, _, _⟩ := HN.out.tl.last
  rw [e9] at HN
  clear e9
  obtain ⟨dl, hdl⟩ : ∃ dl : List CE, dl = D := ⟨_, rfl⟩
  have HN : Hid (Rk B g w M W2 pa pc P (.slice (some ⟨gc, 0, none⟩) (dl.length + 1) cap) hd last wv lv (n0 : Int) (dl ++ [(y, ac, false)]) wh lo ba bl ea) := by subst hdl; exact HN
  have hDD : dl.length ≤ 4000000000000 := by subst hdl; exact hDD
  have HDQ : Hid (dl.map (fun y : CE => y.2) = (D.map fun y => y.2)) := by subst hdl; exact hide (by simp)
  have HM : Hid (m = dl.length) := by subst hdl; exact HML
  rw [← HM.out] at hDD
  clear hdl hcap HML
  go_wp2_with fail
  go_loopw [1, 6] (fun bs ii wr => ∃ (x : Value) (acc : List UInt8) (nn : Nat) (ba : Option Addr) (bl : List UInt8) (bc idle : Nat), bs = .slice ba bl.length bc ∧ ii = .int .i64 idle ∧ bl.length ≤ bc ∧ idle < 64 ∧ nn + 64 * bl.length + (64 - idle) ≤ 4611686018427387904 ∧ acc.length + bl.length ≤ 140737488355328 ∧ Hid (Rk B g w M wr pa pc P (.slice (some ⟨gc, 0, none⟩) (dl.length + 1) cap) hd last wv lv (nn : Int) (dl ++ [(x, acc, false)]) wh lo ba bl ea) ∧ Hid (sendL (P.drop nn) acc false bl idle nn = R)) (fun bs ii _ => 65 * lenOf bs + (64 - (intOf ii).toNat))
  case atStart => exact ⟨_, _, n0, ba, bl, bc, 0, by rw [← HQ.out], rfl, by rw [← HQ.out]; exact hbc, by omega, by rw [← HQ.out]; omega, by rw [← HQ.out]; simpa using hz, HN, HR⟩
  case round =>
    clear HR HQ hn hbc hz HN
    obtain ⟨x, acc, nn, ba, bl, bc, idle, rfl, rfl, hbc, hid, hK, hz, HX, HS⟩ := hrel
    obtain ⟨q, hq⟩ : ∃ q, q = bl.length := ⟨_, rfl⟩
    by_cases hb : bl = []
    · have hq0 : q = 0 := by rw [hq, hb]; rfl
      have DM0 : dl.map (fun y : CE => y.2) = (D.map fun y => y.2) := HDQ.out
      have FIN : Hid (RnPost B g w M pa pc P hd last wv lv wh lo ea (D.map fun y => y.2) R (.returned (.bool true)) wr) := by
        have := HS.out
        rw [hb, sendL_nil] at this
        rw [← this]
        exact hide ⟨_, dl, x, ba, rfl, DM0, by have := HX.out; rw [hb] at this; exact this⟩
      rw [← hq, hq0]
      clear hq hq0 hb HX HS
      go_wp2_with fail
      go_returns
      exact FIN.out
    · have q0 : 0 < q := by rw [hq]; exact List.length_pos_iff.2 hb
      have q0' : (0 : Int) < (q : Int) := by omega
      have kC := choice_is HX.out (by omega) hP q
      unfold ChoP at kC
      obtain ⟨k, fl, P2, ht⟩ : ∃ k fl P2, wrF (P.drop nn) bl.length = (k, fl, P2) := ⟨_, _, _, rfl⟩
      have hP2 := wrF_drop P nn bl.length
      rw [ht] at hP2
      have kq : k ≤ q := by have := wrF_le (P.drop nn) bl.length; rw [ht, ← hq] at this; exact this
      have SM := fun (e : fl = false) (k0 : 0 < k) => sendL_more (p := P.drop nn) (acc := acc) (f := false) (b := bl) (idle := idle) (n := (nn : Int)) hb (by rw [ht]; exact e) (by rw [ht]; exact k0)
      have SF := fun (e : fl = true) => sendL_fail (p := P.drop nn) (acc := acc) (f := false) (b := bl) (idle := idle) (n := (nn : Int)) hb (by rw [ht]; exact e)
      have SE := fun (e : fl = false) (k0 : k = 0) (i : 64 ≤ idle + 1) => sendL_end (p := P.drop nn) (acc := acc) (f := false) (b := bl) (idle := idle) (n := (nn : Int)) hb (by rw [ht]; exact e) (by rw [ht]; exact k0) i
      have SI := fun (e : fl = false) (k0 : k = 0) (i : idle + 1 < 64) => sendL_idle (p := P.drop nn) (acc := acc) (f := false) (b := bl) (idle := idle) (n := (nn : Int)) hb (by rw [ht]; exact e) (by rw [ht]; exact k0) i
      rw [ht, HS.out] at SM SF SE SI
      simp only at SM SF SE SI hP2
      subst hP2
      obtain ⟨ad, rfl⟩ : ∃ ad, ba = some ad := by
        rcases HX.out.bs with e | ⟨g, o, e, _⟩
        · exact absurd e hb
        · exact ⟨_, e⟩
      rw [← hq] at ht
      rw [ht] at kC
      simp only at kC
      rw [← hq] at hbc hz hK
      have HQ := hide hq
      have ld : (bl.drop k).length = q - k := by rw [List.length_drop, ← hq]
      have HLD := hide ld
      rw [← hq]
      have KC := hide kC
      clear hq ht ld HX HS kC
      go_upto_region 8 with (go_at_call 29; go_loud (refine Calls.mono KC.out ?_); go_loud (rintro e w' ⟨rfl, H'⟩); have H3 := hide H'; clear H' KC)
      have TL := H3.out.tl
      obtain ⟨gc', cap', e0, _, k0, k1, kf, lgc, _⟩ := TL.last
      obtain ⟨rfl, rfl⟩ : gc' = gc ∧ cap' = cap := by
        injection e0 with e1 _ e2
        injection e1 with e1
        injection e1 with e1
        exact ⟨e1.symm, e2.symm⟩
      rw [← HM.out] at k0 k1 TL
      have c1 := H3.out.sb.cells.2.1
      rw [← HM.out] at c1
      have lg := blk_lt H3.out.sb
      have OB := TL.ob _ (List.mem_append_right _ List.mem_cons_self)
      have CB := cells_bytes H3.out.bs k
      have sl := bytes_to (a := some ad) (c := bc) kq hbc
      obtain ⟨i0, hi0, hz0, hz1, hz2⟩ := info_parts info_u8
      have lb : (rowB (bl.take k)).length = k * 1 := by rw [rowB_len, List.length_take, Nat.mul_one, ← HQ.out]; omega
      have bw := H3.out.bw
      have bw2 := H3.out.ch.size
      have TLd : Tl B w'.drew _ wv lv _ wh lo := TL.later ((Below.refl _ _).drew)
      have GR := fun w1 gr => Tl.grown (w1 := w1) TLd gr
      have kf0 := kf (m * 2)
      have NX : Hid (∀ k, x.ownBlock = some k → k ≠ g) := fun k e => own_ne_blk OB H3.out.sb (by decide) e
      have I0 := hide hi0
      have Z0 := hide hz0
      have Z1 := hide hz1
      have Z2 := hide hz2
      have OBH := hide OB
      have CBH := hide CB
      have LBH := hide lb
      have GRH := hide GR
      have s1 : IntKind.i64.wrap (m : Int) = m := by rw [IntKind.wrap_i64]; omega
      have s2 : IntKind.i64.wrap ((m : Int) + 1 - 1) = m := by rw [IntKind.wrap_i64]; omega
      have s3 : (0 : Int) ≤ (m : Int) := by omega
      have s4 : (m : Int) < (m : Int) + 1 := by omega
      clear hi0 hz0 hz1 hz2 TL TLd OB CB lb GR kf
      go_cut [53] from 53 to 75 (fun _ W' => ∃ v, Hid (Rk B g w M W' pa pc P (.slice (some ⟨gc', 0, none⟩) (dl.length + 1) cap') hd last wv lv ((nn : Int) + 1) (dl ++ [(v, acc ++ bl.take k, false)]) wh lo (some ad) bl ea))
      case first =>
        go_region_law (refine step_append_at rfl _ _ 30 rfl B 5 i0 (.int .u8 0) 1 1 Tryd.underlying30 I0.out Z0.out Z1.out Z2.out rfl (by decide) x acc.length (rowB acc) ?_ OBH.out ad k bc (rowB (bl.take k)) ?_ LBH.out CBH.out (rowB_one _) ?_ ?_ ?_ ?_; (rfl); (rfl); (unfold maxLen; omega); (omega); (exact Nat.le_trans bw bw2); (intro v' w4 o' gr mv; obtain ⟨A', c', rfl, ec, en⟩ := own_form o'; clear ec en; have g1 := ((GRH.out w4 gr).1 (m * 2)).trans k0; have g2 := ((GRH.out w4 gr).2.1 (m * 2)).trans kf0; have g3 := (GRH.out w4 gr).2.2; have g4 := ((Chg.grown (S := fun k => x.ownBlock = some k) gr (fun k e => e)).cell (o := 1) lg (fun e => NX.out _ e rfl)).trans c1; have g5 := Nat.lt_of_lt_of_le lg gr.size; have O' := hide o'; have G' := hide gr; have M' := hide mv; clear o' gr mv))
        all_goals
          go_wp2_with fail
          have l1 : (acc ++ bl.take k).length = acc.length + k := by rw [List.length_append, List.length_take, ← HQ.out]; omega
          have O2 : w4.ownsRow B 5 1 (.slice A' (acc.length + k) c') (acc ++ bl.take k).length (rowB (acc ++ bl.take k)) := by rw [rowB_app, l1]; exact O'.out
          have H4 := hide ((H3.out.later ((Below.refl _ _).drew)).more O2 G'.out M'.out)
          rw [← HM.out] at H4
          go_meet
          case rel => exact ⟨.slice A' (acc.length + k) c', by rw [← HM.out]; exact H4⟩
      case rest =>
        obtain ⟨v, H4⟩ := hcut
        clear k0 k1 kf0 lgc c1 lg sl bw bw2 H3 OBH CBH LBH GRH NX I0 Z0 Z1 Z2
        obtain ⟨g9, cap9, e9, _, _, k9, kf, lgc9, _⟩ := H4.out.tl.last
        obtain ⟨rfl, rfl⟩ : g9 = gc' ∧ cap9 = cap' := by
          injection e9 with e1 _ e2
          injection e1 with e1
          injection e1 with e1
          exact ⟨e1.symm, e2.symm⟩
        rw [← HM.out] at k9
        simp only at k9
        have kf9 := kf (m * 2 + 1)
        have c1 := H4.out.sb.cells.2.1
        rw [← HM.out] at c1
        have lg := blk_lt H4.out.sb
        obtain ⟨a2, sl2, ib, bk⟩ := bytes_off H4.out.bs bc k (by rw [← HQ.out]; exact kq) (by rw [← HQ.out]; exact hbc)
        rw [← HQ.out] at sl2
        have HZ := hide (H4.out.off ib bk)
        have HF : Hid (Rk B g w M (wc.setCell ⟨g9, m * 2 + 1, none⟩ (.bool true)) pa pc P (.slice (some ⟨g9, 0, none⟩) (dl.length + 1) cap9) hd last wv lv ((nn : Int) + 1) (dl ++ [(v, acc ++ bl.take k, true)]) wh lo a2 (bl.drop k) ea) := by
          have := HZ.out.fail
          rw [show dl.length * 2 + 1 = m * 2 + 1 by rw [← HM.out]] at this
          exact hide this
        have w1 : IntKind.i64.wrap ((idle : Int) + 1) = (idle : Int) + 1 := by rw [IntKind.wrap_i64]; omega
        clear e9 kf ib bk
        cases fl
        · by_cases z0 : 0 < k
          · have z0' : (0 : Int) < (k : Int) := by omega
            have HS2 := hide (SM rfl z0).symm
            clear SM SF SE SI HF H4
            go_wp2_with fail
            go_roundw
            case rel => exact ⟨v, _, nn + 1, a2, bl.drop k, bc - k, 0, by rw [HLD.out], rfl, by rw [HLD.out]; omega, by omega, by rw [HLD.out]; omega, by rw [HLD.out, List.length_append, List.length_take, ← HQ.out]; omega, HZ, HS2⟩
            case measure => simp [intOf, lenOf]; omega
          · have z1 : k = 0 := by omega
            subst z1
            have HZ0 : Hid (Rk B g w M wc pa pc P (.slice (some ⟨g9, 0, none⟩) (dl.length + 1) cap9) hd last wv lv ((nn : Int) + 1) (dl ++ [(v, acc, false)]) wh lo (some ad) bl ea) := by
              have := H4.out
              rw [List.take_zero, List.append_nil] at this
              exact hide this
            by_cases i0 : idle + 1 < 64
            · have HS2 := hide (SI rfl rfl i0).symm
              have i1 : ((idle : Int) + 1 == 64) = false := by rw [beq_eq_false_iff_ne]; omega
              clear SM SF SE SI HF HZ H4
              go_wp2_with fail
              go_roundw
              case rel => exact ⟨v, acc, nn + 1, some ad, bl, bc, idle + 1, by rw [← HQ.out], by go_num, by rw [← HQ.out]; exact hbc, by omega, by rw [← HQ.out]; omega, by rw [← HQ.out]; exact hz, HZ0, HS2⟩
              case measure => simp [intOf, lenOf]; omega
            · have HS2 := hide (SE rfl rfl (by omega))
              have i1 : ((idle : Int) + 1 == 64) = true := by rw [beq_iff_eq]; omega
              have FIN : Hid (RnPost B g w M pa pc P hd last wv lv wh lo ea (D.map fun y => y.2) R (.returned (.bool ((q : Int) == 0))) (wc.setCell ⟨g9, m * 2 + 1, none⟩ (.bool true))) := by
                rw [HS2.out, HQ.out, beq_len]
                have := HF.out
                rw [List.take_zero, List.append_nil, List.drop_zero] at this
                exact hide ⟨_, dl, v, a2, rfl, HDQ.out, this⟩
              clear SM SF SE SI HF HZ H4 HS2
              go_wp2_with fail
              go_returns
              exact FIN.out
        · have HS2 := hide (SF rfl)
          clear SM SF SE SI
          have FIN : Hid (RnPost B g w M pa pc P hd last wv lv wh lo ea (D.map fun y => y.2) R (.returned (.bool (((q - k : Nat) : Int) == 0))) (wc.setCell ⟨g9, m * 2 + 1, none⟩ (.bool true))) := by
            rw [HS2.out, ← HLD.out, beq_len]
            exact hide ⟨_, dl, v, a2, rfl, HDQ.out, HF.out⟩
          clear HS2 HF HZ H4
          by_cases z0 : 0 < k
          · have z0' : (0 : Int) < (k : Int) := by omega
            go_wp2_with fail
            go_returns
            exact FIN.out
          · have z1 : k = 0 := by omega
            subst z1
            go_wp2_with fail
            go_returns
            exact FIN.out
end Go.Proofs.YtbahhlgcebgfeaaDoor
