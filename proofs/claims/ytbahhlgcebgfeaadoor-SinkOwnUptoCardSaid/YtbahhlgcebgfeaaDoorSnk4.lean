/- sink: send. -/
import Derived.Test.YtbahhlgcebgfeaaDoorSnk3
import Derived.WalkMore
namespace Go.Proofs.YtbahhlgcebgfeaaDoor
set_option linter.unusedVariables false
set_option linter.unusedSimpArgs false
open Go.RowKit W
/-- append of a connection. -/
theorem wpList_append_conn {w : World} {ops : Array Oper} {rest : List Oper} {o : Oper} {a : Act} {Q : Exit → Act → World → Prop} (hgd : o.guard = none) (s x : Operand)
    (ho : o.op = .call { callee := .builtin .append, args := #[s, x], argTypes := #[35, 35] }) (B : Nat) (cv : Value) (C : List CE) (hs : a.eval s = cv) (hown : w.ownsRow B 53 2 cv C.length (rowC C)) (g : Nat) (y : Value) (b : Bool) (hx : a.eval x = .slice (some ⟨g, 0, none⟩) 1 1) (hy : y.oneCell' = true) (x0 : w.cell? ⟨g, 0, none⟩ = some y) (x1 : w.cell? ⟨g, 1, none⟩ = some (.bool b))
    (hl : C.length ≤ 4000000000000) (hB : B ≤ w.heap.size) (h : ∀ v' w', w'.ownsRow B 53 2 v' (C.length + 1) (rowC C ++ [y, .bool b]) → w.grownBy w' cv.ownBlock → (v'.ownBlock = cv.ownBlock ∨ v'.ownBlock = some w.heap.size) → wpList Tryd.prog ops Q rest (a.put o.dst v') w') : wpList Tryd.prog ops Q (o :: rest) a w := by
  obtain ⟨i0, hi0, hz0, hz1, hz2⟩ := info_parts info_conn
  refine wpList_append_own_at _ hgd s x 35 ho B 53 i0 (.agg #[.slice none 0 0, .bool false]) 2 32 Tryd.underlying35 hi0 hz0 hz1 hz2 rfl (by decide) cv C.length (rowC C) hs hown ⟨g, 0, none⟩ 1 1 [y, .bool b] hx rfl ?_ ?_ (by unfold maxLen; omega) (by omega) hB (fun v' w' q1 q2 _ q3 => h v' w' q1 q2 q3)
  · intro j u hu
    rw [Go.WideShapes.add_plain, Nat.zero_add]
    rcases j with _ | _ | j
    · rw [List.getElem?_cons_zero] at hu; exact (Option.some.inj hu) ▸ x0
    · rw [List.getElem?_cons_succ, List.getElem?_cons_zero] at hu; exact (Option.some.inj hu) ▸ x1
    · rw [List.getElem?_cons_succ, List.getElem?_cons_succ, List.getElem?_nil] at hu; cases hu
  · intro u hu
    rcases List.mem_cons.1 hu with rfl | hu
    · exact hy
    · rw [List.mem_singleton] at hu; subst hu; rfl
/-- append of a number. -/
theorem wpList_append_id {w : World} {ops : Array Oper} {rest : List Oper} {o : Oper} {a : Act} {Q : Exit → Act → World → Prop} (hgd : o.guard = none) (s x : Operand)
    (ho : o.op = .call { callee := .builtin .append, args := #[s, x], argTypes := #[36, 36] }) (B : Nat) (cv : Value) (l : List Int) (hs : a.eval s = cv) (hown : w.ownsRow B 2 1 cv l.length (rowI l)) (g : Nat) (id : Int) (hx : a.eval x = .slice (some ⟨g, 0, none⟩) 1 1) (x0 : w.cell? ⟨g, 0, none⟩ = some (.int .i64 id))
    (hl : l.length ≤ 4000000000000) (hB : B ≤ w.heap.size) (h : ∀ v' w', w'.ownsRow B 2 1 v' (l.length + 1) (rowI l ++ [.int .i64 id]) → w.grownBy w' cv.ownBlock → (v'.ownBlock = cv.ownBlock ∨ v'.ownBlock = some w.heap.size) → wpList Tryd.prog ops Q rest (a.put o.dst v') w') : wpList Tryd.prog ops Q (o :: rest) a w := by
  obtain ⟨i0, hi0, hz0, hz1, hz2⟩ := info_parts info_w64
  refine wpList_append_own_at _ hgd s x 36 ho B 2 i0 (.int .i64 0) 1 8 Tryd.underlying36 hi0 hz0 hz1 hz2 rfl (by decide) cv l.length (rowI l) hs hown ⟨g, 0, none⟩ 1 1 [.int .i64 id] hx rfl ?_ ?_ (by unfold maxLen; omega) (by omega) hB (fun v' w' q1 q2 _ q3 => h v' w' q1 q2 q3)
  · intro j u hu
    rw [Go.WideShapes.add_plain, Nat.zero_add]
    rcases j with _ | j
    · rw [List.getElem?_cons_zero] at hu; exact (Option.some.inj hu) ▸ x0
    · rw [List.getElem?_cons_succ, List.getElem?_nil] at hu; cases hu
  · intro u hu
    rw [List.mem_singleton] at hu; subst hu; rfl
/-- What send comes to where there are bytes: D, the connections ahead of the last one. -/
def SnPost (B g : Nat) (w : World) (M : Nat → Prop) (hd : Bool) (last : Int) (wv lv : Value) (wh lo : List Int) (ea : Addr) (D : List (List UInt8 × Bool)) (R : List Ch × List UInt8 × Bool × List UInt8 × Int) (e : Ending) (w' : World) : Prop :=
  ∃ pa pc cv D' x ba, e = .returned (.bool (decide (R.2.2.2.1 = []))) ∧ D'.map (fun y : CE => y.2) = D ∧ Wk B g w M w' pa pc R.1 cv hd last wv lv R.2.2.2.2 (D' ++ [(x, R.2.1, R.2.2.1)]) wh lo ba R.2.2.2.1 ea
theorem beq_len (l : List UInt8) : (((l.length : Nat) : Int) == 0) = decide (l = []) := by
  cases l with
  | nil => rfl
  | cons a r => simp; omega
def lenOf : Value → Nat
  | .slice _ n _ => n
  | _ => 0
set_option maxRecDepth 100000 in
set_option maxHeartbeats 4000000 in
theorem send_nil {g : Nat} {W : World} (ba : Option Addr) (bc : Nat) :
    Calls Tryd.prog 22 #[.pointer (some ⟨g, 0, none⟩), .slice ba 0 bc] W fun e w' => e = .returned (.bool true) ∧ Below W.heap.size W w' := by
  go_enter Tryd.func22, Tryd.ntmps22
  go_wp2_with fail
  go_step3
  go_upto_region 1 with (fail)
  go_quiet (fail)
  have BD := below_drewN (Below.refl W.heap.size W) nq
  generalize W.drewN nq = W2 at BD ⊢
  have BH := hide BD
  clear BD
  go_wp2_with fail
  go_step3
  go_wp2_with fail
  go_loopw [1, 5] (fun b i wr => b = .slice ba 0 bc ∧ i = .int .i64 0 ∧ Hid (Below W.heap.size W wr)) (fun _ _ _ => 0)
  case atStart => exact ⟨rfl, rfl, BH⟩
  case round =>
    obtain ⟨rfl, rfl, B⟩ := hrel
    go_wp2_with fail
    rw [Exit.noGoto_ret]
    go_returns
    exact ⟨rfl, B.out⟩
set_option maxRecDepth 100000 in
set_option maxHeartbeats 8000000 in
theorem send_empty {B g : Nat} {w W : World} {M : Nat → Prop} {pa : Option Addr} {pc : Nat} {P : List Ch} {cv : Value} {hd : Bool} {last : Int} {wv lv : Value} {n : Int}  {wh lo : List Int} {ba : Option Addr} {bl : List UInt8} {bc : Nat} {ea : Addr}
    (h : Wk B g w M W pa pc P cv hd last wv lv n ([] : List CE) wh lo ba bl ea) (hb : bl ≠ []) (hbc : bl.length ≤ bc) (hn : 0 ≤ n ∧ n + 64 * bl.length + 64 ≤ 4611686018427387904) (hz : bl.length ≤ 140737488355328) (hC : ([] : List CE).length ≤ 4000000000000) :
    Calls Tryd.prog 22 #[.pointer (some ⟨g, 0, none⟩), .slice ba bl.length bc] W (SnPost B g w M hd last wv lv wh lo ea [] (sendL P [] false bl 0 n)) := by
  obtain ⟨R, hR⟩ : ∃ R, sendL P [] false bl 0 n = R := ⟨_, rfl⟩
  rw [hR]
  have H0 := hide h
  have HR := hide hR
  have cl := h.sb.cells
  have c2 := cl.2.2.1
  have lg := cl.2.2.2.2.2.2.2.2.2
  obtain ⟨q, hq⟩ : ∃ q, q = bl.length := ⟨_, rfl⟩
  have q0 : 0 < q := by rw [hq]; exact List.length_pos_iff.2 hb
  have q0' : (0 : Int) < (q : Int) := by omega
  have HQ := hide hq
  rw [← hq] at hbc hz hn
  rw [← hq]
  have oc := h.tl.oc
  obtain ⟨A, c, rfl, hc, hA⟩ := own_form oc
  clear h hR hq hb cl hC hA oc
  go_enter Tryd.func22, Tryd.ntmps22
  go_wp2_with fail
  go_step3
  go_upto_region 1 with (fail)
  go_quiet (fail)
  have H1 := hide (H0.out.later (below_drewN (Below.refl _ _) nq))
  generalize W.drewN nq = W1 at H1 ⊢
  clear H0 c2 lg
  have HA := hide (H1.out.later ((Below.refl _ _).alloc (Nat.le_refl _) (.cells #[.slice none 0 0, .bool false] 53)))
  have cl := HA.out.sb.cells
  have c2 := H1.out.sb.cells.2.2.1
  have lg := blk_lt H1.out.sb
  have OC := hide HA.out.tl.oc
  have BW := hide (Nat.le_trans HA.out.bw HA.out.ch.size)
  clear cl
  go_wp2_with (at_builtin; go_loud (refine wpList_append_conn rfl _ _ rfl B _ ([] : List CE) rfl OC.out W1.heap.size (.slice none 0 0) false rfl rfl (by simp [go_sem]) (by simp [go_sem]) (by simp) BW.out ?_); intro v' w' o' gr mv; obtain ⟨A', c', rfl, ec, en⟩ := own_form o'; have s3 := HA.out.sb.chg (Chg.grown (S := fun k => Value.ownBlock (.slice A 0 c) = some k) gr (fun k e => e)) (fun e => own_ne_blk OC.out HA.out.sb (by decide) e rfl); have c23 := s3.cells.2.2.1; have f23 := s3.cells.2.2.2.2.2.2.2.2.1 2; have HN := hide (HA.out.conn o' gr mv); clear o' gr mv ec en s3)
  generalize w'.setCell ⟨g, 2, none⟩ (.slice A' 1 c') = W2 at HN ⊢
  clear c23 f23 c2 lg OC BW HA H1
  have hDD : (([] : List CE)).length ≤ 4000000000000 := (by simp)
  go_step3
  go_wp2_with fail
  go_loopw [1, 5] (fun bs ii wr => ∃ (pa : Option Addr) (pc : Nat) (P : List Ch) (x : Value) (acc : List UInt8) (n : Int) (ba : Option Addr) (bl : List UInt8) (bc idle : Nat), bs = .slice ba bl.length bc ∧ ii = .int .i64 idle ∧ bl.length ≤ bc ∧ idle < 64 ∧ 0 ≤ n ∧ n + 64 * (bl.length : Int) + (64 - (idle : Int)) ≤ 4611686018427387904 ∧ acc.length + bl.length ≤ 140737488355328 ∧ Hid (Wk B g w M wr pa pc P (.slice A' 1 c') hd last wv lv n (([] : List CE) ++ [(x, acc, false)]) wh lo ba bl ea) ∧ Hid (sendL P acc false bl idle n = R)) (fun bs ii _ => 65 * lenOf bs + (64 - (intOf ii).toNat))
  case atStart => exact ⟨pa, pc, P, _, _, n, ba, bl, bc, 0, by rw [← HQ.out], rfl, by rw [← HQ.out]; exact hbc, by omega, hn.1, by rw [← HQ.out]; omega, by rw [← HQ.out]; simpa using hz, HN, HR⟩
  case round =>
    clear HR HQ hn hbc hz HN
    obtain ⟨pa, pc, P, x, acc, n, ba, bl, bc, idle, rfl, rfl, hbc, hid, hn0, hK, hz, HX, HS⟩ := hrel
    obtain ⟨q, hq⟩ : ∃ q, q = bl.length := ⟨_, rfl⟩
    by_cases hb : bl = []
    · have hq0 : q = 0 := by rw [hq, hb]; rfl
      have FIN : Hid (SnPost B g w M hd last wv lv wh lo ea [] R (.returned (.bool true)) wr) := by
        have := HS.out
        rw [hb, sendL_nil] at this
        rw [← this]
        exact hide ⟨pa, pc, _, ([] : List CE), x, ba, rfl, rfl, by have := HX.out; rw [hb] at this; exact this⟩
      rw [← hq, hq0]
      clear hq hq0 hb HX HS
      go_wp2_with fail
      rw [Exit.noGoto_ret]
      go_returns
      exact FIN.out
    · have q0 : 0 < q := by rw [hq]; exact List.length_pos_iff.2 hb
      have q0' : (0 : Int) < (q : Int) := by omega
      have kW := write_any HX.out hb hbc ⟨hn0, by omega⟩ hz (by omega)
      obtain ⟨k, fl, P2, ht⟩ : ∃ k fl P2, wrF P bl.length = (k, fl, P2) := ⟨_, _, _, rfl⟩
      have kq : k ≤ q := by have := wrF_le P bl.length; rw [ht, ← hq] at this; exact this
      have SM := fun (e : fl = false) (k0 : 0 < k) => sendL_more (p := P) (acc := acc) (f := false) (b := bl) (idle := idle) (n := n) hb (by rw [ht]; exact e) (by rw [ht]; exact k0)
      have SF := fun (e : fl = true) => sendL_fail (p := P) (acc := acc) (f := false) (b := bl) (idle := idle) (n := n) hb (by rw [ht]; exact e)
      have SE := fun (e : fl = false) (k0 : k = 0) (i : 64 ≤ idle + 1) => sendL_end (p := P) (acc := acc) (f := false) (b := bl) (idle := idle) (n := n) hb (by rw [ht]; exact e) (by rw [ht]; exact k0) i
      have SI := fun (e : fl = false) (k0 : k = 0) (i : idle + 1 < 64) => sendL_idle (p := P) (acc := acc) (f := false) (b := bl) (idle := idle) (n := n) hb (by rw [ht]; exact e) (by rw [ht]; exact k0) i
      rw [ht, HS.out] at SM SF SE SI
      simp only at SM SF SE SI
      rw [← hq] at kW hbc hz hK
      have HQ := hide hq
      have HT := hide ht
      have ld : (bl.drop k).length = q - k := by rw [List.length_drop, ← hq]
      have HLD := hide ld
      rw [← hq]
      clear hq ht ld HX HS
      go_wp2_with fail
      refine Calls.mono kW ?_
      rintro e w' ⟨pa', pc', x', rfl, H'⟩
      rw [HT.out] at H'
      simp only at H'
      rw [HT.out]
      simp only
      have HY := hide H'
      obtain ⟨a2, sl, ib, bk⟩ := bytes_off H'.bs bc k (by rw [← HQ.out]; exact kq) (by rw [← HQ.out]; exact hbc)
      rw [← HQ.out] at sl
      have HZ := hide (H'.off ib bk)
      have ef := H'.ef
      have z0 := Nat.lt_of_lt_of_le H'.z H'.ch.size
      clear H' ib bk kW
      cases fl
      · simp only [Bool.false_eq_true, if_false, Bool.or_false] at HZ ⊢
        have w1 : IntKind.i64.wrap ((idle : Int) + 1) = (idle : Int) + 1 := by rw [IntKind.wrap_i64]; omega
        by_cases k0 : 0 < k
        · have k0' : (0 : Int) < (k : Int) := by omega
          have HS2 := hide (SM rfl k0).symm
          clear SM SF SE SI
          go_wp2_with (go_at_call 28; refine Calls.mono (is_nil ea _) ?_; rintro e w2 ⟨rfl, rfl⟩)
          go_roundw
          case rel => exact ⟨pa', pc', P2, x', _, n + 1, a2, bl.drop k, bc - k, 0, by rw [HLD.out], rfl, by rw [HLD.out]; omega, by omega, by omega, by rw [HLD.out]; omega, by rw [HLD.out, List.length_append, List.length_take, ← HQ.out]; omega, HZ, HS2⟩
          case measure => simp [intOf, lenOf]; omega
        · have k1 : k = 0 := by omega
          have k1' : ¬ (0 : Int) < (k : Int) := by omega
          have HX2 : Hid (Wk B g w M w' pa' pc' P2 (.slice A' 1 c') hd last wv lv (n + 1) (([] : List CE) ++ [(x', acc, false)]) wh lo ba bl ea) := by
            have := HY.out
            rw [k1, List.take_zero, List.append_nil] at this
            exact this
          clear HZ HY
          by_cases i0 : idle + 1 < 64
          · have HS2 := hide (SI rfl k1 i0).symm
            have i1 : ((idle : Int) + 1 == 64) = false := by rw [beq_eq_false_iff_ne]; omega
            clear SM SF SE SI
            go_wp2_with (go_at_call 28; refine Calls.mono (is_nil ea _) ?_; rintro e w2 ⟨rfl, rfl⟩)
            go_roundw
            case rel => exact ⟨pa', pc', P2, x', acc, n + 1, ba, bl, bc, idle + 1, by rw [← HQ.out], by go_num, by rw [← HQ.out]; exact hbc, by omega, by omega, by rw [← HQ.out]; omega, by rw [← HQ.out]; exact hz, HX2, HS2⟩
            case measure => simp [intOf, lenOf]; omega
          · have HS2 := hide (SE rfl k1 (by omega))
            have i1 : ((idle : Int) + 1 == 64) = true := by rw [beq_iff_eq]; omega
            clear SM SF SE SI
            obtain ⟨gc, cap, e9, _, _, k9, kf, lgc, _⟩ := HX2.out.tl.last
            have HZ9 : Hid (Wk B g w M w' pa' pc' P2 (.slice (some ⟨gc, 0, none⟩) ((([] : List CE)).length + 1) cap) hd last wv lv (n + 1) (([] : List CE) ++ [(x', acc, false)]) wh lo ba bl ea) := by rw [← e9]; exact HX2
            have HF := hide HZ9.out.fail
            have c9 := HX2.out.sb.cells.2.2.1
            rw [e9] at c9
            obtain ⟨m, hm⟩ : ∃ m, m = (([] : List CE)).length := ⟨_, rfl⟩
            rw [← hm] at k9 c9 HF hDD
            have kf9 := kf (m * 2 + 1)
            have lg := blk_lt HX2.out.sb
            have s1 : IntKind.i64.wrap (m : Int) = m := by rw [IntKind.wrap_i64]; omega
            have s2 : IntKind.i64.wrap ((m : Int) + 1 - 1) = m := by rw [IntKind.wrap_i64]; omega
            have s3 : (0 : Int) ≤ (m : Int) := by omega
            have s4 : (m : Int) < (m : Int) + 1 := by omega
            have FIN : Hid (SnPost B g w M hd last wv lv wh lo ea [] R (.returned (.bool ((q : Int) == 0))) (w'.setCell ⟨gc, m * 2 + 1, none⟩ (.bool true)).drew) := by
              rw [HS2.out, HQ.out, beq_len]
              exact hide ⟨pa', pc', _, ([] : List CE), x', ba, rfl, rfl, HF.out.later ((Below.refl _ _).drew)⟩
            clear hm e9 kf HZ9 HF HS2 HX2
            go_wp2_with (go_at_call 28; refine Calls.mono (is_nil ea _) ?_; rintro e w2 ⟨rfl, rfl⟩)
            go_region
            go_wp2_with fail
            rw [Exit.noGoto_ret]
            go_returns
            exact FIN.out
      · simp only [if_true, Bool.or_true] at HZ ⊢
        have HS2 := hide (SF rfl)
        clear SM SF SE SI
        have FIN : Hid (SnPost B g w M hd last wv lv wh lo ea [] R (.returned (.bool (((q - k : Nat) : Int) == 0))) w') := by
          rw [HS2.out, ← HLD.out, beq_len]
          exact hide ⟨pa', pc', _, ([] : List CE), x', a2, rfl, rfl, HZ.out⟩
        clear HS2
        go_wp2_with (go_at_call 28; refine Calls.mono (is_same ea _) ?_; rintro e w2 ⟨rfl, rfl⟩)
        rw [Exit.noGoto_ret]
        go_returns
        exact FIN.out
set_option maxRecDepth 100000 in
set_option maxHeartbeats 8000000 in
theorem send_failed {B g : Nat} {w W : World} {M : Nat → Prop} {pa : Option Addr} {pc : Nat} {P : List Ch} {cv : Value} {hd : Bool} {last : Int} {wv lv : Value} {n : Int} {D : List CE} {y : Value} {ac : List UInt8} {wh lo : List Int} {ba : Option Addr} {bl : List UInt8} {bc : Nat} {ea : Addr}
    (h : Wk B g w M W pa pc P cv hd last wv lv n (D ++ [(y, ac, true)]) wh lo ba bl ea) (hb : bl ≠ []) (hbc : bl.length ≤ bc) (hn : 0 ≤ n ∧ n + 64 * bl.length + 64 ≤ 4611686018427387904) (hz : bl.length ≤ 140737488355328) (hC : (D ++ [(y, ac, true)]).length ≤ 4000000000000) :
    Calls Tryd.prog 22 #[.pointer (some ⟨g, 0, none⟩), .slice ba bl.length bc] W (SnPost B g w M hd last wv lv wh lo ea ((D ++ [(y, ac, true)]).map fun y => y.2) (sendL P [] false bl 0 n)) := by
  obtain ⟨R, hR⟩ : ∃ R, sendL P [] false bl 0 n = R := ⟨_, rfl⟩
  rw [hR]
  have H0 := hide h
  have HR := hide hR
  have cl := h.sb.cells
  have c2 := cl.2.2.1
  have lg := cl.2.2.2.2.2.2.2.2.2
  obtain ⟨q, hq⟩ : ∃ q, q = bl.length := ⟨_, rfl⟩
  have q0 : 0 < q := by rw [hq]; exact List.length_pos_iff.2 hb
  have q0' : (0 : Int) < (q : Int) := by omega
  have HQ := hide hq
  rw [← hq] at hbc hz hn
  rw [← hq]
  obtain ⟨gc, cap, e9, hcap, k0, k1, kf, lgc, _⟩ := h.tl.last
  rw [e9] at c2
  obtain ⟨m, hm⟩ : ∃ m, m = D.length := ⟨_, rfl⟩
  have hm4 : m ≤ 4000000000000 := by rw [hm]; simp at hC; omega
  rw [← hm] at c2 k1
  have HM := hide hm
  have HE := hide e9
  have s1 : IntKind.i64.wrap (m : Int) = m := by rw [IntKind.wrap_i64]; omega
  have s2 : IntKind.i64.wrap ((m : Int) + 1 - 1) = m := by rw [IntKind.wrap_i64]; omega
  have s3 : (0 : Int) ≤ (m : Int) := by omega
  have s4 : (m : Int) < (m : Int) + 1 := by omega
  have s5 : ((m : Int) + 1 == 0) = false := by rw [beq_eq_false_iff_ne]; omega
  clear h hR hq hb cl k0 kf e9 hm hcap
  simp only at k1
  go_enter Tryd.func22, Tryd.ntmps22
  go_wp2_with fail
  go_step3
  go_upto_region 1 with (fail)
  go_quiet (fail)
  have H1 := hide (H0.out.later (below_drewN (Below.refl _ _) nq))
  generalize W.drewN nq = W1 at H1 ⊢
  clear H0 c2 lg k1 lgc s1 s2 s3 s4 s5
  have HA := hide (H1.out.later ((Below.refl _ _).alloc (Nat.le_refl _) (.cells #[.slice none 0 0, .bool false] 53)))
  have c2 := H1.out.sb.cells.2.2.1
  rw [HE.out, ← HM.out] at c2
  have lg := blk_lt H1.out.sb
  have OC := hide HA.out.tl.oc
  have BW := hide (Nat.le_trans HA.out.bw HA.out.ch.size)
  have HC := hide hC
  have EL : Hid ((D ++ [(y, ac, true)]).length = m + 1) := by rw [List.length_append, List.length_singleton, ← HM.out]; exact hide rfl
  have EO := HE.out
  rw [← HM.out] at EO
  have HEO := hide EO
  clear EO
  go_wp2_with (at_builtin; go_loud (refine wpList_append_conn rfl _ _ rfl B cv (D ++ [(y, ac, true)]) ?_ OC.out W1.heap.size (.slice none 0 0) false rfl rfl (by simp [go_sem]) (by simp [go_sem]) HC.out BW.out ?_); (rw [HEO.out]; rfl); intro v' w' o' gr mv; obtain ⟨A', c', rfl, ec, en⟩ := own_form o'; have s3 := HA.out.sb.chg (Chg.grown (S := fun k => Value.ownBlock cv = some k) gr (fun k e => e)) (fun e => own_ne_blk OC.out HA.out.sb (by decide) e rfl); have c23 := s3.cells.2.2.1; have f23 := s3.cells.2.2.2.2.2.2.2.2.1 2; have HN := hide (HA.out.conn o' gr mv); rw [EL.out] at HN ⊢; clear o' gr mv ec en s3)
  generalize w'.setCell ⟨g, 2, none⟩ (.slice A' (m + 1 + 1) c') = W2 at HN ⊢
  clear c23 f23 c2 lg OC BW HA H1 HEO EL
  have hDD : ((D ++ [(y, ac, true)])).length ≤ 4000000000000 := HC.out
  go_step3
  go_wp2_with fail
  go_loopw [1, 5] (fun bs ii wr => ∃ (pa : Option Addr) (pc : Nat) (P : List Ch) (x : Value) (acc : List UInt8) (n : Int) (ba : Option Addr) (bl : List UInt8) (bc idle : Nat), bs = .slice ba bl.length bc ∧ ii = .int .i64 idle ∧ bl.length ≤ bc ∧ idle < 64 ∧ 0 ≤ n ∧ n + 64 * (bl.length : Int) + (64 - (idle : Int)) ≤ 4611686018427387904 ∧ acc.length + bl.length ≤ 140737488355328 ∧ Hid (Wk B g w M wr pa pc P (.slice A' (m + 1 + 1) c') hd last wv lv n ((D ++ [(y, ac, true)]) ++ [(x, acc, false)]) wh lo ba bl ea) ∧ Hid (sendL P acc false bl idle n = R)) (fun bs ii _ => 65 * lenOf bs + (64 - (intOf ii).toNat))
  case atStart => exact ⟨pa, pc, P, _, _, n, ba, bl, bc, 0, by rw [← HQ.out], rfl, by rw [← HQ.out]; exact hbc, by omega, hn.1, by rw [← HQ.out]; omega, by rw [← HQ.out]; simpa using hz, HN, HR⟩
  case round =>
    clear HR HQ hn hbc hz HN
    obtain ⟨pa, pc, P, x, acc, n, ba, bl, bc, idle, rfl, rfl, hbc, hid, hn0, hK, hz, HX, HS⟩ := hrel
    obtain ⟨q, hq⟩ : ∃ q, q = bl.length := ⟨_, rfl⟩
    by_cases hb : bl = []
    · have hq0 : q = 0 := by rw [hq, hb]; rfl
      have FIN : Hid (SnPost B g w M hd last wv lv wh lo ea ((D ++ [(y, ac, true)]).map fun y => y.2) R (.returned (.bool true)) wr) := by
        have := HS.out
        rw [hb, sendL_nil] at this
        rw [← this]
        exact hide ⟨pa, pc, _, (D ++ [(y, ac, true)]), x, ba, rfl, rfl, by have := HX.out; rw [hb] at this; exact this⟩
      rw [← hq, hq0]
      clear hq hq0 hb HX HS
      go_wp2_with fail
      rw [Exit.noGoto_ret]
      go_returns
      exact FIN.out
    · have q0 : 0 < q := by rw [hq]; exact List.length_pos_iff.2 hb
      have q0' : (0 : Int) < (q : Int) := by omega
      have kW := write_any HX.out hb hbc ⟨hn0, by omega⟩ hz (by omega)
      obtain ⟨k, fl, P2, ht⟩ : ∃ k fl P2, wrF P bl.length = (k, fl, P2) := ⟨_, _, _, rfl⟩
      have kq : k ≤ q := by have := wrF_le P bl.length; rw [ht, ← hq] at this; exact this
      have SM := fun (e : fl = false) (k0 : 0 < k) => sendL_more (p := P) (acc := acc) (f := false) (b := bl) (idle := idle) (n := n) hb (by rw [ht]; exact e) (by rw [ht]; exact k0)
      have SF := fun (e : fl = true) => sendL_fail (p := P) (acc := acc) (f := false) (b := bl) (idle := idle) (n := n) hb (by rw [ht]; exact e)
      have SE := fun (e : fl = false) (k0 : k = 0) (i : 64 ≤ idle + 1) => sendL_end (p := P) (acc := acc) (f := false) (b := bl) (idle := idle) (n := n) hb (by rw [ht]; exact e) (by rw [ht]; exact k0) i
      have SI := fun (e : fl = false) (k0 : k = 0) (i : idle + 1 < 64) => sendL_idle (p := P) (acc := acc) (f := false) (b := bl) (idle := idle) (n := n) hb (by rw [ht]; exact e) (by rw [ht]; exact k0) i
      rw [ht, HS.out] at SM SF SE SI
      simp only at SM SF SE SI
      rw [← hq] at kW hbc hz hK
      have HQ := hide hq
      have HT := hide ht
      have ld : (bl.drop k).length = q - k := by rw [List.length_drop, ← hq]
      have HLD := hide ld
      rw [← hq]
      clear hq ht ld HX HS
      go_wp2_with fail
      refine Calls.mono kW ?_
      rintro e w' ⟨pa', pc', x', rfl, H'⟩
      rw [HT.out] at H'
      simp only at H'
      rw [HT.out]
      simp only
      have HY := hide H'
      obtain ⟨a2, sl, ib, bk⟩ := bytes_off H'.bs bc k (by rw [← HQ.out]; exact kq) (by rw [← HQ.out]; exact hbc)
      rw [← HQ.out] at sl
      have HZ := hide (H'.off ib bk)
      have ef := H'.ef
      have z0 := Nat.lt_of_lt_of_le H'.z H'.ch.size
      clear H' ib bk kW
      cases fl
      · simp only [Bool.false_eq_true, if_false, Bool.or_false] at HZ ⊢
        have w1 : IntKind.i64.wrap ((idle : Int) + 1) = (idle : Int) + 1 := by rw [IntKind.wrap_i64]; omega
        by_cases k0 : 0 < k
        · have k0' : (0 : Int) < (k : Int) := by omega
          have HS2 := hide (SM rfl k0).symm
          clear SM SF SE SI
          go_wp2_with (go_at_call 28; refine Calls.mono (is_nil ea _) ?_; rintro e w2 ⟨rfl, rfl⟩)
          go_roundw
          case rel => exact ⟨pa', pc', P2, x', _, n + 1, a2, bl.drop k, bc - k, 0, by rw [HLD.out], rfl, by rw [HLD.out]; omega, by omega, by omega, by rw [HLD.out]; omega, by rw [HLD.out, List.length_append, List.length_take, ← HQ.out]; omega, HZ, HS2⟩
          case measure => simp [intOf, lenOf]; omega
        · have k1 : k = 0 := by omega
          have k1' : ¬ (0 : Int) < (k : Int) := by omega
          have HX2 : Hid (Wk B g w M w' pa' pc' P2 (.slice A' (m + 1 + 1) c') hd last wv lv (n + 1) ((D ++ [(y, ac, true)]) ++ [(x', acc, false)]) wh lo ba bl ea) := by
            have := HY.out
            rw [k1, List.take_zero, List.append_nil] at this
            exact this
          clear HZ HY
          by_cases i0 : idle + 1 < 64
          · have HS2 := hide (SI rfl k1 i0).symm
            have i1 : ((idle : Int) + 1 == 64) = false := by rw [beq_eq_false_iff_ne]; omega
            clear SM SF SE SI
            go_wp2_with (go_at_call 28; refine Calls.mono (is_nil ea _) ?_; rintro e w2 ⟨rfl, rfl⟩)
            go_roundw
            case rel => exact ⟨pa', pc', P2, x', acc, n + 1, ba, bl, bc, idle + 1, by rw [← HQ.out], by go_num, by rw [← HQ.out]; exact hbc, by omega, by omega, by rw [← HQ.out]; omega, by rw [← HQ.out]; exact hz, HX2, HS2⟩
            case measure => simp [intOf, lenOf]; omega
          · have HS2 := hide (SE rfl k1 (by omega))
            have i1 : ((idle : Int) + 1 == 64) = true := by rw [beq_iff_eq]; omega
            clear SM SF SE SI
            obtain ⟨gc, cap, e9, _, _, k9, kf, lgc, _⟩ := HX2.out.tl.last
            have HZ9 : Hid (Wk B g w M w' pa' pc' P2 (.slice (some ⟨gc, 0, none⟩) (((D ++ [(y, ac, true)])).length + 1) cap) hd last wv lv (n + 1) ((D ++ [(y, ac, true)]) ++ [(x', acc, false)]) wh lo ba bl ea) := by rw [← e9]; exact HX2
            have HF := hide HZ9.out.fail
            have c9 := HX2.out.sb.cells.2.2.1
            rw [e9] at c9
            obtain ⟨m, hm⟩ : ∃ m, m = ((D ++ [(y, ac, true)])).length := ⟨_, rfl⟩
            rw [← hm] at k9 c9 HF hDD
            have kf9 := kf (m * 2 + 1)
            have lg := blk_lt HX2.out.sb
            have s1 : IntKind.i64.wrap (m : Int) = m := by rw [IntKind.wrap_i64]; omega
            have s2 : IntKind.i64.wrap ((m : Int) + 1 - 1) = m := by rw [IntKind.wrap_i64]; omega
            have s3 : (0 : Int) ≤ (m : Int) := by omega
            have s4 : (m : Int) < (m : Int) + 1 := by omega
            have FIN : Hid (SnPost B g w M hd last wv lv wh lo ea ((D ++ [(y, ac, true)]).map fun y => y.2) R (.returned (.bool ((q : Int) == 0))) (w'.setCell ⟨gc, m * 2 + 1, none⟩ (.bool true)).drew) := by
              rw [HS2.out, HQ.out, beq_len]
              exact hide ⟨pa', pc', _, (D ++ [(y, ac, true)]), x', ba, rfl, rfl, HF.out.later ((Below.refl _ _).drew)⟩
            clear hm e9 kf HZ9 HF HS2 HX2
            go_wp2_with (go_at_call 28; refine Calls.mono (is_nil ea _) ?_; rintro e w2 ⟨rfl, rfl⟩)
            go_region
            go_wp2_with fail
            rw [Exit.noGoto_ret]
            go_returns
            exact FIN.out
      · simp only [if_true, Bool.or_true] at HZ ⊢
        have HS2 := hide (SF rfl)
        clear SM SF SE SI
        have FIN : Hid (SnPost B g w M hd last wv lv wh lo ea ((D ++ [(y, ac, true)]).map fun y => y.2) R (.returned (.bool (((q - k : Nat) : Int) == 0))) w') := by
          rw [HS2.out, ← HLD.out, beq_len]
          exact hide ⟨pa', pc', _, (D ++ [(y, ac, true)]), x', a2, rfl, rfl, HZ.out⟩
        clear HS2
        go_wp2_with (go_at_call 28; refine Calls.mono (is_same ea _) ?_; rintro e w2 ⟨rfl, rfl⟩)
        rw [Exit.noGoto_ret]
        go_returns
        exact FIN.out
set_option maxRecDepth 100000 in
set_option maxHeartbeats 8000000 in
theorem send_old {B g : Nat} {w W : World} {M : Nat → Prop} {pa : Option Addr} {pc : Nat} {P : List Ch} {cv : Value} {hd : Bool} {last : Int} {wv lv : Value} {n : Int} {D : List CE} {y : Value} {ac : List UInt8} {wh lo : List Int} {ba : Option Addr} {bl : List UInt8} {bc : Nat} {ea : Addr}
    (h : Wk B g w M W pa pc P cv hd last wv lv n (D ++ [(y, ac, false)]) wh lo ba bl ea) (hb : bl ≠ []) (hbc : bl.length ≤ bc) (hn : 0 ≤ n ∧ n + 64 * bl.length + 64 ≤ 4611686018427387904) (hz : ac.length + bl.length ≤ 140737488355328) (hC : (D ++ [(y, ac, false)]).length ≤ 4000000000000) :
    Calls Tryd.prog 22 #[.pointer (some ⟨g, 0, none⟩), .slice ba bl.length bc] W (SnPost B g w M hd last wv lv wh lo ea (D.map fun y => y.2) (sendL P ac false bl 0 n)) := by
  obtain ⟨R, hR⟩ : ∃ R, sendL P ac false bl 0 n = R := ⟨_, rfl⟩
  rw [hR]
  have H0 := hide h
  have HR := hide hR
  have cl := h.sb.cells
  have c2 := cl.2.2.1
  have lg := cl.2.2.2.2.2.2.2.2.2
  obtain ⟨q, hq⟩ : ∃ q, q = bl.length := ⟨_, rfl⟩
  have q0 : 0 < q := by rw [hq]; exact List.length_pos_iff.2 hb
  have q0' : (0 : Int) < (q : Int) := by omega
  have HQ := hide hq
  rw [← hq] at hbc hz hn
  rw [← hq]
  obtain ⟨gc, cap, e9, hcap, k0, k1, kf, lgc, _⟩ := h.tl.last
  rw [e9] at c2
  obtain ⟨m, hm⟩ : ∃ m, m = D.length := ⟨_, rfl⟩
  have hm4 : m ≤ 4000000000000 := by rw [hm]; simp at hC; omega
  rw [← hm] at c2 k1
  have HM := hide hm
  have HE := hide e9
  have s1 : IntKind.i64.wrap (m : Int) = m := by rw [IntKind.wrap_i64]; omega
  have s2 : IntKind.i64.wrap ((m : Int) + 1 - 1) = m := by rw [IntKind.wrap_i64]; omega
  have s3 : (0 : Int) ≤ (m : Int) := by omega
  have s4 : (m : Int) < (m : Int) + 1 := by omega
  have s5 : ((m : Int) + 1 == 0) = false := by rw [beq_eq_false_iff_ne]; omega
  clear h hR hq hb cl k0 kf e9 hm hcap
  simp only at k1
  go_enter Tryd.func22, Tryd.ntmps22
  go_wp2_with fail
  go_step3
  go_upto_region 1 with (fail)
  go_quiet (fail)
  have H1 := hide (H0.out.later (below_drewN (Below.refl _ _) nq))
  generalize W.drewN nq = W1 at H1 ⊢
  clear H0 c2 lg k1 lgc s1 s2 s3 s4 s5
  have HN := H1
  go_wp2_with fail
  have hDD : (D).length ≤ 4000000000000 := (by simp at hC; omega)
  go_step3
  go_wp2_with fail
  go_loopw [1, 5] (fun bs ii wr => ∃ (pa : Option Addr) (pc : Nat) (P : List Ch) (x : Value) (acc : List UInt8) (n : Int) (ba : Option Addr) (bl : List UInt8) (bc idle : Nat), bs = .slice ba bl.length bc ∧ ii = .int .i64 idle ∧ bl.length ≤ bc ∧ idle < 64 ∧ 0 ≤ n ∧ n + 64 * (bl.length : Int) + (64 - (idle : Int)) ≤ 4611686018427387904 ∧ acc.length + bl.length ≤ 140737488355328 ∧ Hid (Wk B g w M wr pa pc P cv hd last wv lv n (D ++ [(x, acc, false)]) wh lo ba bl ea) ∧ Hid (sendL P acc false bl idle n = R)) (fun bs ii _ => 65 * lenOf bs + (64 - (intOf ii).toNat))
  case atStart => exact ⟨pa, pc, P, _, _, n, ba, bl, bc, 0, by rw [← HQ.out], rfl, by rw [← HQ.out]; exact hbc, by omega, hn.1, by rw [← HQ.out]; omega, by rw [← HQ.out]; exact hz, HN, HR⟩
  case round =>
    clear HR HQ hn hbc hz HN
    obtain ⟨pa, pc, P, x, acc, n, ba, bl, bc, idle, rfl, rfl, hbc, hid, hn0, hK, hz, HX, HS⟩ := hrel
    obtain ⟨q, hq⟩ : ∃ q, q = bl.length := ⟨_, rfl⟩
    by_cases hb : bl = []
    · have hq0 : q = 0 := by rw [hq, hb]; rfl
      have FIN : Hid (SnPost B g w M hd last wv lv wh lo ea (D.map fun y => y.2) R (.returned (.bool true)) wr) := by
        have := HS.out
        rw [hb, sendL_nil] at this
        rw [← this]
        exact hide ⟨pa, pc, _, D, x, ba, rfl, rfl, by have := HX.out; rw [hb] at this; exact this⟩
      rw [← hq, hq0]
      clear hq hq0 hb HX HS
      go_wp2_with fail
      rw [Exit.noGoto_ret]
      go_returns
      exact FIN.out
    · have q0 : 0 < q := by rw [hq]; exact List.length_pos_iff.2 hb
      have q0' : (0 : Int) < (q : Int) := by omega
      have kW := write_any HX.out hb hbc ⟨hn0, by omega⟩ hz (by omega)
      obtain ⟨k, fl, P2, ht⟩ : ∃ k fl P2, wrF P bl.length = (k, fl, P2) := ⟨_, _, _, rfl⟩
      have kq : k ≤ q := by have := wrF_le P bl.length; rw [ht, ← hq] at this; exact this
      have SM := fun (e : fl = false) (k0 : 0 < k) => sendL_more (p := P) (acc := acc) (f := false) (b := bl) (idle := idle) (n := n) hb (by rw [ht]; exact e) (by rw [ht]; exact k0)
      have SF := fun (e : fl = true) => sendL_fail (p := P) (acc := acc) (f := false) (b := bl) (idle := idle) (n := n) hb (by rw [ht]; exact e)
      have SE := fun (e : fl = false) (k0 : k = 0) (i : 64 ≤ idle + 1) => sendL_end (p := P) (acc := acc) (f := false) (b := bl) (idle := idle) (n := n) hb (by rw [ht]; exact e) (by rw [ht]; exact k0) i
      have SI := fun (e : fl = false) (k0 : k = 0) (i : idle + 1 < 64) => sendL_idle (p := P) (acc := acc) (f := false) (b := bl) (idle := idle) (n := n) hb (by rw [ht]; exact e) (by rw [ht]; exact k0) i
      rw [ht, HS.out] at SM SF SE SI
      simp only at SM SF SE SI
      rw [← hq] at kW hbc hz hK
      have HQ := hide hq
      have HT := hide ht
      have ld : (bl.drop k).length = q - k := by rw [List.length_drop, ← hq]
      have HLD := hide ld
      rw [← hq]
      clear hq ht ld HX HS
      go_wp2_with fail
      refine Calls.mono kW ?_
      rintro e w' ⟨pa', pc', x', rfl, H'⟩
      rw [HT.out] at H'
      simp only at H'
      rw [HT.out]
      simp only
      have HY := hide H'
      obtain ⟨a2, sl, ib, bk⟩ := bytes_off H'.bs bc k (by rw [← HQ.out]; exact kq) (by rw [← HQ.out]; exact hbc)
      rw [← HQ.out] at sl
      have HZ := hide (H'.off ib bk)
      have ef := H'.ef
      have z0 := Nat.lt_of_lt_of_le H'.z H'.ch.size
      clear H' ib bk kW
      cases fl
      · simp only [Bool.false_eq_true, if_false, Bool.or_false] at HZ ⊢
        have w1 : IntKind.i64.wrap ((idle : Int) + 1) = (idle : Int) + 1 := by rw [IntKind.wrap_i64]; omega
        by_cases k0 : 0 < k
        · have k0' : (0 : Int) < (k : Int) := by omega
          have HS2 := hide (SM rfl k0).symm
          clear SM SF SE SI
          go_wp2_with (go_at_call 28; refine Calls.mono (is_nil ea _) ?_; rintro e w2 ⟨rfl, rfl⟩)
          go_roundw
          case rel => exact ⟨pa', pc', P2, x', _, n + 1, a2, bl.drop k, bc - k, 0, by rw [HLD.out], rfl, by rw [HLD.out]; omega, by omega, by omega, by rw [HLD.out]; omega, by rw [HLD.out, List.length_append, List.length_take, ← HQ.out]; omega, HZ, HS2⟩
          case measure => simp [intOf, lenOf]; omega
        · have k1 : k = 0 := by omega
          have k1' : ¬ (0 : Int) < (k : Int) := by omega
          have HX2 : Hid (Wk B g w M w' pa' pc' P2 cv hd last wv lv (n + 1) (D ++ [(x', acc, false)]) wh lo ba bl ea) := by
            have := HY.out
            rw [k1, List.take_zero, List.append_nil] at this
            exact this
          clear HZ HY
          by_cases i0 : idle + 1 < 64
          · have HS2 := hide (SI rfl k1 i0).symm
            have i1 : ((idle : Int) + 1 == 64) = false := by rw [beq_eq_false_iff_ne]; omega
            clear SM SF SE SI
            go_wp2_with (go_at_call 28; refine Calls.mono (is_nil ea _) ?_; rintro e w2 ⟨rfl, rfl⟩)
            go_roundw
            case rel => exact ⟨pa', pc', P2, x', acc, n + 1, ba, bl, bc, idle + 1, by rw [← HQ.out], by go_num, by rw [← HQ.out]; exact hbc, by omega, by omega, by rw [← HQ.out]; omega, by rw [← HQ.out]; exact hz, HX2, HS2⟩
            case measure => simp [intOf, lenOf]; omega
          · have HS2 := hide (SE rfl k1 (by omega))
            have i1 : ((idle : Int) + 1 == 64) = true := by rw [beq_iff_eq]; omega
            clear SM SF SE SI
            obtain ⟨gc, cap, e9, _, _, k9, kf, lgc, _⟩ := HX2.out.tl.last
            have HZ9 : Hid (Wk B g w M w' pa' pc' P2 (.slice (some ⟨gc, 0, none⟩) ((D).length + 1) cap) hd last wv lv (n + 1) (D ++ [(x', acc, false)]) wh lo ba bl ea) := by rw [← e9]; exact HX2
            have HF := hide HZ9.out.fail
            have c9 := HX2.out.sb.cells.2.2.1
            rw [e9] at c9
            obtain ⟨m, hm⟩ : ∃ m, m = (D).length := ⟨_, rfl⟩
            rw [← hm] at k9 c9 HF hDD
            have kf9 := kf (m * 2 + 1)
            have lg := blk_lt HX2.out.sb
            have s1 : IntKind.i64.wrap (m : Int) = m := by rw [IntKind.wrap_i64]; omega
            have s2 : IntKind.i64.wrap ((m : Int) + 1 - 1) = m := by rw [IntKind.wrap_i64]; omega
            have s3 : (0 : Int) ≤ (m : Int) := by omega
            have s4 : (m : Int) < (m : Int) + 1 := by omega
            have FIN : Hid (SnPost B g w M hd last wv lv wh lo ea (D.map fun y => y.2) R (.returned (.bool ((q : Int) == 0))) (w'.setCell ⟨gc, m * 2 + 1, none⟩ (.bool true)).drew) := by
              rw [HS2.out, HQ.out, beq_len]
              exact hide ⟨pa', pc', _, D, x', ba, rfl, rfl, HF.out.later ((Below.refl _ _).drew)⟩
            clear hm e9 kf HZ9 HF HS2 HX2
            go_wp2_with (go_at_call 28; refine Calls.mono (is_nil ea _) ?_; rintro e w2 ⟨rfl, rfl⟩)
            go_region
            go_wp2_with fail
            rw [Exit.noGoto_ret]
            go_returns
            exact FIN.out
      · simp only [if_true, Bool.or_true] at HZ ⊢
        have HS2 := hide (SF rfl)
        clear SM SF SE SI
        have FIN : Hid (SnPost B g w M hd last wv lv wh lo ea (D.map fun y => y.2) R (.returned (.bool (((q - k : Nat) : Int) == 0))) w') := by
          rw [HS2.out, ← HLD.out, beq_len]
          exact hide ⟨pa', pc', _, D, x', a2, rfl, rfl, HZ.out⟩
        clear HS2
        go_wp2_with (go_at_call 28; refine Calls.mono (is_same ea _) ?_; rintro e w2 ⟨rfl, rfl⟩)
        rw [Exit.noGoto_ret]
        go_returns
        exact FIN.out
end Go.Proofs.YtbahhlgcebgfeaaDoor
