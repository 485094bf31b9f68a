/- sink: SinkOwn. -/
import Derived.Test.YtbahhlgcebgfeaaDoorSnk33
namespace Go.Proofs.YtbahhlgcebgfeaaDoor
set_option linter.unusedVariables false
set_option linter.unusedSimpArgs false
open Go.RowKit W
theorem news_one (X : World) (v : Value) (e : TypeId) : ∀ j u, [v][j]? = some u → (X.alloc (.cells #[v] e)).cell? ((⟨X.heap.size, 0, none⟩ : Addr).add j) = some u := by
  intro j u hu
  rw [Go.WideShapes.add_plain, Nat.zero_add]
  rcases j with _ | j
  · rw [List.getElem?_cons_zero] at hu
    rw [← hu]
    simp [go_sem]
  · rw [List.getElem?_cons_succ, List.getElem?_nil] at hu; cases hu
theorem one_one (v : Value) (h : v.oneCell' = true) : ∀ u ∈ [v], u.oneCell' = true := by
  intro u hu
  rw [List.mem_singleton] at hu; subst hu; exact h
theorem frozen_of_block {a b : World} {g : Nat} (h : b.heap[g]? = a.heap[g]?) (i : Nat) : b.frozen? ⟨g, i, none⟩ = a.frozen? ⟨g, i, none⟩ := by unfold World.frozen?; rw [h]
set_option maxRecDepth 100000 in
set_option maxHeartbeats 8000000 in
theorem sink_own {w : World} {ea : Addr} (ef : w.cell? ⟨0, 0, none⟩ = some (EV ea)) {a : Option Addr} {c : Nat} {P : List Ch} (hp : IsCh w a P) (hn : a = none → P.length = 0 ∧ c = 0) (sp : P.length ≤ 1048576) {la : Option Addr} {lc : Nat} {L : List (List UInt8)} (hl : IsPieces w la L) (sl : L.length ≤ 1048576) (sb : ∀ b ∈ L, b.length ≤ 1048576) :
    Calls Tryd.prog 9 #[.slice a P.length c, .slice la L.length lc] w fun e w' => e = .returned (.bool true) ∧ Below w.heap.size w w' := by
  have EF := hide ef
  have KR := fun (X : World) (b : Below w.heap.size w X) => rnew_spec b hp c
  have HL := hide hl
  have SB := hide sb
  have SP := hide sp
  have HNN := hide hn
  have IC1 := hide (hp.chg (Chg.of_below (S := fun _ => False) (ba w (.cells #[] 59))) (fun _ _ q => q))
  obtain ⟨np, hnp⟩ : ∃ np, np = P.length := ⟨_, rfl⟩
  rw [← hnp] at KR ⊢
  have NP := hide hnp
  have hsp : np ≤ 1048576 := by rw [hnp]; exact sp
  obtain ⟨nl, hnl⟩ : ∃ nl, nl = L.length := ⟨_, rfl⟩
  rw [← hnl] at sl ⊢
  have NL := hide hnl
  clear ef hp hn sp hl sb hnp hnl
  go_enter Tryd.func9, Tryd.ntmps9
  go_upto_region 2 with (at_builtin; go_loud (refine wpList_fresh_choices rfl _ _ rfl w.heap.size w.heap.size rfl (heap_alloc_new w _) (Nat.le_refl _) a c P (by rw [← NP.out]; rfl) IC1.out HNN.out (by rw [← NP.out]; omega) ?_); go_loud (intro v1 w1 o1 g1); have B1 : Hid (Below w.heap.size w w1) := hide ((ba w _).trans ((Chg.grown (S := fun k => k = w.heap.size) g1 (fun k e => (Option.some.inj e).symm)).below (fun k q => Nat.le_of_eq q.symm) (by simp))); have O1 := hide o1; clear o1 g1 IC1)
  obtain ⟨pa, pc, rfl, icp, icn⟩ := own_choices O1.out
  have KN := hide (new_spec (c := pc) icp icn (by rw [← NP.out]; omega))
  rw [← NP.out] at KN O1 ⊢
  clear icp icn
  go_wp2_with (first
    | (go_at_call 10; go_loud (refine Calls.mono KN.out ?_); go_loud (rintro e w2 ⟨gA, M, rfl, s2, m2, b2⟩); clear KN)
    | (go_at_call 16; go_loud (refine Calls.mono (awake_is ((b2.cell (p := ⟨0, 0, none⟩) (Nat.lt_of_lt_of_le (cellb_lt EF.out) B1.out.size)).trans ((B1.out.cell (p := ⟨0, 0, none⟩) (cellb_lt EF.out)).trans EF.out))) ?_); go_loud (rintro e w3 ⟨rfl, k3⟩))
    | (go_at_call 11; go_loud (refine Calls.mono (KR _ (B1.out.trans ((b2.mono B1.out.size).trans (k3.mono (Nat.le_trans B1.out.size b2.size))))) ?_); go_loud (rintro e w4 ⟨gR, N, rfl, r4, n4, b4⟩); go_loud (have J4 := hide (Jx.make B1.out s2 m2 b2 k3 r4 n4 b4)); have O4 : Hid (w4.ownsRow w.heap.size 59 2 (.slice pa np pc) np (rowH P)) := hide (chg_row O1.out (Chg.of_below (S := fun _ => False) (b2.trans ((k3.mono b2.size).trans (b4.mono (Nat.le_trans b2.size k3.size))))) (fun _ _ q => q)); have ZP : Hid (∀ g cc, pa = some ⟨g, cc, none⟩ → g < w1.heap.size ∧ w.heap.size ≤ g) := hide (fun g cc e => ⟨(own_old O1.out (j := g) (by rw [e]; rfl)).2, (own_old O1.out (j := g) (by rw [e]; rfl)).1⟩); clear s2 m2 b2 k3 r4 n4 b4 KR O1))
  go_loopw [34] (fun iv wr => ∃ (k : Nat) (xs : List Value), k ≤ np ∧ iv = .int .i64 k ∧ Hid (Jx (fun k => k < w1.heap.size) w wr gA gR P (ss0 P) (ss0 P)) ∧ Hid (wr.ownsRow w.heap.size 59 2 (.slice pa np pc) np xs)) (fun iv _ => np - (intOf iv).toNat)
  case atStart => exact ⟨0, _, by omega, rfl, J4, O4⟩
  case round =>
    clear J4 O4
    obtain ⟨k, xs, hk, rfl, J, O⟩ := hrel
    by_cases hlt : k < np
    · have hlt' : (k : Int) < (np : Int) := by omega
      have hk0 : (0 : Int) ≤ (k : Int) := by omega
      obtain ⟨gp, rfl⟩ : ∃ gp, pa = some ⟨gp, 0, none⟩ := by
        rcases O.out.2 with ⟨_, e⟩ | ⟨g, cap, cur, e, _⟩
        · omega
        · injection e with e
          exact ⟨g, e⟩
      have hx := O.out.1
      obtain ⟨cl, fz, lg, _⟩ := row_look O.out
      have x0 := cl (k * 2) _ (List.getElem?_eq_getElem (by omega : k * 2 < xs.length))
      have x1 := cl (k * 2 + 1) _ (List.getElem?_eq_getElem (by omega : k * 2 + 1 < xs.length))
      generalize xs[k * 2]'(by omega) = u0 at x0
      generalize xs[k * 2 + 1]'(by omega) = u1 at x1
      have f0 := fz (k * 2)
      have f1 := fz (k * 2 + 1)
      have O2 := hide (row_put (row_put O.out (k * 2) (by omega) (.int .i64 1)) (k * 2 + 1) (by omega) (.bool true))
      have J2 := hide (J.out.poke ((Chg.set (S := (· = gp)) (a := wr) (i := k * 2) (.int .i64 1) rfl).trans (Chg.set (S := (· = gp)) (i := k * 2 + 1) (.bool true) rfl) (fun _ _ q => q)) (fun q e => by rw [e]; exact ZP.out gp 0 rfl))
      clear cl fz hx
      go_wp2_with fail
      go_roundw
      case rel => exact ⟨k + 1, _, by omega, by go_num, J2, O2⟩
      case measure => simp [intOf]; omega
    · have hlt' : ¬ (k : Int) < (np : Int) := by omega
      have JN := hide J.out.jn
      go_wp2_with fail
      clear hlt' J O
      go_loopw [9] (fun iv wr => ∃ k : Nat, k ≤ nl ∧ iv = .int .i64 k ∧ Hid (Jn w wr gA gR P (plS P L k) (plS P L k))) (fun iv _ => nl - (intOf iv).toNat)
      case atStart => exact ⟨0, by omega, rfl, JN⟩
      case round =>
        clear JN hk hlt
        obtain ⟨k, hk, rfl, J⟩ := hrel
        by_cases hlt : k < nl
        · have hlt' : (k : Int) < (nl : Int) := by omega
          have hkl : k < L.length := by rw [← NL.out]; exact hlt
          obtain ⟨gl, ol, ab, cb, rfl, ltl, x1, x2, x3, x4⟩ := pieces_len HL.out k hkl
          have hbl : (L.getD k []).length ≤ 1048576 := by
            rw [show L.getD k [] = L[k] by simp [hkl]]
            exact SB.out _ (List.getElem_mem hkl)
          have SM := hide (pl_sm P L SB.out k (L.getD k []).length (by omega) hbl)
          have SM0 : Hid (SmS (plS P L (k + 1)) 0) := hide (pl_sm P L SB.out (k + 1) 0 (by omega) (by omega))
          have BD1 := hide (pl_bd P L SB.out (k + 1))
          have FE := pl_e P L k
          have HS : Hid (frS (plS P L k) k (L.getD k []) = plS P L (k + 1)) := hide rfl
          obtain ⟨bs, hbs⟩ : ∃ bs, bs = L.getD k [] := ⟨_, rfl⟩
          rw [← hbs] at x1 x2 x3 x4 hbl SM HS
          have HB := hide x4
          have CB := hide x2
          have HBN := hide x3
          obtain ⟨q, hq⟩ : ∃ q, q = bs.length := ⟨_, rfl⟩
          rw [← hq] at x1 hbl
          have HQ := hide hq
          have X1 := hide x1
          have LTL := hide ltl
          have CL : Hid (∀ Y, Below w.heap.size w Y → Y.cell? ⟨gl, ol + k, none⟩ = some (.slice ab q cb) ∧ gl < Y.heap.size) := fun Y b => ⟨(b.cell (p := ⟨gl, ol + k, none⟩) LTL.out).trans X1.out, Nat.lt_of_lt_of_le LTL.out b.size⟩
          clear x1 x2 x3 x4 hbs hq hkl ltl
          obtain ⟨y1, y2⟩ := CL.out _ J.out.be
          have IB := hide ((HB.out.later J.out.be).later (ba wr (.cells #[] 5)))
          go_upto_region 15 with (at_builtin; go_loud (refine wpList_fresh_bytes rfl _ _ rfl wr.heap.size wr.heap.size rfl (heap_alloc_new wr _) (Nat.le_refl _) ab cb bs (by rw [← HQ.out]; rfl) IB.out HBN.out (by rw [← HQ.out]; omega) ?_); go_loud (intro v5 w5 o5 g5); have B5 : Hid (Below wr.heap.size wr w5) := hide ((ba wr _).trans ((Chg.grown (S := fun k => k = wr.heap.size) g5 (fun k e => (Option.some.inj e).symm)).below (fun k q => Nat.le_of_eq q.symm) (by simp))); have O5 := hide o5; clear o5 g5 IB)
          obtain ⟨na, ncap, ev, hcap, _⟩ := own_form O5.out
          obtain ⟨nb2, nc2, ev2, ib5⟩ := own_bytes O5.out
          have hh : na = nb2 := by
            rw [ev] at ev2
            injection ev2
          subst hh
          have NB : Hid (bs ≠ [] → ∀ x, na = some x → wr.heap.size ≤ x.block) := hide (fun _ x e => (own_old O5.out (j := x.block) (by rw [ev, e]; rfl)).1)
          have NZ : Hid (∀ g cc, na = some ⟨g, cc, none⟩ → wr.heap.size ≤ g ∧ g < w5.heap.size) := hide (fun g cc e => own_old O5.out (j := g) (by rw [ev, e]; rfl))
          have KF := hide (J.out.frame_new EF.out B5.out SM.out ib5 NB.out hcap (k : Int))
          rw [FE] at KF
          rw [← HQ.out] at ev KF O5
          subst ev
          clear ev2 hcap ib5 y1 y2
          go_upto_region 17 with (go_at_call 12; go_loud (refine Calls.mono KF.out ?_); go_loud (rintro e w6 ⟨rfl, J6, bk6, sz6⟩); have J6 := hide J6; have O6 : Hid (w6.ownsRow wr.heap.size 5 1 (.slice na q ncap) q (rowB bs)) := hide (by obtain ⟨h1, h2⟩ := O5.out; refine ⟨h1, h2.imp id ?_⟩; rintro ⟨g, cap, cur, e, hb, hh, r⟩; exact ⟨g, cap, cur, e, hb, (bk6 g hb (blk_lt hh)).trans hh, r⟩); clear KF bk6 sz6)
          rw [HS.out] at J6
          go_wp2_with fail
          go_loopw [61] (fun iv w7 => ∃ (t : Nat) (xs : List Value), t ≤ q ∧ iv = .int .i64 t ∧ Hid (Jx (fun k => wr.heap.size ≤ k ∧ k < w5.heap.size) w w7 gA gR P (plS P L (k + 1)) (plS P L k)) ∧ Hid (w7.ownsRow wr.heap.size 5 1 (.slice na q ncap) q xs)) (fun iv _ => q - (intOf iv).toNat)
          case atStart => exact ⟨0, _, by omega, rfl, J6, O6⟩
          case round =>
            clear J6 O6
            obtain ⟨t, xs, ht, rfl, J7, O7⟩ := hrel
            by_cases htl : t < q
            · have htl' : (t : Int) < (q : Int) := by omega
              have ht0 : (0 : Int) ≤ (t : Int) := by omega
              obtain ⟨gb, rfl⟩ : ∃ gb, na = some ⟨gb, 0, none⟩ := by
                rcases O7.out.2 with ⟨_, e⟩ | ⟨g, cap, cur, e, _⟩
                · omega
                · injection e with e
                  exact ⟨g, e⟩
              have hx := O7.out.1
              obtain ⟨cl, fz, lg, _⟩ := row_look O7.out
              have x0 := cl t _ (List.getElem?_eq_getElem (by omega : t < xs.length))
              generalize xs[t]'(by omega) = u0 at x0
              have f0 := fz t
              have O8 := hide (row_put O7.out t (by omega) (.int .u8 35))
              have J8 := hide (J7.out.poke (Chg.set (S := (· = gb)) (i := t) (.int .u8 35) rfl) (fun q e => by rw [e]; exact ⟨NZ.out gb 0 rfl, by have := (NZ.out gb 0 rfl).1; have := J.out.be.size; omega⟩))
              clear cl fz hx
              go_wp2_with fail
              go_roundw
              case rel => exact ⟨t + 1, _, by omega, by go_num, J8, O8⟩
              case measure => simp [intOf]; omega
            · have htl' : ¬ (t : Int) < (q : Int) := by omega
              have JN := hide J7.out.jn
              obtain ⟨y1, y2⟩ := CL.out _ JN.out.be
              have KB := hide (JN.out.rframe EF.out SM.out SP.out HB.out CB.out (k : Int))
              rw [← HQ.out, FE] at KB
              go_upto_region 22 with (fail)
              clear htl' J7 O7 htl ht
              go_upto_region 23 with (go_at_call 13; go_loud (refine Calls.mono KB.out ?_); go_loud (rintro e w8 ⟨rfl, J8⟩); have J8 := hide J8; clear KB y1 y2)
              rw [HS.out] at J8
              go_upto_region 24 with (go_at_call 15; go_loud (refine Calls.mono (J8.out.report SM0.out) ?_); go_loud (rintro e w9 ⟨a9, c9, aw9, cw9, al9, cl9, C9, rfl, hC9, T9, b9⟩); have HC9 := hide hC9; have T9 := hide T9; have B9 := hide b9; clear hC9 b9)
              obtain ⟨nw, hnw⟩ : ∃ nw, nw = (plS P L (k + 1)).wh.length := ⟨_, rfl⟩
              obtain ⟨no, hno⟩ : ∃ no, no = (plS P L (k + 1)).lo.length := ⟨_, rfl⟩
              obtain ⟨nc, hnc⟩ : ∃ nc, nc = C9.length := ⟨_, rfl⟩
              have hnc4 : nc ≤ 1048576 := by
                have h1 := BD1.out.c
                rw [← HC9.out, List.length_map] at h1
                omega
              have hnw4 : nw ≤ 1048576 := by have := BD1.out.w; omega
              have hno4 : no ≤ 1048576 := by have := BD1.out.o; omega
              have hLB : Hid (∀ x ∈ C9, x.2.1.length ≤ 1099511627776) := hide (fun x hx => by
                have := BD1.out.b x.2 (by rw [← HC9.out]; exact List.mem_map.2 ⟨x, hx, rfl⟩)
                omega)
              rw [← hnw, ← hno, ← hnc] at T9 ⊢
              have NW := hide hnw
              have NO := hide hno
              have NC := hide hnc
              clear hnw hno hnc
              generalize (plS P L (k + 1)).n = nn
              have DJ : Hid (Dj w8 (w9.alloc (.cells #[.slice a9 nc c9, .slice aw9 nw cw9, .slice al9 no cl9, .int .i64 nn] 38)) w9.heap.size (.slice a9 nc c9) (.slice aw9 nw cw9) (.slice al9 no cl9) C9 (plS P L (k + 1)).wh (plS P L (k + 1)).lo nn) := hide ⟨heap_alloc_new w9 _, T9.out.later (ba w9 _), B9.out.trans ((ba w9 _).mono B9.out.size), B9.out.size⟩
              obtain ⟨gd, hgd⟩ : ∃ gd, gd = w9.heap.size := ⟨_, rfl⟩
              rw [← hgd] at DJ ⊢
              generalize w9.alloc (.cells #[.slice a9 nc c9, .slice aw9 nw cw9, .slice al9 no cl9, .int .i64 nn] 38) = wA at DJ ⊢
              clear T9 B9 hgd
              obtain ⟨d0, d1, d2, d3⟩ := sc4 DJ.out.bx
              have lD := blk_lt DJ.out.bx
              go_wp2_with fail
              clear d0 d1 d2 d3 lD
              go_loopw [80] (fun iv wr2 => ∃ (j : Nat) (C : List CE), j ≤ nc ∧ iv = .int .i64 j ∧ Hid (C.length = nc) ∧ Hid (Dj w8 wr2 gd (.slice a9 nc c9) (.slice aw9 nw cw9) (.slice al9 no cl9) C (plS P L (k + 1)).wh (plS P L (k + 1)).lo nn) ∧ Hid (∀ i (h : i < C.length), j ≤ i → C[i].2.1.length ≤ 1099511627776)) (fun iv _ => nc - (intOf iv).toNat)
              case atStart => exact ⟨0, C9, by omega, rfl, hide NC.out.symm, DJ, hide (fun i h _ => hLB.out _ (List.getElem_mem h))⟩
              case round =>
                clear DJ
                obtain ⟨j, C, hj, rfl, LC, DJ, LB⟩ := hrel
                by_cases hjl : j < nc
                · have hjl' : (j : Int) < (nc : Int) := by omega
                  have hj0 : (0 : Int) ≤ (j : Int) := by omega
                  have hjC : j < C.length := by rw [LC.out]; exact hjl
                  obtain ⟨D, x, E, hCC, hD⟩ : ∃ D x E, C = D ++ x :: E ∧ D.length = j := ⟨C.take j, C[j], C.drop (j + 1), by rw [List.getElem_cons_drop hjC, List.take_append_drop], by rw [List.length_take]; omega⟩
                  have LX : Hid (x.2.1.length ≤ 1099511627776) := hide (by
                    have := LB.out j hjC (Nat.le_refl _)
                    have e : C[j] = x := by
                      have h1 : C[j]? = some x := by rw [hCC, ← hD, List.getElem?_append_right (Nat.le_refl _), Nat.sub_self]; rfl
                      rw [List.getElem?_eq_getElem hjC] at h1
                      exact Option.some.inj h1
                    rw [e] at this
                    exact this)
                  have LB2 : Hid (∀ i (h : i < C.length), j + 1 ≤ i → C[i].2.1.length ≤ 1099511627776) := hide (fun i h l => LB.out i h (by omega))
                  have HCC := hide hCC
                  have HD := hide hD
                  rw [hCC] at DJ
                  clear LB hCC hD hjC
                  obtain ⟨gc, cap, e9, k0, kf, lgc⟩ := DJ.out.conn
                  obtain ⟨xa, xc, ex, hxc, _⟩ := own_form (DJ.out.tl.ob x (List.mem_append_right _ List.mem_cons_self))
                  injection e9 with e9 h91 h92
                  clear h91 h92
                  subst e9
                  obtain ⟨lb, hlb⟩ : ∃ lb, lb = x.2.1.length := ⟨_, rfl⟩
                  rw [HD.out, ex, ← hlb] at k0
                  rw [← hlb] at ex
                  have HEX := hide ex
                  have HLBB := hide hlb
                  have hlb4 : lb ≤ 1099511627776 := by rw [hlb]; exact LX.out
                  obtain ⟨d0, d1, d2, d3⟩ := sc4 DJ.out.bx
                  have lD := blk_lt DJ.out.bx
                  clear ex hlb
                  go_wp2_with fail
                  clear d0 d1 d2 d3 lD k0 kf lgc
                  go_loopw [90] (fun tv wr3 => ∃ (t : Nat) (bb : List UInt8), t ≤ lb ∧ tv = .int .i64 t ∧ Hid (bb.length = lb) ∧ Hid (Dj w8 wr3 gd (.slice (some ⟨gc, 0, none⟩) nc c9) (.slice aw9 nw cw9) (.slice al9 no cl9) (D ++ (x.1, bb, x.2.2) :: E) (plS P L (k + 1)).wh (plS P L (k + 1)).lo nn)) (fun tv _ => lb - (intOf tv).toNat)
                  case atStart => exact ⟨0, x.2.1, by omega, rfl, hide HLBB.out.symm, DJ⟩
                  case round =>
                    clear DJ
                    obtain ⟨t, bb, ht, rfl, LBB, DJ⟩ := hrel
                    obtain ⟨gc2, cap2, e9, k0, kf, lgc⟩ := DJ.out.conn
                    injection e9 with e9 h91 h92
                    clear h91 h92
                    injection e9 with e9
                    injection e9 with e9
                    subst e9
                    rw [HD.out] at k0
                    simp only at k0
                    rw [HEX.out] at k0
                    obtain ⟨d0, d1, d2, d3⟩ := sc4 DJ.out.bx
                    have lD := blk_lt DJ.out.bx
                    by_cases htl : t < lb
                    · have htl' : (t : Int) < (lb : Int) := by omega
                      have ht0 : (0 : Int) ≤ (t : Int) := by omega
                      obtain ⟨gx, xcap, ex2, xcells, xf, lgx⟩ := DJ.out.bytes (by simp only; rw [LBB.out]; omega)
                      have x0 := xcells t (by simp only; rw [LBB.out]; exact htl)
                      have f0 := xf t
                      simp only at ex2 x0
                      rw [HEX.out] at ex2
                      injection ex2 with ex2 h91 h92
                      clear h91 h92
                      subst ex2
                      generalize (bb[t]'_).toNat = ub at x0
                      have DJ2 := hide (DJ.out.byte (gx := gx) (m := lb) (c := xc) HEX.out t (by simp only; rw [LBB.out]; exact htl) 63)
                      have LB3 : Hid ((bb.set t 63).length = lb) := hide (by rw [List.length_set]; exact LBB.out)
                      clear xcells xf
                      go_wp2_with fail
                      go_roundw
                      case rel => exact ⟨t + 1, bb.set t 63, by omega, by go_num, LB3, DJ2⟩
                      case measure => simp [intOf]; omega
                    · have htl' : ¬ (t : Int) < (lb : Int) := by omega
                      go_wp2_with fail
                      clear d0 d1 d2 d3 lD k0 kf lgc htl' htl
                      go_loopw [15] (fun tv wr4 => ∃ (t : Nat) (v : Value) (bb : List UInt8), t ≤ 9 ∧ tv = .int .i64 t ∧ Hid (bb.length = lb + t) ∧ Hid (Dj w8 wr4 gd (.slice (some ⟨gc, 0, none⟩) nc c9) (.slice aw9 nw cw9) (.slice al9 no cl9) (D ++ (v, bb, x.2.2) :: E) (plS P L (k + 1)).wh (plS P L (k + 1)).lo nn)) (fun tv _ => 9 - (intOf tv).toNat)
                      case atStart => exact ⟨0, _, bb, by omega, rfl, LBB, DJ⟩
                      case round =>
                        clear DJ LBB ht
                        obtain ⟨t, v, bb, ht, rfl, LBB, DJ⟩ := hrel
                        by_cases htl : t < 9
                        · have htl' : (t : Int) < 9 := by omega
                          obtain ⟨gc3, cap3, e9, k0, kf, lgc⟩ := DJ.out.conn
                          injection e9 with e9 h91 h92
                          clear h91 h92
                          injection e9 with e9
                          injection e9 with e9
                          subst e9
                          rw [HD.out] at k0
                          simp only at k0
                          have OB := DJ.out.tl.ob _ (List.mem_append_right _ List.mem_cons_self)
                          simp only at OB
                          rw [LBB.out] at OB
                          obtain ⟨va, vc, ev, hvc, _⟩ := own_form OB
                          rw [ev] at k0
                          have EV := hide ev
                          have kf0 := kf (j * 2)
                          obtain ⟨d0, d1, d2, d3⟩ := sc4 DJ.out.bx
                          have lD := blk_lt DJ.out.bx
                          obtain ⟨i0, hi0, hz0, hz1, hz2⟩ := info_parts info_u8
                          have I0 := hide hi0
                          have Z0 := hide hz0
                          have Z1 := hide hz1
                          have Z2 := hide hz2
                          have OBH := hide OB
                          have BW0 := hide DJ.out.be.size
                          have NXC : Hid (∀ k, v.ownBlock = some k → k ≠ gc) := hide (fun k e q => own_ne (DJ.out.tl.ob _ (List.mem_append_right _ List.mem_cons_self)) DJ.out.tl.oc (by decide) e (by rw [q]; rfl))
                          have NXD : Hid (∀ k, v.ownBlock = some k → k ≠ gd) := hide (fun k e => DJ.out.ne (.inr (.inl ⟨_, List.mem_append_right _ List.mem_cons_self, e⟩)))
                          clear hi0 hz0 hz1 hz2 OB kf ev
                          go_upto_region 35 with (fail)
                          have GB : Hid (∀ w5, (wr.drew.alloc (.cells #[.int .u8 33] 5)).grownBy w5 v.ownBlock → w5.heap[gd]? = wr.heap[gd]? ∧ w5.heap[gc]? = wr.heap[gc]? ∧ gd < w5.heap.size ∧ gc < w5.heap.size) := hide (fun w5 gr => by
                            have c := Chg.grown (S := fun k => v.ownBlock = some k) gr (fun k e => e)
                            have sz : wr.heap.size ≤ (wr.drew.alloc (.cells #[.int .u8 33] 5)).heap.size := (ba wr.drew _).size
                            have lg2 := Nat.lt_of_lt_of_le lD sz
                            have lg3 := Nat.lt_of_lt_of_le lgc sz
                            exact ⟨(c.block gd lg2 (fun q => NXD.out _ q rfl)).trans ((ba wr.drew _).block gd lD), (c.block gc lg3 (fun q => NXC.out _ q rfl)).trans ((ba wr.drew _).block gc lgc), Nat.lt_of_lt_of_le lg2 c.size, Nat.lt_of_lt_of_le lg3 c.size⟩)
                          have OBN := hide (chg_row OBH.out (Chg.of_below (S := fun _ => False) (show Below wr.heap.size wr (wr.drew.alloc (.cells #[.int .u8 33] 5)) from (Below.refl _ _).drew.alloc (Nat.le_refl _) _)) (fun _ _ q => q))
                          have DJN := hide (DJ.out.later (show Below wr.heap.size wr (wr.drew.alloc (.cells #[.int .u8 33] 5)) from (Below.refl _ _).drew.alloc (Nat.le_refl _) _))
                          have s3 : (0 : Int) ≤ (j : Int) := by omega
                          go_region_law (refine step_append_at rfl _ _ 30 rfl w8.heap.size 5 i0 (.int .u8 0) 1 1 Tryd.underlying30 I0.out Z0.out Z1.out Z2.out rfl (by decide) v (lb + t) (rowB bb) ?_ OBN.out ⟨wr.heap.size, 0, none⟩ 1 1 [.int .u8 33] ?_ rfl (news_one wr.drew _ _) (one_one _ rfl) ?_ ?_ ?_ ?_; (rw [EV.out]; rfl); (rfl); (unfold maxLen; omega); (omega); (exact Nat.le_trans BW0.out (ba wr.drew _).size); (intro v' w5 o' gr mv; obtain ⟨A', c', rfl, ec, en⟩ := own_form o'; clear ec en; obtain ⟨q1, q2, q3, q4⟩ := GB.out w5 gr; have e1 := (World.cell?_of_block q1).trans d0; have e2 := (World.cell?_of_block q2).trans k0; have e3 := (frozen_of_block q2 (j * 2)).trans kf0; have O' := hide o'; have G' := hide gr; have M' := hide mv; clear o' gr mv q1 q2))
                          all_goals
                            go_wp2_with fail
                            have l1 : (bb ++ [33]).length = lb + t + 1 := by rw [List.length_append, LBB.out]; rfl
                            have O2 : w5.ownsRow w8.heap.size 5 1 (.slice A' (lb + t + 1) c') (bb ++ [33]).length (rowB (bb ++ [33])) := by rw [rowB_app, l1]; exact O'.out
                            have H4 := hide (DJN.out.grow O2 G'.out M'.out)
                            rw [HD.out] at H4
                            go_roundw
                            case rel => exact ⟨t + 1, _, bb ++ [33], by omega, by go_num, hide (by rw [l1]; omega), H4⟩
                            case measure => simp [intOf]; omega
                        · have htl' : ¬ (t : Int) < 9 := by omega
                          have HL5 : Hid ((D ++ (v, bb, x.2.2) :: E).length = nc) := hide (by rw [← LC.out, HCC.out]; simp)
                          have LB5 : Hid (∀ i (h : i < (D ++ (v, bb, x.2.2) :: E).length), j + 1 ≤ i → (D ++ (v, bb, x.2.2) :: E)[i].2.1.length ≤ 1099511627776) := hide (fun i h l => by
                            have hi2 : i < C.length := by rw [HCC.out]; simpa using h
                            have h1 := LB2.out i hi2 l
                            have e : C[i]? = (D ++ (v, bb, x.2.2) :: E)[i]? := by
                              rw [HCC.out, List.getElem?_append_right (by rw [HD.out]; omega), List.getElem?_append_right (by rw [HD.out]; omega), HD.out]
                              obtain ⟨m, hm⟩ : ∃ m, i - j = m + 1 := ⟨i - j - 1, by omega⟩
                              rw [hm]; rfl
                            rw [List.getElem?_eq_getElem hi2, List.getElem?_eq_getElem h] at e
                            rw [← Option.some.inj e]; exact h1)
                          go_wp2_with fail
                          go_roundw
                          case rel => exact ⟨j + 1, _, by omega, by go_num, HL5, DJ, LB5⟩
                          case measure => simp [intOf]; omega
                · have hjl' : ¬ (j : Int) < (nc : Int) := by omega
                  obtain ⟨d0, d1, d2, d3⟩ := sc4 DJ.out.bx
                  have lD := blk_lt DJ.out.bx
                  go_wp2_with fail
                  clear d0 d1 d2 d3 lD hjl'
                  go_loopw [123] (fun iv w5 => ∃ (t : Nat) (wh : List Int), t ≤ nw ∧ iv = .int .i64 t ∧ Hid (wh.length = nw) ∧ Hid (Dj w8 w5 gd (.slice a9 nc c9) (.slice aw9 nw cw9) (.slice al9 no cl9) C wh (plS P L (k + 1)).lo nn)) (fun iv _ => nw - (intOf iv).toNat)
                  case atStart => exact ⟨0, _, by omega, rfl, hide NW.out.symm, DJ⟩
                  case round =>
                    clear DJ LB hj hjl
                    obtain ⟨t, wh, ht, rfl, LW, DJ⟩ := hrel
                    obtain ⟨d0, d1, d2, d3⟩ := sc4 DJ.out.bx
                    have lD := blk_lt DJ.out.bx
                    by_cases htl : t < nw
                    · have htl' : (t : Int) < (nw : Int) := by omega
                      have ht0 : (0 : Int) ≤ (t : Int) := by omega
                      obtain ⟨gx, xc, ex, xcell, xf, lgx⟩ := row_at DJ.out.tl.ow (by rw [LW.out]; omega)
                      injection ex with ex h91 h92
                      clear h91 h92
                      subst ex
                      have x0 := xcell t (by rw [LW.out]; exact htl)
                      have f0 := xf t
                      generalize wh[t]'_ = u0 at x0
                      have DJ2 := hide (DJ.out.wset t (by rw [LW.out]; exact htl) (-1))
                      have LW2 : Hid ((wh.set t (-1)).length = nw) := hide (by rw [List.length_set]; exact LW.out)
                      clear xcell xf
                      go_wp2_with fail
                      go_roundw
                      case rel => exact ⟨t + 1, _, by omega, by go_num, LW2, DJ2⟩
                      case measure => simp [intOf]; omega
                    · have htl' : ¬ (t : Int) < (nw : Int) := by omega
                      go_wp2_with fail
                      clear d0 d1 d2 d3 lD htl'
                      go_loopw [134] (fun iv w5 => ∃ (t : Nat) (lo : List Int), t ≤ no ∧ iv = .int .i64 t ∧ Hid (lo.length = no) ∧ Hid (Dj w8 w5 gd (.slice a9 nc c9) (.slice aw9 nw cw9) (.slice al9 no cl9) C wh lo nn)) (fun iv _ => no - (intOf iv).toNat)
                      case atStart => exact ⟨0, _, by omega, rfl, hide NO.out.symm, DJ⟩
                      case round =>
                        clear DJ ht htl
                        obtain ⟨t, lo, ht, rfl, LO, DJ⟩ := hrel
                        obtain ⟨d0, d1, d2, d3⟩ := sc4 DJ.out.bx
                        have lD := blk_lt DJ.out.bx
                        by_cases htl : t < no
                        · have htl' : (t : Int) < (no : Int) := by omega
                          have ht0 : (0 : Int) ≤ (t : Int) := by omega
                          obtain ⟨gx, xc, ex, xcell, xf, lgx⟩ := row_at DJ.out.tl.ol (by rw [LO.out]; omega)
                          injection ex with ex h91 h92
                          clear h91 h92
                          subst ex
                          have x0 := xcell t (by rw [LO.out]; exact htl)
                          have f0 := xf t
                          generalize lo[t]'_ = u0 at x0
                          have DJ2 := hide (DJ.out.lset t (by rw [LO.out]; exact htl) (-1))
                          have LO2 : Hid ((lo.set t (-1)).length = no) := hide (by rw [List.length_set]; exact LO.out)
                          clear xcell xf
                          go_wp2_with fail
                          go_roundw
                          case rel => exact ⟨t + 1, _, by omega, by go_num, LO2, DJ2⟩
                          case measure => simp [intOf]; omega
                        · have htl' : ¬ (t : Int) < (no : Int) := by omega
                          go_wp2_with fail
                          clear d0 d1 d2 d3 lD htl'
                          go_loopw [18] (fun iv w5 => ∃ (t : Nat) (wv lv : Value) (wh lo : List Int), t ≤ 9 ∧ iv = .int .i64 t ∧ Hid (wh.length = nw + t) ∧ Hid (lo.length = no + t) ∧ Hid (Dj w8 w5 gd (.slice a9 nc c9) wv lv C wh lo nn)) (fun iv _ => 9 - (intOf iv).toNat)
                          case atStart => exact ⟨0, _, _, wh, lo, by omega, rfl, LW, LO, DJ⟩
                          case round =>
                            clear DJ ht htl LW LO
                            obtain ⟨t, wv, lv, wh, lo, ht, rfl, LW, LO, DJ⟩ := hrel
                            by_cases htl : t < 9
                            · have htl' : (t : Int) < 9 := by omega
                              obtain ⟨d0, d1, d2, d3⟩ := sc4 DJ.out.bx
                              have lD := blk_lt DJ.out.bx
                              obtain ⟨wa, wc2, ev, _, _⟩ := own_form DJ.out.tl.ow
                              rw [LW.out] at ev
                              have EV1 := hide ev
                              rw [ev] at d1
                              have DJA := hide (DJ.out.later (ba wr (.cells #[.int .i64 (-2)] 2)))
                              have OC := hide DJA.out.tl.ow
                              have BW := hide DJA.out.be.size
                              have HLW : Hid (wh.length ≤ 4000000000000) := hide (by rw [LW.out]; omega)
                              clear ev
                              go_upto_region 51 with (at_builtin; go_loud (refine wpList_append_id rfl _ _ rfl w8.heap.size wv wh ?_ OC.out wr.heap.size (-2) rfl (by simp [go_sem]) HLW.out BW.out ?_); (go_loud (rw [EV1.out]; rfl)); intro v' w' o' gr mv; go_loud (rw [LW.out] at o'); go_loud (obtain ⟨A', c', rfl, ec, en⟩ := own_form o'); go_loud (rw [← LW.out] at o' mv); go_loud (have bx2 := ((Chg.grown (S := fun k => wv.ownBlock = some k) gr (fun k e => e)).block gd (blk_lt DJA.out.bx) (fun q => DJA.out.ne (.inr (.inr (.inl q))) rfl)).trans DJA.out.bx); obtain ⟨⟨e0, e1, e2, e3⟩, _, f1, f2, _⟩ := scf4 bx2; have l2 := blk_lt bx2; go_loud (have HN := hide (DJA.out.wadd o' gr mv)); go_loud (rw [LW.out] at HN); go_loud (clear o' gr mv ec en bx2))
                              generalize w'.setCell ⟨gd, 1, none⟩ (.slice A' (nw + t + 1) c') = WC at HN ⊢
                              clear e0 e1 e2 e3 f1 f2 l2 d0 d1 d2 d3 lD DJA OC BW HLW DJ
                              obtain ⟨d0, d1, d2, d3⟩ := sc4 HN.out.bx
                              have lD := blk_lt HN.out.bx
                              obtain ⟨la2, lc2, ev, _, _⟩ := own_form HN.out.tl.ol
                              rw [LO.out] at ev
                              have EV2 := hide ev
                              rw [ev] at d2
                              have DJA := hide (HN.out.later (ba WC (.cells #[.int .i64 (-2)] 2)))
                              have OC := hide DJA.out.tl.ol
                              have BW := hide DJA.out.be.size
                              have HLO : Hid (lo.length ≤ 4000000000000) := hide (by rw [LO.out]; omega)
                              clear ev
                              go_wp2_with (at_builtin; go_loud (refine wpList_append_id rfl _ _ rfl w8.heap.size lv lo ?_ OC.out WC.heap.size (-2) rfl (by simp [go_sem]) HLO.out BW.out ?_); (go_loud (rw [EV2.out]; rfl)); intro v' w' o' gr mv; go_loud (rw [LO.out] at o'); go_loud (obtain ⟨A2, c2, rfl, ec, en⟩ := own_form o'); go_loud (rw [← LO.out] at o' mv); go_loud (have bx2 := ((Chg.grown (S := fun k => lv.ownBlock = some k) gr (fun k e => e)).block gd (blk_lt DJA.out.bx) (fun q => DJA.out.ne (.inr (.inr (.inr q))) rfl)).trans DJA.out.bx); obtain ⟨⟨e0, e1, e2, e3⟩, _, f1, f2, _⟩ := scf4 bx2; have l2 := blk_lt bx2; go_loud (have HN2 := hide (DJA.out.ladd o' gr mv)); go_loud (rw [LO.out] at HN2); go_loud (clear o' gr mv ec en bx2))
                              go_roundw
                              case rel => exact ⟨t + 1, _, _, _, _, by omega, by go_num, hide (by rw [List.length_append, LW.out]; rfl), hide (by rw [List.length_append, LO.out]; rfl), HN2⟩
                              case measure => simp [intOf]; omega
                            · have htl' : ¬ (t : Int) < 9 := by omega
                              have JE := hide (J8.out.next DJ.out.be)
                              go_wp2_with fail
                              go_roundw
                              case rel => exact ⟨k + 1, by omega, by go_num, JE⟩
                              case measure => simp [intOf]; omega
        · obtain rfl : k = nl := by omega
          have SM0 : Hid (SmS (plS P L k) 0) := hide (pl_sm P L SB.out k 0 (by omega) (by omega))
          have hlt' : ¬ (k : Int) < (k : Int) := by omega
          go_upto_region 52 with (fail)
          obtain ⟨a2, c2, aw2, cw2, al2, cl2, C2, hC2, RP2, e1, e2, e3, e4, lg⟩ := J.out.seen
          have HC2 := hide hC2
          have RP2 := hide RP2
          have E1 := hide e1
          have E2 := hide e2
          have E3 := hide e3
          have E4 := hide e4
          have LG := hide lg
          have CF : Hid (∀ Y, Below wr.heap.size wr Y → Y.cell? ⟨gR, 1, none⟩ = some (.slice a2 C2.length c2) ∧ Y.cell? ⟨gR, 2, none⟩ = some (.slice aw2 (plS P L k).wh.length cw2) ∧ Y.cell? ⟨gR, 3, none⟩ = some (.slice al2 (plS P L k).lo.length cl2) ∧ Y.cell? ⟨gR, 4, none⟩ = some (.int .i64 (plS P L k).n) ∧ gR < Y.heap.size) := fun Y b => ⟨(b.cell (p := ⟨gR, 1, none⟩) LG.out).trans E1.out, (b.cell (p := ⟨gR, 2, none⟩) LG.out).trans E2.out, (b.cell (p := ⟨gR, 3, none⟩) LG.out).trans E3.out, (b.cell (p := ⟨gR, 4, none⟩) LG.out).trans E4.out, Nat.lt_of_lt_of_le LG.out b.size⟩
          clear hC2
          go_region_law (first
            | (go_simp; go_at_call 15; go_loud (refine Calls.mono ((J.out.next (by (repeat (first | with_reducible exact Below.refl _ _ | with_reducible assumption | with_reducible refine Below.drew ?_ | with_reducible refine Below.alloc ?_ (Nat.le_refl _) _)))).report SM0.out) ?_); go_loud (rintro e w8 ⟨a8, c8, aw8, cw8, al8, cl8, C8, rfl, hC8, RP8, b8⟩); go_loud (have bb8 : Below wr.heap.size wr w8 := below_then (by (repeat (first | with_reducible exact Below.refl _ _ | with_reducible assumption | with_reducible refine Below.drew ?_ | with_reducible refine Below.alloc ?_ (Nat.le_refl _) _))) b8); go_loud (obtain ⟨f1, f2, f3, f4, f5⟩ := CF.out _ bb8); have RQ := hide (RP2.out.later bb8); have R8 := hide RP8.as_rep; have HC8 := hide hC8; have J8 := hide (J.out.next bb8); clear hC8 b8 RP8)
            | (go_simp; go_at_call 14; go_loud (refine Calls.mono (rep_same (R8.out.later (by (repeat (first | with_reducible exact Below.refl _ _ | with_reducible assumption | with_reducible refine Below.drew ?_ | with_reducible refine Below.alloc ?_ (Nat.le_refl _) _)))) (RQ.out.later (by (repeat (first | with_reducible exact Below.refl _ _ | with_reducible assumption | with_reducible refine Below.drew ?_ | with_reducible refine Below.alloc ?_ (Nat.le_refl _) _)))) HC8.out HC2.out SM0.out) ?_); go_loud (rintro e w9 ⟨rfl, k9⟩); go_loud (have b9 : Below w8.heap.size w8 w9 := below_then (by (repeat (first | with_reducible exact Below.refl _ _ | with_reducible assumption | with_reducible refine Below.drew ?_ | with_reducible refine Below.alloc ?_ (Nat.le_refl _) _))) k9); have J9 := hide (J8.out.next b9); clear k9))
          all_goals
            go_wp2_with fail
            go_returns
            exact ⟨rfl, J9.out.be⟩
end Go.Proofs.YtbahhlgcebgfeaaDoor
