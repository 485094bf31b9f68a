/- WireOwn: the law's walk. (gen_lawown.py) -/
import Derived.Test.YthaphijkfedihaaOwnw
import Derived.Test.YthaphijkfedihaaPieces
namespace Go.Proofs.Ythaphijkfedihaa
set_option linter.unusedVariables false
set_option linter.unusedSimpArgs false
open Go.RowKit W
theorem txts_of_lists3 (xs : List (List UInt8)) : ∃ ps : List ByteArray, ps.map lst = xs := by
  induction xs with
  | nil => exact ⟨[], rfl⟩
  | cons x r ih =>
    obtain ⟨ps, h⟩ := ih
    exact ⟨⟨x.toArray⟩ :: ps, by rw [List.map_cons, h]; simp [lst]⟩
set_option maxRecDepth 100000 in
set_option maxHeartbeats 16000000 in
theorem law_WireOwn (a : Option Addr) (c : Nat) (l : List UInt8) (s : ByteArray) (hl : l.length ≤ 1048576) (hc : l.length ≤ c) (hn : a = none → l.length = 0 ∧ c = 0) (hs : s.size ≤ 1048576) (w : World) (ib : IsBytes w a l) :
    Calls Try.prog 7 #[.slice a l.length c, .string s] w fun e w' => e = .returned (.bool true) ∧ Below w.heap.size w w' := by
  have IB := hide ib
  have HN := hide hn
  obtain ⟨n, hnn⟩ : ∃ n, n = l.length := ⟨_, rfl⟩
  have NN := hide hnn
  rw [← hnn] at hc hl ⊢
  clear ib hn hnn
  go_enter Try.func7, Try.ntmps7
  go_wp2_with fail
  refine (alive5 _).mono ?_
  rintro e w1 ⟨rfl, b1⟩
  have B1 := hide b1
  clear b1
  go_wp2_with (
    at_builtin
    refine wpList_append_bytes rfl _ _ rfl w.heap.size rfl a c l (by rw [← NN.out]; rfl) (IB.out.later B1.out) HN.out (by have := NN.out; omega) B1.out.size ?_
    intro v2 w2 o2 g2
    have O2 := hide o2
    have B2 : Hid (Below w.heap.size w w2) := B1.out.grown g2 B1.out.size (fun j hj => by cases hj)
    obtain ⟨aC, cC, rfl, hcC, hnC, ibC⟩ := own_bytes o2
    have HNC := hide hnC
    have IBC := hide ibC
    rw [← NN.out] at hcC ⊢
    clear o2 g2 hnC ibC)
  refine (news_ok 1024 (by omega) (by omega) _).mono ?_
  rintro e w3 ⟨g, rfl, sk1, b3⟩
  have SK3 := hide sk1
  have B3 := hide b3
  clear sk1 b3
  go_wp2_with fail
  refine (rnews_ok 1024 (by omega) (by omega) _).mono ?_
  rintro e w4 ⟨rfl, b4⟩
  have P4 := hide (SK3.out.later b4)
  have B4 := hide (B3.out.trans (b4.mono B3.out.size))
  clear SK3 B3 b4
  go_wp2_with fail
  obtain ⟨L1, hL1⟩ := txts_of_lists3 (tellL 1024 (headsL [] l))
  obtain ⟨A', hA⟩ : ∃ A' : ByteArray, lst A' = lst ⟨#[]⟩ ++ l := ⟨⟨l.toArray⟩, by simp [lst]⟩
  obtain ⟨past', hp'⟩ : ∃ p, p + 1 = (cutL 10 [] (lst A')).length := ⟨(cutL 10 [] (lst A')).length - 1, by have := cutL_pos 10 (lst A') []; omega⟩
  have S4 : Hid (Ss w2.heap.size g w4.heap.size 1024 w2 [] 0 ⟨#[]⟩ 0 0 (w4.alloc (.cells #[.int .i64 1024, .string ⟨#[]⟩, .int .i64 0, .int .i64 0] 50))) := by
    have u := Below.alloc (Below.refl w4.heap.size w4) (Nat.le_refl _) (.cells #[.int .i64 1024, .string ⟨#[]⟩, .int .i64 0, .int .i64 0] 50)
    have bb := B4.out.alloc B4.out.size (.cells #[.int .i64 1024, .string ⟨#[]⟩, .int .i64 0, .int .i64 0] 50)
    exact ⟨⟨_, P4.out.later u⟩, ⟨heap_alloc_new w4 _, B4.out.size⟩, bb, bb.size, rfl⟩
  obtain ⟨h, hh⟩ : ∃ h, h = w4.heap.size := ⟨_, rfl⟩
  rw [← hh] at S4 ⊢
  obtain ⟨N, hN⟩ : ∃ N, N = (0 : Int) + lostL 1024 (headsL [] l) := ⟨_, rfl⟩
  have sA : A'.size = n := by rw [← lst_len, hA, NN.out]; simp [lst]
  have FA := feedA l aC cC L1 hL1 S4.out (Nat.le_refl _) (Int.le_refl _) (by rw [← NN.out]; omega) (by rw [← NN.out]; exact hcC) HNC.out IBC.out
  have FB := fun (t : List UInt8) (n1 : Int) (W : World) (s : Ss w2.heap.size g h 1024 w2 t n1 ⟨#[]⟩ 0 0 W) => feedB (A' := A') (past' := past') l a c L1 hL1 hA rfl hp' s (Nat.le_refl _) (by rw [← NN.out]; show 0 + n ≤ _; omega) (Int.le_refl _) (by decide) (IB.out.later B2.out)
  have TL : Hid (lastL [] (lst A') = lastL [] l) := by show _ = _; rw [hA]; rfl
  rw [← NN.out, ← hN] at FA
  rw [← NN.out] at FB
  have zL : L1.length ≤ n := by have := congrArg List.length hL1; rw [List.length_map] at this; have := tell_len 1024 [] l; have := NN.out; omega
  clear hL1 hA hp' hN S4 P4 B4 hh
  refine FA.mono ?_
  rintro e w5 ⟨aL, cL, rfl, oL, s5, k5⟩
  clear FA k5
  go_wp2_with fail
  refine (FB _ _ _ s5).mono ?_
  rintro e w6 ⟨aM, cM, rfl, oM, s6, k6⟩
  have OL := hide (k6 _ _ oL)
  have OM := hide oM
  have S6 := hide s6
  have B6 : Hid (Below w.heap.size w w6) := B2.out.trans (s6.below.mono B2.out.size)
  have O6 : Hid (w6.ownsRow w.heap.size 5 1 (.slice aC n cC) n (rowB l)) := by
    have := chg_row O2.out (Chg.of_below (S := fun _ => False) s6.below) (fun _ _ q => q)
    rw [← NN.out] at this
    exact this
  clear FB s5 oL k6 oM s6
  go_wp2_with fail
  go_loopw [12] (fun iv wr => ∃ (k : Nat) (xs : List UInt8), k ≤ n ∧ iv = .int .i64 (k : Int) ∧ Hid (xs.length = n) ∧ Hid (∀ j, k ≤ j → xs[j]? = l[j]?) ∧ Hid (wr.ownsRow w.heap.size 5 1 (.slice aC n cC) n (rowB xs)) ∧ Hid (Chg (fun j => w.heap.size ≤ j ∧ j < w2.heap.size) w6 wr)) (fun iv _ => n - (intOf iv).toNat)
  case atStart => exact ⟨0, l, Nat.zero_le _, rfl, NN.out.symm, fun _ _ => rfl, O6.out, Chg.refl _ _⟩
  case round =>
    obtain ⟨k, xs, hk, rfl, xl, xj, xo, xc⟩ := hrel
    have BW : Hid (Below w.heap.size w wr) := B6.out.trans (xc.out.below (fun j q => q.1) B6.out.size)
    by_cases hlt : k < n
    · obtain ⟨gc, hgc⟩ : ∃ gc, aC = some ⟨gc, 0, none⟩ := by
        rcases xo.out.2 with ⟨e, e2⟩ | ⟨gc, cap, cur, e, _⟩
        · omega
        · injection e with e; exact ⟨gc, e⟩
      subst hgc
      have kx : k < xs.length := by rw [xl.out]; exact hlt
      have kl : k < l.length := by rw [← NN.out]; exact hlt
      obtain ⟨r1, r2, r3, r4⟩ := row_cell xo.out
      have d1 := r1 k kx
      have d2 := r2 k
      have xe : xs[k] = l[k] := by
        have := xj.out k (Nat.le_refl _)
        rw [List.getElem?_eq_getElem kx, List.getElem?_eq_getElem kl] at this
        exact Option.some.inj this
      rw [xe] at d1
      obtain ⟨gb, ob, rfl, d3⟩ : ∃ gb ob, a = some ⟨gb, ob, none⟩ ∧ wr.cell? ⟨gb, ob + k, none⟩ = some (.int .u8 (l[k].toNat : Int)) := by
        rcases IB.out with q | ⟨gb, ob, e, lt, bc⟩
        · rw [q] at kl; exact absurd kl (by simp)
        · exact ⟨gb, ob, e, (BW.out.cell (p := ⟨gb, ob + k, none⟩) lt).trans (bc k kl)⟩
      obtain ⟨z, hz⟩ : ∃ z, z = l[k] := ⟨_, rfl⟩
      rw [← hz] at d1 d3
      have NX : ∀ q, Hid (((wr.drewN q).setCell ⟨gc, k, none⟩ (.int .u8 120)).ownsRow w.heap.size 5 1 (.slice (some ⟨gc, 0, none⟩) n cC) n (rowB (xs.set k 120)) ∧ Chg (fun j => w.heap.size ≤ j ∧ j < w2.heap.size) w6 ((wr.drewN q).setCell ⟨gc, k, none⟩ (.int .u8 120))) := by
        intro q
        have cq : Chg (fun _ => False) wr (wr.drewN q) := Chg.of_below (below_drewN (Below.refl _ _) q)
        refine ⟨row_set (chg_row xo.out cq (fun _ _ q => q)) k 120, ?_⟩
        refine (xc.out.trans cq (fun _ _ q => q.elim)).trans (Chg.set (S := fun j => w.heap.size ≤ j ∧ j < w2.heap.size) _ ⟨r4, ?_⟩) (fun _ _ q => q)
        exact (World.ownsRow.lt O2.out gc rfl).2
      have XL : Hid ((xs.set k 120).length = n) := by show _ = _; rw [List.length_set]; exact xl.out
      have XJ : Hid (∀ j, k + 1 ≤ j → (xs.set k 120)[j]? = l[j]?) := by
        intro j hj
        rw [List.getElem?_set_ne (by omega)]
        exact xj.out j (by omega)
      have k3 : (k : Int) < (n : Int) := by omega
      clear kx kl r1 r2 r3 r4 xe hz
      go_wp2_with fail
      go_quiet (fail)
      go_wp2_with fail
      go_roundw
      case rel => exact ⟨k + 1, xs.set k 120, by omega, by go_num, XL.out, XJ.out, (NX _).out.1, (NX _).out.2⟩
      case measure => simp [intOf]; omega
    · obtain rfl : k = n := by omega
      have SW := hide (Sw.chg (h := h) ⟨S6.out.sk, S6.out.rs⟩ xc.out (fun j q => q.2))
      have L7 := hide (OL.out.chgOld xc.out (fun j q => q.2))
      have M7 := hide (OM.out.chgOld xc.out (fun j q => q.2))
      obtain ⟨x0, hx0⟩ : ∃ x0 : ByteArray, lst x0 = (lastL [] l).take (1024 + 1) := ⟨⟨((lastL [] l).take (1024 + 1)).toArray⟩, by simp [lst]⟩
      have X0 := hide hx0
      have ZL : L1.length ≤ 140737488355328 := by omega
      have k3 : ¬ ((k : Int) < (k : Int)) := by omega
      clear S6 OL OM O6 xl xj xo xc hx0
      go_wp2_with fail
      refine (newp_ok 65536 (by omega) (by omega) _).mono ?_
      rintro e w7 ⟨gp, rfl, ⟨vp, p7⟩, b7⟩
      have BZ := hide b7.size
      have SW7 := hide (SW.out.later b7)
      have L8 := hide (L7.out.later b7)
      have M8 := hide (M7.out.later b7)
      have BW7 := hide (BW.out.trans (b7.mono BW.out.size))
      have BS := hide BW.out.size
      have PK7 : Hid (Pk wr.heap.size w7 gp 65536 []) := ⟨_, p7⟩
      obtain ⟨bp, hbp⟩ : ∃ bp, bp = wr.heap.size := ⟨_, rfl⟩
      rw [← hbp] at PK7 BZ BS
      clear SW L7 M7 BW b7 p7 hbp
      go_wp2_with fail
      refine (sameO L8.out M8.out ZL).mono ?_
      rintro e w8 ⟨rfl, b8⟩
      have SW8 := hide (SW7.out.later b8)
      have BW8 := hide (BW7.out.trans (b8.mono BW7.out.size))
      have PK8 := hide (PK7.out.later b8)
      have BZ8 := hide (Nat.le_trans BZ.out b8.size)
      have EA := endA2 SW8.out x0 X0.out
      have EB := endB2 SW8.out x0 (by rw [X0.out, TL.out]) (Nat.le_refl _) (by omega)
      clear b8 SW7 BW7 PK7 BZ L8 M8
      go_wp2_with fail
      refine EA.mono ?_
      rintro e v1 ⟨rfl, rfl⟩
      go_wp2_with fail
      refine EB.mono ?_
      rintro e w9 ⟨rfl, b9⟩
      have BW9 := hide (BW8.out.trans (b9.mono BW8.out.size))
      have PK9 := hide (PK8.out.later b9)
      have BZ9 := hide (Nat.le_trans BZ8.out b9.size)
      clear EA EB b9 SW8 BW8 PK8 BZ8 X0
      go_wp2_with fail
      rcases add_cases s with ⟨er, hq, he⟩ | hq
      · refine (addP s hq PK9.out (by simp) (by omega) BZ9.out (by omega)).mono ?_
        rintro e w10 ⟨aX, cX, rfl, p10, b10⟩
        have BW10 := hide (BW9.out.trans (b10.mono BS.out))
        have FL := flushP p10 (by simp) (Nat.le_trans BZ9.out b10.size)
        clear hq PK9 p10 b10 BW9
        go_wp2_with fail
        refine FL.mono ?_
        rintro e w11 ⟨aD, cD, rfl, -, -, b11⟩
        have BW11 := hide (BW10.out.trans (b11.mono BS.out))
        clear FL b11 BW10
        rcases he with rfl | rfl
        · go_wp2_with fail
          go_returns
          exact ⟨rfl, BW11.out⟩
        · go_wp2_with fail
          go_returns
          exact ⟨rfl, BW11.out⟩
      · have HQ := hide hq
        refine (addP s hq PK9.out (by simp) (by omega) BZ9.out (by omega)).mono ?_
        rintro e w10 ⟨aX, cX, rfl, p10, b10⟩
        have BW10 := hide (BW9.out.trans (b10.mono BS.out))
        have BZ10 := hide (Nat.le_trans BZ9.out b10.size)
        have FL := flushP p10 (by rw [lst_len]; omega) BZ10.out
        rw [lst_len] at FL
        obtain ⟨m, hm⟩ : ∃ m, m = s.size := ⟨_, rfl⟩
        have MM := hide hm
        rw [← hm] at FL hs
        clear hq PK9 p10 b10 BW9 hm
        go_wp2_with fail
        refine FL.mono ?_
        rintro e w11 ⟨aD, cD, rfl, oD, ⟨v2, p11, ap⟩, b11⟩
        have BW11 := hide (BW10.out.trans (b11.mono BS.out))
        have BZ11 := hide (Nat.le_trans BZ10.out b11.size)
        have OD := hide oD
        have P11 := hide p11
        have AP := hide ap
        have Z1011 := hide b11.size
        clear FL b11 oD p11 ap
        go_wp2_with fail
        go_loopw [18] (fun iv wr => ∃ (k : Nat) (xs : List UInt8), k ≤ m ∧ iv = .int .i64 (k : Int) ∧ Hid (xs.length = m) ∧ Hid (wr.ownsRow w10.heap.size 5 1 (.slice aD m cD) m (rowB xs)) ∧ Hid (Chg (fun j => (Value.slice aD m cD).ownBlock = some j) w11 wr)) (fun iv _ => m - (intOf iv).toNat)
        case atStart => exact ⟨0, lst s, Nat.zero_le _, rfl, by show _ = _; rw [lst_len, MM.out], OD.out, Chg.refl _ _⟩
        case round =>
          obtain ⟨j, xs, hj, rfl, xl, xo, xc⟩ := hrel
          by_cases hlt2 : j < m
          · obtain ⟨gd, hgd⟩ : ∃ gd, aD = some ⟨gd, 0, none⟩ := by
              rcases xo.out.2 with ⟨e, e2⟩ | ⟨gd, cap, cur, e, _⟩
              · omega
              · injection e with e; exact ⟨gd, e⟩
            subst hgd
            obtain ⟨r1, r2, r3, r4⟩ := row_cell xo.out
            have d1 := r1 j (by rw [xl.out]; exact hlt2)
            have d2 := r2 j
            obtain ⟨z, hz⟩ : ∃ z, z = (.int .u8 ((xs[j]'(by rw [xl.out]; exact hlt2)).toNat : Int) : Value) := ⟨_, rfl⟩
            rw [← hz] at d1
            have NX : Hid ((wr.setCell ⟨gd, j, none⟩ (.int .u8 121)).ownsRow w10.heap.size 5 1 (.slice (some ⟨gd, 0, none⟩) m cD) m (rowB (xs.set j 121)) ∧ Chg (fun i => (Value.slice (some ⟨gd, 0, none⟩) m cD).ownBlock = some i) w11 (wr.setCell ⟨gd, j, none⟩ (.int .u8 121))) :=
              ⟨row_set xo.out j 121, xc.out.trans (Chg.set (S := fun i => (Value.slice (some ⟨gd, 0, none⟩) m cD).ownBlock = some i) _ rfl) (fun _ _ q => q)⟩
            have XL : Hid ((xs.set j 121).length = m) := by show _ = _; rw [List.length_set]; exact xl.out
            have k4 : (j : Int) < (m : Int) := by omega
            clear r1 r2 r3 r4 hz
            go_wp2_with fail
            go_roundw
            case rel => exact ⟨j + 1, xs.set j 121, by omega, by go_num, XL.out, NX.out.1, NX.out.2⟩
            case measure => simp [intOf]; omega
          · obtain rfl : j = m := by omega
            have k4 : ¬ ((j : Int) < (j : Int)) := by omega
            have PW := hide (P11.out.chg xc.out (fun q => P11.out.row_ne OD.out (by decide) _ q rfl) (fun i hi q => AP.out i q hi))
            obtain ⟨i0, hi0, hz0, hz1, hz2⟩ := info_parts info_u8
            have HI : Hid (Try.prog.info? 5 = some i0 ∧ i0.zero = some (.int .u8 0) ∧ i0.size = 1 ∧ i0.bytes = 1) := ⟨hi0, hz0, hz1, hz2⟩
            have ZR := hide (Nat.le_trans Z1011.out xc.out.size)
            have S10 : Hid (∀ i, (Value.slice aD j cD).ownBlock = some i → w.heap.size ≤ i) := fun i hi => Nat.le_trans BW10.out.size (own_blk OD.out hi).1
            have BWr := hide (BW11.out.trans (xc.out.below (fun i q => S10.out i q) BW11.out.size))
            have jb : j + 1 ≤ 65536 * 65536 := by omega
            clear hi0 hz0 hz1 hz2 P11
            go_wp2_with (
              at_builtin
              refine wpList_append_own _ rfl _ _ 35 rfl w10.heap.size 5 i0 (.int .u8 0) 1 1 Try.underlying35 HI.out.1 HI.out.2.1 HI.out.2.2.1 HI.out.2.2.2 ?a1 ?a2 (.slice aD j cD) j (rowB xs) ?a3 (xo.out.alloc _) ⟨wr.heap.size, 0, none⟩ 1 1 [.int .u8 122] ?a5 ?a6 ?a7 ?a8 ?a9 ?b1 ?b2 ?_
              case a1 => rfl
              case a2 => decide
              case a3 => rfl
              case a5 => rfl
              case a6 => rfl
              case a7 => exact cell_one_new _ _ _
              case a8 => intro u hu; rw [List.mem_singleton] at hu; subst hu; rfl
              case a9 => unfold maxLen; omega
              case b1 => omega
              case b2 => (have := ZR.out; simp; omega)
              intro v13 w13 o13 g13 z13
              have C13 : Hid (Chg (fun i => (Value.slice aD j cD).ownBlock = some i) wr w13) := Chg.trans (S := fun i => (Value.slice aD j cD).ownBlock = some i) (Chg.of_below (Below.alloc (Below.refl _ _) (Nat.le_refl _) _)) (Chg.grown (S := fun i => (Value.slice aD j cD).ownBlock = some i) g13 (fun _ q => q)) (fun _ _ q => q)
              have P13 : Hid (Pk bp w13 gp 65536 []) := ⟨_, PW.out.chg C13.out (fun q => PW.out.row_ne xo.out (by decide) _ q rfl) (fun i hi q => AP.out i q hi)⟩
              have BZ13 : Hid (bp ≤ w13.heap.size) := Nat.le_trans (Nat.le_trans BZ11.out xc.out.size) C13.out.size
              have BW13 := hide (BWr.out.trans (C13.out.below (fun i q => S10.out i q) BWr.out.size))
              obtain ⟨a13, c13, rfl, _, _⟩ := own_form o13
              clear o13 g13 z13)
            clear xl xo xc OD PW AP ZR BWr S10 Z1011 BZ11 BW11 BZ10 BW10 k4
            refine (addP s HQ.out P13.out (by simp) (by omega) BZ13.out (by have := MM.out; omega)).mono ?_
            rintro e w14 ⟨aY, cY, rfl, p14, b14⟩
            have BW14 := hide (BW13.out.trans (b14.mono BS.out))
            have FL := flushP p14 (by rw [lst_len]; have := MM.out; omega) (Nat.le_trans BZ13.out b14.size)
            clear b14 BW13 BZ13 P13
            rw [lst_len, ← MM.out] at FL
            go_wp2_with fail
            refine FL.mono ?_
            rintro e w15 ⟨aE, cE, rfl, oE, -, b15⟩
            have BW15 := hide (BW14.out.trans (b15.mono BS.out))
            have sj : s.size = j := MM.out.symm
            have cv1 : (convert 35 9 (.slice aE j cE)).run Try.prog w15 = .ok (.string s) w15 := by
              have oE' : w15.ownsRow w14.heap.size 5 1 (.slice aE j cE) (lst s).length (rowB (lst s)) := by rw [lst_len, sj]; exact oE
              obtain ⟨a', c', e, _, _, ib'⟩ := own_bytes oE'
              injection e with e1 _ e3
              subst e1 e3
              obtain ⟨y, hy, cv⟩ := bytes_text0 ib' cE
              obtain rfl := lst_inj hy
              have := cv w15 (Below.refl _ _)
              rw [lst_len, sj] at this
              exact this
            have wr1 : IntKind.i64.wrap ((j : Int) + 1) = (j : Int) + 1 := by rw [IntKind.wrap_i64]; omega
            clear FL oE b15 BW14 p14
            go_wp2_with fail
            go_returns
            exact ⟨rfl, BW15.out⟩
end Go.Proofs.Ythaphijkfedihaa
