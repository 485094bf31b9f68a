/- due: DueSorts. -/
import Derived.Test.YtbnlhjooimppeaaQb
import Derived.Test.YtbnlhjooimppeaaQc
namespace Go.Proofs.Ytbnlhjooimppeaa
set_option linter.unusedVariables false
set_option linter.unusedSimpArgs false
open Go.RowKit W Go.Maps
/-- While keys are set. -/
structure StS (W : World) (a : Option Addr) (L : List En) (qb kb mb : Nat) (wr : World) (i : Nat) (v : Value) : Prop where
  qa : QA W.heap.size wr qb kb mb 65536 v (rsQ 65536 (L.take i))
  is : IsE wr a L
  below : Below W.heap.size W wr
/-- While what was taken is looked at, and what is left. -/
structure TtS (W : World) (a : Option Addr) (L t d : List En) (A : Option Addr) (qb kb mb : Nat) (v : Value) (wr : World) : Prop where
  qa : QA W.heap.size wr qb kb mb 65536 v d
  is : IsE wr a L
  it : IsE wr A t
  below : Below W.heap.size W wr
theorem TtS.later {W wr w' : World} {a A : Option Addr} {L t d : List En} {qb kb mb : Nat} {v : Value} (h : TtS W a L t d A qb kb mb v wr) (b : Below wr.heap.size wr w') : TtS W a L t d A qb kb mb v w' :=
  ⟨h.qa.later b, h.is.later b, h.it.later b, h.below.trans (b.mono h.below.size)⟩
theorem IsE.chg_of {W wr w' : World} {a : Option Addr} {L : List En} (h : IsE W a L) (b : Below W.heap.size W w') : IsE w' a L := h.later b
set_option maxRecDepth 100000 in
set_option maxHeartbeats 16000000 in
theorem law_DueSorts (a : Option Addr) (n c : Nat) (L : List En) (now : Int) (hn : L.length = n ∧ n ≤ 140737488355328) (hsz : ∀ e ∈ L, e.1.size ≤ maxLen) (W : World) (hI : IsE W a L) :
    Calls Try.prog 4 #[.slice a n c, .int .i64 now] W fun e w' => e = .returned (.bool true) ∧ Below W.heap.size W w' := by
  obtain ⟨hn, hn2⟩ := hn
  have k0 := qnew_ok 65536 (by decide) (by decide) W
  rw [show ((65536 : Nat) : Int) = 65536 from rfl] at k0
  have ka := alive7_spec
  have HI := hide hI
  have HS := hide hsz
  have HN := hide hn
  clear hI hsz hn
  go_enter Try.func4, Try.ntmps4
  go_wp2_with (go_at_call 14; refine k0.mono ?_; rintro e w1 ⟨qb, kb, mb, rfl, q1, b1⟩)
  have S0 : Hid (StS W a L qb kb mb w1 0 (.slice none 0 0)) := ⟨by rw [List.take_zero]; exact q1, HI.out.later b1, b1⟩
  clear q1 b1 k0
  go_loopw [7, 8] (fun s7 s8 wr => ∃ (i : Nat) (v : Value), s7 = .bool true ∧ s8 = .int .i64 (i : Int) ∧ i ≤ n ∧ Hid (StS W a L qb kb mb wr i v)) (fun _ s8 _ => n - (intOf s8).toNat)
  case atStart => exact ⟨0, _, rfl, rfl, by omega, S0⟩
  case round =>
    obtain ⟨i, v, rfl, rfl, hi, ST⟩ := hrel
    by_cases hlt : i < n
    · have d1 : decide ((i : Int) < (n : Int)) = true := by rw [decide_eq_true_eq]; omega
      have d2 : decide (i < n) = true := by rw [decide_eq_true_eq]; omega
      have il : i < L.length := by have := HN.out; omega
      obtain ⟨g, o, rfl, gl, x0, x1⟩ := ST.out.is.at_ il
      have gW : g < W.heap.size := by
        rcases HI.out with e | ⟨g', o', e, k⟩
        · subst e; simp at il
        · cases e; exact k.lt
      obtain ⟨x, hx⟩ : ∃ x, x = L[i] := ⟨_, rfl⟩
      have HX := hide hx
      rw [← hx] at x0 x1
      have xs : x.1.size ≤ maxLen := by rw [HX.out]; exact HS.out _ (List.getElem_mem il)
      have tk : L.take (i + 1) = L.take i ++ [x] := by rw [List.take_add_one, List.getElem?_eq_getElem il, ← HX.out]; rfl
      have TK := hide tk
      have RS := hide (rsI 65536 (by decide) (L.take i))
      have rl := RS.out.le
      rw [List.length_take, Nat.min_eq_left (by omega)] at rl
      have kq := fun (w' : World) (b : Below wr.heap.size wr w') => qset_spec (ST.out.qa.later b) (Nat.le_trans ST.out.below.size b.size) x.1 xs x.2
      have qo := ST.out.qa.old
      clear hx tk
      have BD : ∀ wx, Below wr.heap.size wr wx → Below W.heap.size W wx := fun wx b => ST.out.below.trans (b.mono ST.out.below.size)
      have BDH := hide BD
      by_cases cc : hasK (rsQ 65536 (L.take i)) x.1 = true ∨ (rsQ 65536 (L.take i)).length < 65536
      · have SQ : Hid (stepQ 65536 (rsQ 65536 (L.take i)) x = setR (rsQ 65536 (L.take i)) x.1 x.2) := by show _ = _; unfold stepQ; rw [if_pos cc]
        simp only [if_pos cc] at kq
        clear cc BD
        go_wp2_with fail
        go_region_with (go_at_call 21; (with_reducible refine Calls.mono (kq _ (by first | exact Below.refl _ _ | exact (Below.refl _ _).drew | exact below_drewN (Below.refl _ _) _)) ?_); rintro e w2 ⟨v2, rfl, q2, c2, m2⟩)
        all_goals
          have B2 : Hid (Below W.heap.size W w2) := hide ((BDH.out _ (by first | exact Below.refl _ _ | exact (Below.refl _ _).drew | exact below_drewN (Below.refl _ _) _)).trans (c2.below (fun k q => (qo k q).1) ST.out.below.size))
          have N2 : Hid (StS W (some ⟨g, o, none⟩) L qb kb mb w2 (i + 1) v2) := ⟨by rw [TK.out, rsQ_snoc, SQ.out]; exact q2, HI.out.later B2.out, B2.out⟩
          clear q2 c2 m2 x0 x1
          go_wp2_with fail
          go_roundw
          case rel => exact ⟨i + 1, v2, rfl, by go_num, by omega, N2⟩
          case measure => (first | (simp [intOf]; done) | (simp [intOf]; omega))
      · have SQ : Hid (stepQ 65536 (rsQ 65536 (L.take i)) x = rsQ 65536 (L.take i)) := by show _ = _; unfold stepQ; rw [if_neg cc]
        have big : 65536 ≤ i := by
          have : ¬ (rsQ 65536 (L.take i)).length < 65536 := fun q => cc (.inr q)
          omega
        have d3 : decide ((65536 : Int) ≤ (i : Int)) = true := by rw [decide_eq_true_eq]; omega
        have d4 : decide (65536 ≤ i) = true := by rw [decide_eq_true_eq]; omega
        simp only [if_neg cc] at kq
        clear cc BD
        go_wp2_with fail
        go_region_with (go_at_call 21; (with_reducible refine Calls.mono (kq _ (by first | exact Below.refl _ _ | exact (Below.refl _ _).drew | exact below_drewN (Below.refl _ _) _)) ?_); rintro e w2 ⟨v2, rfl, q2, c2, m2⟩)
        all_goals
          have B2 : Hid (Below W.heap.size W w2) := hide ((BDH.out _ (by first | exact Below.refl _ _ | exact (Below.refl _ _).drew | exact below_drewN (Below.refl _ _) _)).trans (c2.below (fun k q => (qo k q).1) ST.out.below.size))
          have N2 : Hid (StS W (some ⟨g, o, none⟩) L qb kb mb w2 (i + 1) v2) := ⟨by rw [TK.out, rsQ_snoc, SQ.out]; exact q2, HI.out.later B2.out, B2.out⟩
          clear q2 c2 m2 x0 x1
          go_wp2_with fail
          go_roundw
          case rel => exact ⟨i + 1, v2, rfl, by go_num, by omega, N2⟩
          case measure => (first | (simp [intOf]; done) | (simp [intOf]; omega))
    · obtain rfl : i = n := by omega
      have d1 : decide ((i : Int) < (i : Int)) = false := by rw [decide_eq_false_iff_not]; omega
      have d2 : decide (i < i) = false := by rw [decide_eq_false_iff_not]; omega
      obtain ⟨r, hr⟩ : ∃ r, r = rsQ 65536 L := ⟨_, rfl⟩
      have HR := hide (show RsI 65536 L r from hr ▸ rsI 65536 (by decide) L)
      have QR : Hid (QA W.heap.size wr qb kb mb 65536 v r) := by have := ST.out.qa; rw [← HN.out, List.take_length, ← hr] at this; exact this
      have SR := hide QR.out.srt
      have KR := hide QR.out.keys
      have kl := qlen QR.out
      have kt := qtake_spec QR.out ST.out.below.size now
      obtain ⟨rn, hrn⟩ : ∃ rn, rn = r.length := ⟨_, rfl⟩
      have HRN := hide hrn
      have rle : rn ≤ 65536 := by rw [hrn]; exact Nat.le_trans QR.out.le QR.out.mx
      rw [← hrn] at kl
      have qo := QR.out.old
      have RZ : Hid (∀ e ∈ r, e.1.size ≤ maxLen) := by
        obtain ⟨l0, h0, p0⟩ := QR.out.hq
        exact fun e he => h0.kq.km.sz e (p0.symm.subset he)
      have IL := hide ST.out.is
      have BL := hide ST.out.below
      clear hr hrn ST
      go_wp2_with (first
        | (go_at_call 18; refine kl.mono ?_; rintro e w' ⟨rfl, rfl⟩)
        | (go_at_call 22; refine kt.mono ?_; rintro e w3 ⟨v3, s3, rfl, row3, q3, c3, m3, a3⟩))
      obtain ⟨A, cA, rfl, it3⟩ := isE_own row3 rfl
      have B3 : Hid (Below W.heap.size W w3) := hide (BL.out.trans (c3.below (fun k q => (qo k q).1) BL.out.size))
      obtain ⟨t, ht⟩ : ∃ t, t = tkR r now := ⟨_, rfl⟩
      obtain ⟨d, hd⟩ : ∃ d, d = drR r now := ⟨_, rfl⟩
      have HT := hide ht
      have HD := hide hd
      rw [← ht] at it3 ⊢
      rw [← hd] at q3
      obtain ⟨m, hm⟩ : ∃ m, m = t.length := ⟨_, rfl⟩
      have HM := hide hm
      rw [← hm] at ⊢
      have mle : m ≤ 65536 := by have := tk_dr_len r now; rw [← ht, ← hd, ← hm] at this; have := HRN.out; omega
      have T0 : Hid (TtS W a L t d A qb kb mb v3 w3) := ⟨q3, HI.out.later B3.out, it3, B3.out⟩
      clear row3 q3 c3 m3 a3 it3 B3 IL BL QR kl kt qo ht hd hm
      go_loopw [12, 13, 14] (fun s12 s13 s14 wr => ∃ (j : Nat), s12 = .int .i64 (j : Int) ∧ j ≤ m ∧ Hid (TtS W a L t d A qb kb mb v3 wr)) (fun s12 _ _ _ => m - (intOf s12).toNat)
      case atStart => exact ⟨0, rfl, by omega, T0⟩
      case round =>
        obtain ⟨j, rfl, hj, T⟩ := hrel
        by_cases hlt : j < m
        · have e1 : decide ((j : Int) < (m : Int)) = true := by rw [decide_eq_true_eq]; omega
          have e2 : decide (j < m) = true := by rw [decide_eq_true_eq]; omega
          have jl : j < t.length := by have := HM.out; omega
          obtain ⟨g, o, rfl, gl, x0, x1⟩ := T.out.it.at_ jl
          have xin : t[j] ∈ tkR r now := by rw [← HT.out]; exact List.getElem_mem jl
          have XN := tk_not_dr KR.out xin
          rw [← HD.out] at XN
          have XL := tk_le xin
          have kat := fun (w' : World) (b : Below wr.heap.size wr w') (hs : t[j].1.size ≤ maxLen) => qat_spec (T.out.qa.later b) t[j].1 hs
          rw [XN, atK_none.2 XN] at kat
          simp only [Option.getD_none] at kat
          have xsz : t[j].1.size ≤ maxLen := RZ.out _ (by rw [← tk_dr r now]; exact List.mem_append_left _ xin)
          obtain ⟨x, hx⟩ : ∃ x, x = t[j] := ⟨_, rfl⟩
          have HX := hide hx
          rw [← hx] at x0 x1 XL kat xsz
          have g1 : decide (now < x.2) = false := by rw [decide_eq_false_iff_not]; omega
          clear hx xin XN
          by_cases j0 : j = 0
          · subst j0
            have g2 : decide ((0 : Int) < ((0 : Nat) : Int)) = false := by decide
            rw [show o + 0 * 2 = o from by omega] at x0 x1
            go_wp2_with fail
            go_quiet (fail)
            have TV := hide (T.out.later (below_drewN (Below.refl _ _) nq))
            have bV : Below wr.heap.size wr (wr.drewN nq) := below_drewN (Below.refl _ _) nq
            have x0' : (wr.drewN nq).cell? ⟨g, o, none⟩ = some (.string x.1) := x0
            generalize wr.drewN nq = V at TV bV x0' ⊢
            go_wp2_with (go_at_call 24; (with_reducible refine Calls.mono (kat _ bV xsz) ?_); rintro e w' ⟨rfl, rfl⟩)
            go_roundw
            case rel => exact ⟨1, rfl, by omega, TV⟩
            case measure => (first | (simp [intOf]; done) | (simp [intOf]; omega))
          · have g2 : decide ((0 : Int) < (j : Int)) = true := by rw [decide_eq_true_eq]; omega
            have g3 : decide (0 < j) = true := by rw [decide_eq_true_eq]; omega
            obtain ⟨p, hp⟩ : ∃ p, j = p + 1 := ⟨j - 1, by omega⟩
            have pl : p < t.length := by omega
            have pm : p < m := by omega
            have y := T.out.it.at_ pl
            obtain ⟨g', o', e', _, y0, y1⟩ := y
            injection e' with e'
            injection e' with e5 e6
            subst e5 e6
            have kb := before_spec t[p] x
            have lt : ltE t[p] x = true := by
              have st := Sorted.tk SR.out now
              rw [← HT.out] at st
              rw [HX.out]
              exact List.pairwise_iff_getElem.1 st p j pl jl (by omega)
            rw [lt] at kb
            obtain ⟨y, hy⟩ : ∃ y, y = t[p] := ⟨_, rfl⟩
            rw [← hy] at y0 y1 kb
            have pw : IntKind.i64.wrap ((j : Int) - 1) = (j : Int) - 1 := by rw [IntKind.wrap_i64]; omega
            have pq1 : (0 : Int) ≤ (j : Int) - 1 := by omega
            have pq2 : (j : Int) - 1 < (m : Int) := by omega
            have pt : ((j : Int) - 1).toNat = p := by omega
            have pq3 : (1 : Int) ≤ (j : Int) := by omega
            have pq4 : (j : Int) ≤ (m : Int) := by omega
            have pq5 : j ≤ m := by omega
            have pq6 : 1 ≤ j := by omega
            have pq7 : ¬ ((j : Int) - 1 < 0) := by omega
            have pq8 : j - 1 = p := by omega
            clear hy lt hp
            go_wp2_with fail
            go_region_held3 (fun w' => w'.cell? ⟨g, o + j * 2, none⟩ = some (.string x.1) ∧ w'.cell? ⟨g, o + j * 2 + 1, none⟩ = some (.int .i64 x.2) ∧ w'.cell? ⟨g, o + p * 2, none⟩ = some (.string y.1) ∧ w'.cell? ⟨g, o + p * 2 + 1, none⟩ = some (.int .i64 y.2) ∧ Keeps wr.heap.size wr w')
              ((refine (fun K => ⟨Keeps.cell K x0 gl, Keeps.cell K x1 gl, Keeps.cell K y0 gl, Keeps.cell K y1 gl, K⟩) (?_ : Keeps wr.heap.size wr _); (repeat (first | assumption | exact Keeps.start (Nat.le_refl _) | refine Keeps.drew ?_ | refine Keeps.call ?_ (by assumption)))))
              ((go_at_call 23; refine (kb _).mono ?_; rintro e w5 ⟨rfl, b5⟩; have K9 := Keeps.call (B := wr.heap.size) (W := wr) (by (repeat (first | assumption | exact Keeps.start (Nat.le_refl _) | refine Keeps.drew ?_))) b5))
            all_goals
              have T5 := hide (T.out.later K9.below)
              go_wp2_with (go_at_call 24; (with_reducible refine Calls.mono (kat _ K9.below xsz) ?_); rintro e w' ⟨rfl, rfl⟩)
              go_roundw
              case rel => exact ⟨j + 1, by go_num, by omega, T5⟩
              case measure => (first | (simp [intOf]; done) | (simp [intOf]; omega))
        · obtain rfl : j = m := by omega
          have e1 : decide ((j : Int) < (j : Int)) = false := by rw [decide_eq_false_iff_not]; omega
          have e2 : decide (j < j) = false := by rw [decide_eq_false_iff_not]; omega
          have kn := qnext_spec T.out.qa
          have dl : j + d.length = rn := by rw [HM.out, HT.out, HD.out, tk_dr_len, HRN.out]
          have kl : ∀ W', Below wr.heap.size wr W' → CalcN 18 #[.pointer (some ⟨qb, 0, none⟩)] W' (.int .i64 (d.length : Int)) := fun W' b => qlen (T.out.qa.later b)
          obtain ⟨x0, b0, hx0, hb0, hb1⟩ : ∃ (x0 : En) (b0 : Bool), nxtV d = .tuple #[enV x0, .bool b0] ∧ b0 = decide (0 < d.length) ∧ (b0 = true → now < x0.2) := by
            have SD : ∀ x ∈ d, now < x.2 := fun x hx => dr_gt SR.out (by rw [← HD.out]; exact hx)
            cases hd : d with
            | nil => exact ⟨(ByteArray.empty, 0), false, rfl, rfl, fun h => by cases h⟩
            | cons x d' => exact ⟨x, true, rfl, by simp, fun _ => SD x (by rw [hd]; exact List.mem_cons_self)⟩
          rw [hx0] at kn
          obtain ⟨dn, hdn⟩ : ∃ dn, dn = d.length := ⟨_, rfl⟩
          rw [← hdn] at dl kl hb0
          have RP : Hid (0 < i → 0 < rn) := fun q => by
            rw [HRN.out]
            exact HR.out.pos (fun e => by have := HN.out; rw [e] at this; simp at this; omega)
          have dlI : (j : Int) + (dn : Int) = (rn : Int) := by omega
          have rnb : rn ≤ 65536 := rle
          clear hx0 hdn
          have i0 : i = 0 ∨ 0 < i := by omega
          rcases i0 with i0 | i0
          · subst i0
            cases b0
            all_goals
              have hb2 := hb0
              simp only [Bool.true_eq, decide_eq_true_eq, Bool.false_eq, decide_eq_false_iff_not] at hb2
              have dp := hb0.symm
              have dpI : decide ((0 : Int) < (dn : Int)) = decide (0 < dn) := by simp
              rw [dp] at dpI
              have LN := HN.out
              have rz : (0 : Nat) < 0 → ((rn : Int) == 0) = false := fun q => by have := RP.out q; rw [beq_eq_false_iff_ne]; omega
              have rz2 : (0 : Nat) < 0 → (rn == 0) = false := fun q => by have := RP.out q; rw [beq_eq_false_iff_ne]; omega
              have xg : ∀ h : (0 : Nat) = 0, True := fun _ => trivial
              first
                | (have nx := hb1 rfl
                   have nx2 : decide (x0.2 ≤ now) = false := by rw [decide_eq_false_iff_not]; omega)
                | skip
              clear hb0 hb1 rz rz2 xg
              go_wp2_with (first
                | (go_at_call 25; refine kn.mono ?_; rintro e w4 ⟨rfl, b4⟩; have z4 := b4.size)
                | (go_at_call 18; (with_reducible refine Calls.mono (kl _ (by first | exact b4.alloc z4 _ | go_grown)) ?_); rintro e w' ⟨rfl, rfl⟩))
              have T4 := hide (T.out.later (b4.alloc z4 (.cells #[.string x0.1, .int .i64 x0.2] 43)))
              clear T T0 kn kl b4 z4
              go_loopw [17, 18, 19, 20, 21] (fun s17 s18 s19 s20 s21 wx => s17 = .int .i64 (-1) ∧ Hid (TtS W a L t d A qb kb mb v3 wx)) (fun _ _ _ _ _ _ => 0)
              case atStart => exact ⟨rfl, T4⟩
              case round =>
                obtain ⟨rfl, T2⟩ := hrel
                go_wp2_with (go_at_call 16; refine (ka _).mono ?_; rintro e w9 ⟨rfl, b9⟩)
                go_returns
                exact ⟨rfl, T2.out.below.trans (b9.mono T2.out.below.size)⟩
          · cases b0
            all_goals
              have hb2 := hb0
              simp only [Bool.true_eq, decide_eq_true_eq, Bool.false_eq, decide_eq_false_iff_not] at hb2
              have dp := hb0.symm
              have dpI : decide ((0 : Int) < (dn : Int)) = decide (0 < dn) := by simp
              rw [dp] at dpI
              have LN := HN.out
              have rz : 0 < i → ((rn : Int) == 0) = false := fun q => by have := RP.out q; rw [beq_eq_false_iff_ne]; omega
              have rz2 : 0 < i → (rn == 0) = false := fun q => by have := RP.out q; rw [beq_eq_false_iff_ne]; omega
              have c0 : decide ((0 : Int) < (i : Int)) = decide (0 < i) := by simp
              have xg : ∀ h : (0 : Nat) = 0, True := fun _ => trivial
              have i1 : 0 < i := i0
              have r1 := rz i1
              have r2 := rz2 i1
              have r3 := decide_eq_true i1
              rw [r3] at c0
              first
                | (have nx := hb1 rfl
                   have nx2 : decide (x0.2 ≤ now) = false := by rw [decide_eq_false_iff_not]; omega)
                | skip
              clear hb0 hb1 rz rz2 xg
              go_wp2_with (first
                | (go_at_call 25; refine kn.mono ?_; rintro e w4 ⟨rfl, b4⟩; have z4 := b4.size)
                | (go_at_call 18; (with_reducible refine Calls.mono (kl _ (by first | exact b4.alloc z4 _ | go_grown)) ?_); rintro e w' ⟨rfl, rfl⟩))
              have T4 := hide (T.out.later (b4.alloc z4 (.cells #[.string x0.1, .int .i64 x0.2] 43)))
              clear T T0 kn kl b4 z4
              go_loopw [17, 18, 19, 20, 21] (fun s17 s18 s19 s20 s21 wx => ∃ k : Nat, s17 = .int .i64 ((k : Int) - 1) ∧ k ≤ i ∧ Hid (TtS W a L t d A qb kb mb v3 wx)) (fun s17 _ _ _ _ _ => (intOf s17 + 1).toNat)
              case atStart => exact ⟨i, rfl, Nat.le_refl _, T4⟩
              case round =>
                obtain ⟨k, rfl, hk, T2⟩ := hrel
                by_cases big : 65536 < i
                · have g1 : decide ((i : Int) ≤ 65536) = false := by rw [decide_eq_false_iff_not]; omega
                  have g2 : decide (i ≤ 65536) = false := by rw [decide_eq_false_iff_not]; omega
                  by_cases kz : k = 0
                  · subst kz
                    have g0 : decide ((0 : Int) ≤ ((0 : Nat) : Int) - 1) = false := by decide
                    go_wp2_with (go_at_call 16; refine (ka _).mono ?_; rintro e w9 ⟨rfl, b9⟩)
                    go_returns
                    exact ⟨rfl, T2.out.below.trans (b9.mono T2.out.below.size)⟩
                  · obtain ⟨q, hq⟩ : ∃ q, k = q + 1 := ⟨k - 1, by omega⟩
                    rw [show ((k : Int) - 1) = (q : Int) from by omega]
                    have g0 : decide ((0 : Int) ≤ (q : Int)) = true := by rw [decide_eq_true_eq]; omega
                    clear hq
                    go_wp2_with (go_at_call 16; refine (ka _).mono ?_; rintro e w9 ⟨rfl, b9⟩)
                    go_returns
                    exact ⟨rfl, T2.out.below.trans (b9.mono T2.out.below.size)⟩
                · have g1 : decide ((i : Int) ≤ 65536) = true := by rw [decide_eq_true_eq]; omega
                  have g2 : decide (i ≤ 65536) = true := by rw [decide_eq_true_eq]; omega
                  by_cases kz : k = 0
                  · subst kz
                    have g0 : decide ((0 : Int) ≤ ((0 : Nat) : Int) - 1) = false := by decide
                    go_wp2_with (go_at_call 16; refine (ka _).mono ?_; rintro e w9 ⟨rfl, b9⟩)
                    go_returns
                    exact ⟨rfl, T2.out.below.trans (b9.mono T2.out.below.size)⟩
                  · obtain ⟨q, hq⟩ : ∃ q, k = q + 1 := ⟨k - 1, by omega⟩
                    rw [show ((k : Int) - 1) = (q : Int) from by omega]
                    have g0 : decide ((0 : Int) ≤ (q : Int)) = true := by rw [decide_eq_true_eq]; omega
                    have qi : q < i := by omega
                    have KE := hide hq
                    clear hq kz
                    have ql : q < L.length := by omega
                    have K : Hid (∃ key aq, key = L[q].1 ∧ aq = L[q].2) := ⟨_, _, rfl, rfl⟩
                    obtain ⟨key, aq, hkey, haq⟩ := K.out
                    have ksz : key.size ≤ maxLen := by rw [hkey]; exact HS.out _ (List.getElem_mem ql)
                    have LX : Hid ((∀ k' (h : k' < L.length), q < k' → L[k'].1 ≠ key) → hasK d key = decide (now < aq) ∧ (now < aq → atK d key = some aq)) := by
                      intro hl
                      have m := HR.out.last (by omega) q ql (fun k' hk' lt => by rw [← hkey]; exact hl k' hk' lt)
                      have := dr_has SR.out KR.out m (now := now)
                      rw [← HD.out, ← hkey, ← haq] at this
                      exact this
                    obtain ⟨g, o, hga, gl, x0, x1⟩ := T2.out.is.at_ ql
                    subst hga
                    rw [← hkey] at x0
                    rw [← haq] at x1
                    have HK := hide hkey
                    obtain ⟨av, hav⟩ : ∃ av, av = (atK d key).getD 0 := ⟨_, rfl⟩
                    obtain ⟨hv, hhv⟩ : ∃ hv, hv = hasK d key := ⟨_, rfl⟩
                    have kat := qat_spec T2.out.qa key ksz
                    rw [← hav, ← hhv] at kat
                    have HAV := hide hav
                    have HHV := hide hhv
                    clear hkey haq K hav hhv
                    go_wp2_with (go_at_call 24; refine kat.mono ?_; rintro e w' ⟨rfl, rfl⟩)
                    go_loopw [20, 21] (fun s20 s21 wy => ∃ (kk : Nat) (b : Bool), s20 = .bool b ∧ s21 = .int .i64 (kk : Int) ∧ q < kk ∧ kk ≤ i ∧ Hid (b = true → ∀ k' (h : k' < L.length), q < k' → k' < kk → L[k'].1 ≠ key) ∧ Hid (TtS W (some ⟨g, o, none⟩) L t d A qb kb mb v3 wy) ∧ wy.cell? ⟨g, o + q * 2, none⟩ = some (.string key) ∧ wy.cell? ⟨g, o + q * 2 + 1, none⟩ = some (.int .i64 aq)) (fun _ s21 _ => i - (intOf s21).toNat)
                    case atStart => exact ⟨q + 1, true, rfl, by go_num, by omega, by omega, hide (fun _ k' h h1 h2 => by omega), T2, x0, x1⟩
                    case round =>
                      obtain ⟨kk, b, rfl, rfl, hk1, hk2, HB, T3, x0, x1⟩ := hrel
                      by_cases kl' : kk < i
                      · have e1 : decide ((kk : Int) < (i : Int)) = true := by rw [decide_eq_true_eq]; omega
                        have e2 : decide (kk < i) = true := by rw [decide_eq_true_eq]; omega
                        cases b
                        · go_wp2_with fail
                          go_quiet (fail)
                          have TV := hide (T3.out.later (below_drewN (Below.refl _ _) nq))
                          have x0' : (wr.drewN nq).cell? ⟨g, o + q * 2, none⟩ = some (.string key) := x0
                          have x1' : (wr.drewN nq).cell? ⟨g, o + q * 2 + 1, none⟩ = some (.int .i64 aq) := x1
                          generalize wr.drewN nq = V at TV x0' x1' ⊢
                          go_wp2_with fail
                          go_roundw
                          case rel => exact ⟨kk + 1, false, rfl, by go_num, by omega, by omega, hide (fun h => by cases h), TV, x0', x1'⟩
                          case measure => (first | (simp [intOf]; done) | (simp [intOf]; omega))
                        · have kkl : kk < L.length := by omega
                          obtain ⟨g', o', hga', _, y0, _⟩ := T3.out.is.at_ kkl
                          injection hga' with hga'
                          injection hga' with e5 e6
                          subst e5 e6
                          obtain ⟨y, hy⟩ : ∃ y, y = L[kk].1 := ⟨_, rfl⟩
                          rw [← hy] at y0
                          have HY := hide hy
                          clear hy
                          by_cases eq : y = key
                          · subst eq
                            have f1 : (y.toList == y.toList) = true := by simp
                            go_wp2_with fail
                            go_quiet (fail)
                            have TV := hide (T3.out.later (below_drewN (Below.refl _ _) nq))
                            have x0' : (wr.drewN nq).cell? ⟨g, o + q * 2, none⟩ = some (.string y) := x0
                            have x1' : (wr.drewN nq).cell? ⟨g, o + q * 2 + 1, none⟩ = some (.int .i64 aq) := x1
                            generalize wr.drewN nq = V at TV x0' x1' ⊢
                            go_wp2_with fail
                            go_roundw
                            case rel => exact ⟨kk + 1, false, rfl, by go_num, by omega, by omega, hide (fun h => by cases h), TV, x0', x1'⟩
                            case measure => (first | (simp [intOf]; done) | (simp [intOf]; omega))
                          · have f1 : (y.toList == key.toList) = false := by
                              cases h : y.toList == key.toList
                              · rfl
                              · exact absurd (toL_inj (by simpa using h)) eq
                            have f2 : (y.toList != key.toList) = true := by simp only [bne, f1]; rfl
                            have f3 : ¬ y.toList = key.toList := fun h => eq (toL_inj h)
                            have NE := hide eq
                            clear eq
                            go_wp2_with fail
                            go_quiet (fail)
                            have TV := hide (T3.out.later (below_drewN (Below.refl _ _) nq))
                            have x0' : (wr.drewN nq).cell? ⟨g, o + q * 2, none⟩ = some (.string key) := x0
                            have x1' : (wr.drewN nq).cell? ⟨g, o + q * 2 + 1, none⟩ = some (.int .i64 aq) := x1
                            generalize wr.drewN nq = V at TV x0' x1' ⊢
                            go_wp2_with fail
                            go_roundw
                            case rel =>
                              refine ⟨kk + 1, true, rfl, by go_num, by omega, by omega, hide (fun _ k' h h1 h2 => ?_), TV, x0', x1'⟩
                              by_cases z : k' = kk
                              · subst z; rw [← HY.out]; exact NE.out
                              · exact HB.out (by trivial) k' h h1 (by omega)
                            case measure => (first | (simp [intOf]; done) | (simp [intOf]; omega))
                      · obtain rfl : kk = i := by omega
                        have e1 : decide ((kk : Int) < (kk : Int)) = false := by rw [decide_eq_false_iff_not]; omega
                        have e2 : decide (kk < kk) = false := by rw [decide_eq_false_iff_not]; omega
                        cases b
                        · go_wp2_with fail
                          go_roundw
                          case rel => exact ⟨q, (by first | rfl | go_num), by omega, T3⟩
                          case measure => (first | (simp [intOf]; done) | (simp [intOf]; omega))
                        · obtain ⟨l1, l2⟩ := LX.out (fun k' h h1 => HB.out (by trivial) k' h h1 (by omega))
                          have l3 := HHV.out.trans l1
                          by_cases na : now < aq
                          · rw [decide_eq_true na] at l3
                            have l4 := HAV.out
                            rw [l2 na] at l4
                            simp only [Option.getD_some] at l4
                            have d9 := decide_eq_true na
                            subst l3 l4
                            clear l1 l2 HHV HAV LX HB
                            go_wp2_with fail
                            go_roundw
                            case rel => exact ⟨q, (by first | rfl | go_num), by omega, T3⟩
                            case measure => (first | (simp [intOf]; done) | (simp [intOf]; omega))
                          · rw [decide_eq_false na] at l3
                            have d9 := decide_eq_false na
                            subst l3
                            clear l1 l2 HHV HAV LX HB
                            go_wp2_with fail
                            go_roundw
                            case rel => exact ⟨q, (by first | rfl | go_num), by omega, T3⟩
                            case measure => (first | (simp [intOf]; done) | (simp [intOf]; omega))
end Go.Proofs.Ytbnlhjooimppeaa
