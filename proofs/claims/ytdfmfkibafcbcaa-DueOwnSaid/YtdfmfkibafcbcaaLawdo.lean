/- due: DueOwn. -/
import Derived.Test.YtdfmfkibafcbcaaDow
import Derived.Test.YtdfmfkibafcbcaaQrd
namespace Go.Proofs.Ytdfmfkibafcbcaa
set_option linter.unusedVariables false
set_option linter.unusedSimpArgs false
open Go.RowKit W Go.Maps
def kX : ByteArray := ⟨#[120]⟩
theorem ax1 : (if hasK [] kX = true ∨ ([] : List En).length < 1 then setR [] kX 1 else []) = [(kX, 1)] := by rw [if_pos (by simp)]; rfl
theorem setx {B : Nat} {w : World} {qb kb mb : Nat} {v : Value} (h : QA B w qb kb mb 1 v []) (hB : B ≤ w.heap.size) : Calls Try.prog 13 #[.pointer (some ⟨qb, 0, none⟩), .string ⟨#[120]⟩, .int .i64 1] w (SetP B w qb kb mb 1 v [(kX, 1)] 0) := by
  have k := qset_spec h hB kX (by decide) 1
  rw [ax1, if_pos (by simp)] at k
  exact k
/-- An own row with something in it lies in a block. -/
theorem own_some {w : World} {base e sz n c : Nat} {A : Option Addr} {xs : List Value} (h : w.ownsRow base e sz (.slice A n c) n xs) (hn : 0 < n) : ∃ g, A = some ⟨g, 0, none⟩ := by
  rcases h.2 with ⟨e, z⟩ | ⟨g, cap, cur, e, _⟩
  · omega
  · injection e with e _ _; exact ⟨g, e⟩
def moreC : List Value := [.string ⟨#[109, 111, 114, 101]⟩, .int .i64 0]
set_option maxRecDepth 100000 in
set_option maxHeartbeats 4000000 in
theorem law_DueOwn (a0 : Option Addr) (n c0 : Nat) (L : List En) (now : Int) (hn : L.length = n ∧ n ≤ 140737488355328) (hsz : ∀ e ∈ L, e.1.size ≤ maxLen) (W : World) (hI : IsE W a0 L) :
    Calls Try.prog 5 #[.slice a0 n c0, .int .i64 now] W fun e w' => e = .returned (.bool true) ∧ Below W.heap.size W w' := by
  obtain ⟨hn, hn2⟩ := hn
  have k0 := qnew_ok 65536 (by decide) (by decide) W
  rw [show ((65536 : Nat) : Int) = 65536 from rfl] at k0
  have k1 := fun w => qnew_ok 1 (by decide) (by decide) w
  rw [show ((1 : Nat) : Int) = 1 from rfl] at k1
  have k2 := fun w => rnew7_ok 65536 (by decide) (by decide) w
  have ka := alive7_spec
  have HI := hide hI
  have HS := hide hsz
  have HN := hide hn
  clear hI hsz hn
  go_enter Try.func5, Try.ntmps5
  go_upto_region 4 with (first
    | (go_at_call 6; (first
        | ((with_reducible refine Calls.mono k0 ?_); rintro e w1 ⟨qb, kb, mb, rfl, q1, b1⟩)
        | ((with_reducible refine Calls.mono (k1 w1) ?_); rintro e w2 ⟨pb, kp, mp, rfl, q2, b2⟩)))
    | (go_at_call 7; refine (k2 _).mono ?_; rintro e w3 ⟨rfl, b3⟩))
  obtain ⟨W4, hW4⟩ : ∃ W4, W4 = w3.alloc (.cells #[.int .i64 65536, .slice none 0 0] 29) := ⟨_, rfl⟩
  have z1 := b1.size
  have z2 := b2.size
  have z3 := b3.size
  have b4 : Below w3.heap.size w3 W4 := by rw [hW4]; exact (Below.refl _ _).alloc (Nat.le_refl _) _
  have r4 : Bw W4 w3.heap.size 29 #[.int .i64 65536, .slice none 0 0] := by rw [hW4]; exact Bw.new w3 _ _
  rw [← hW4]
  obtain ⟨rb, hrb⟩ : ∃ rb, rb = w3.heap.size := ⟨_, rfl⟩
  rw [← hrb] at r4 ⊢
  have rbB : W.heap.size ≤ rb := by omega
  have J0 : Hid (OJ W w1.heap.size qb kb mb rb 65536 pb kp mp 1 W4 (.slice none 0 0) (.slice none 0 0) none 0 [] [] []) := by
    have o2 := q2.old
    have o1 := q1.old
    have bp := q2.bq
    have lq := q1.q.lt
    refine ⟨⟨((q1.later b2).later b3).later b4, ⟨r4, .inl rfl, Nat.le_refl _, Nat.zero_le _, fun _ e => (by cases e), fun _ => rfl, fun _ e => (by cases e)⟩, List.Pairwise.nil, Nat.zero_le _, b1.trans ((b2.mono z1).trans ((b3.mono (by omega)).trans (b4.mono (by omega)))), fun _ e => by cases e⟩, (q2.later b3).later b4, ?_, ?_, Apt.nil _, ?_, fun _ e => (by cases e), z1⟩
    · have := (o2 kp (.inl rfl)).1; have := (o1 kb (.inl rfl)).2; omega
    · have := (o2 mp (.inr (.inl rfl))).1; have := (o1 mb (.inr (.inl rfl))).2; omega
    · omega
  obtain ⟨B1, hB1⟩ : ∃ B1, B1 = w1.heap.size := ⟨_, rfl⟩
  rw [← hB1] at J0
  clear k0 k1 k2 q1 q2 b1 b2 b3 b4 r4 hW4 z1 z2 z3 hrb hB1
  go_wp2_with (go_at_call 8; refine (ka _).mono ?_; rintro e w5 ⟨rfl, b5⟩; have J5 := hide (J0.out.later b5); clear b5)
  clear J0 ka
  go_loopw [11] (fun s11 wr => ∃ (i : Nat) (v : Value) (a : Option Addr) (c : Nat) (r : List En), s11 = .int .i64 (i : Int) ∧ i ≤ n ∧ Hid (OJ W B1 qb kb mb rb 65536 pb kp mp 1 wr v (.slice none 0 0) a c r r [])) (fun s11 _ => n - (intOf s11).toNat)
  case atStart => exact ⟨0, _, _, _, [], rfl, by omega, J5⟩
  case round =>
    obtain ⟨i, v, a, c, r, rfl, hi, N⟩ := hrel
    by_cases hlt : i < n
    · have d1 : decide ((i : Int) < (n : Int)) = true := by rw [decide_eq_true_eq]; omega
      have d2 : decide (i < n) = true := by rw [decide_eq_true_eq]; omega
      have il : i < L.length := by have := HN.out; omega
      obtain ⟨g, o, rfl, gl, x0, x1⟩ := HI.out.at_ il
      have xs : L[i].1.size ≤ maxLen := HS.out _ (List.getElem_mem il)
      obtain ⟨⟨key, t⟩, hq⟩ : ∃ q, q = L[i] := ⟨_, rfl⟩
      rw [← hq] at x0 x1 xs
      dsimp only at x0 x1 xs
      have CE : Hid (∀ V, Below W.heap.size W V → V.cell? ⟨g, o + i * 2, none⟩ = some (.string key) ∧ V.cell? ⟨g, o + i * 2 + 1, none⟩ = some (.int .i64 t) ∧ g < V.heap.size) := fun V b => ⟨(b.cell (p := ⟨g, o + i * 2, none⟩) gl).trans x0, (b.cell (p := ⟨g, o + i * 2 + 1, none⟩) gl).trans x1, Nat.lt_of_lt_of_le gl b.size⟩
      obtain ⟨y0, y1, y2⟩ := CE.out wr N.out.dj.bl
      obtain ⟨C, hC⟩ : ∃ C, C = stC 65536 r key := ⟨_, rfl⟩
      obtain ⟨D, hD⟩ : ∃ D, D = stR 65536 r key t := ⟨_, rfl⟩
      have KP : Hid (∀ V, Below wr.heap.size wr V → Calls Try.prog 13 #[.pointer (some ⟨qb, 0, none⟩), .string key, .int .i64 t] V fun e w' => ∃ v', e = .returned (.int .i64 C) ∧ Hid (OJ W B1 qb kb mb rb 65536 pb kp mp 1 w' v' (.slice none 0 0) a c D r []) ∧ w'.cell? ⟨g, o + i * 2, none⟩ = some (.string key) ∧ w'.cell? ⟨g, o + i * 2 + 1, none⟩ = some (.int .i64 t) ∧ g < w'.heap.size) := fun V b => by
        rw [hC, hD]
        refine (oset (N.out.later b) key xs t).mono ?_
        rintro e w' ⟨v', rfl, o⟩
        exact ⟨v', rfl, o, CE.out w' o.out.dj.bl⟩
      have KR : Hid (∀ V v', OJ W B1 qb kb mb rb 65536 pb kp mp 1 V v' (.slice none 0 0) a c D r [] → Calls Try.prog 14 #[.pointer (some ⟨rb, 0, none⟩), .string key, .int .i64 t] V fun e w' => ∃ a' c', e = .returned (.int .i64 C) ∧ Hid (OJ W B1 qb kb mb rb 65536 pb kp mp 1 w' v' (.slice none 0 0) a' c' D D []) ∧ w'.cell? ⟨g, o + i * 2, none⟩ = some (.string key) ∧ w'.cell? ⟨g, o + i * 2 + 1, none⟩ = some (.int .i64 t) ∧ g < w'.heap.size) := fun V v' h => by
        have k := orset h rbB key t
        rw [← hC, ← hD] at k
        refine k.mono ?_
        rintro e w' ⟨a', c', rfl, o⟩
        exact ⟨a', c', rfl, o, CE.out w' o.out.dj.bl⟩
      have S0 : wr.cell? ⟨g, o + i * 2, none⟩ = some (.string key) ∧ wr.cell? ⟨g, o + i * 2 + 1, none⟩ = some (.int .i64 t) := ⟨y0, y1⟩
      clear hq hC hD x0 x1 gl
      go_wp2_with fail
      go_region_held3 (fun w' => w'.cell? ⟨g, o + i * 2, none⟩ = some (.string key) ∧ w'.cell? ⟨g, o + i * 2 + 1, none⟩ = some (.int .i64 t))
        (first | exact S0 | exact S4)
        ((go_at_call 13; (with_reducible refine Calls.mono (KP.out _ (by first | exact Below.refl _ _ | exact (Below.refl _ _).drew | exact below_drewN (Below.refl _ _) _)) ?_); rintro e w4 ⟨v4, rfl, M4, s41, s42, s43⟩; have S4 : w4.cell? ⟨g, o + i * 2, none⟩ = some (.string key) ∧ w4.cell? ⟨g, o + i * 2 + 1, none⟩ = some (.int .i64 t) := ⟨s41, s42⟩))
      go_wp2_with fail
      refine abs_wp (fun V => Hid (OJ W B1 qb kb mb rb 65536 pb kp mp 1 V v4 (.slice none 0 0) a c D r [])) (hide (M4.out.later (by first | exact Below.refl _ _ | exact (Below.refl _ _).drew | exact below_drewN (Below.refl _ _) _))) ?_
      rintro V5 M5
      obtain ⟨t0, t1, t2⟩ := CE.out V5 M5.out.dj.bl
      have S5 : V5.cell? ⟨g, o + i * 2, none⟩ = some (.string key) ∧ V5.cell? ⟨g, o + i * 2 + 1, none⟩ = some (.int .i64 t) := ⟨t0, t1⟩
      clear S0 S4 s41 s42 s43 y0 y1 y2
      go_region_held3 (fun w' => w'.cell? ⟨g, o + i * 2, none⟩ = some (.string key) ∧ w'.cell? ⟨g, o + i * 2 + 1, none⟩ = some (.int .i64 t))
        (first | exact S5 | exact S6)
        ((go_at_call 14; (with_reducible refine Calls.mono (KR.out _ _ (M5.out.later (by first | exact Below.refl _ _ | exact (Below.refl _ _).drew | exact below_drewN (Below.refl _ _) _))) ?_); rintro e w6 ⟨a6, c6, rfl, M6, s61, s62, s63⟩; have S6 : w6.cell? ⟨g, o + i * 2, none⟩ = some (.string key) ∧ w6.cell? ⟨g, o + i * 2 + 1, none⟩ = some (.int .i64 t) := ⟨s61, s62⟩))
      go_wp2_with fail
      go_roundw
      case rel => exact ⟨i + 1, v4, a6, c6, D, by go_num, by omega, hide (M6.out.later (by first | exact Below.refl _ _ | exact (Below.refl _ _).drew | exact below_drewN (Below.refl _ _) _))⟩
      case measure => (first | (simp [intOf]; done) | (simp [intOf]; omega))
    · obtain rfl : i = n := by omega
      have d1 : decide ((i : Int) < (i : Int)) = false := by rw [decide_eq_false_iff_not]; omega
      have d2 : decide (i < i) = false := by rw [decide_eq_false_iff_not]; omega
      obtain ⟨T, hT⟩ : ∃ T, T = tkR r now := ⟨_, rfl⟩
      obtain ⟨D, hD⟩ : ∃ D, D = drR r now := ⟨_, rfl⟩
      obtain ⟨m, hm⟩ : ∃ m, m = T.length := ⟨_, rfl⟩
      have tl : m ≤ 65536 := by rw [hm, hT]; have := tk_len r now; have := N.out.dj.le; omega
      have kt := otake N.out now
      rw [← hT, ← hD, ← hm] at kt
      have KR : Hid (∀ V v' Bs s, TO W B1 qb kb mb rb 65536 pb kp mp 1 V v' (.slice none 0 0) a c D r [] Bs m s (dues T) → Calls Try.prog 19 #[.pointer (some ⟨rb, 0, none⟩), .int .i64 now] V fun e w' => ∃ c1 a' c', e = .returned (.slice a m c1) ∧ Hid (IsE w' a T) ∧ Hid (TO W B1 qb kb mb rb 65536 pb kp mp 1 w' v' (.slice none 0 0) a' c' D D [] Bs m s (dues T))) := fun V v' Bs s h => by
        have k := ortake h rbB now
        rw [← hT, ← hD, ← hm] at k
        exact k
      have HM := hide hm
      clear hT hD hm
      go_wp2_with (first
        | (go_at_call 18; refine kt.mono ?_; rintro e w4 ⟨v4, A1, c1, rfl, T4⟩; have hR := KR.out _ _ _ _ T4.out)
        | (go_at_call 19; refine hR.mono ?_; rintro e w5 ⟨c5, a5, d5, rfl, I5, T5⟩
           have kS : Calls Try.prog 11 #[.slice A1 m c1, .slice a m c5] w5 fun e w' => e = .returned (.bool true) ∧ Hid (TO W B1 qb kb mb rb 65536 pb kp mp 1 w' v4 (.slice none 0 0) a5 d5 D D [] wr.heap.size m (.slice A1 m c1) (dues T)) := by
             obtain ⟨A2, c2, e2, I1⟩ := isE_own T5.out.row HM.out
             injection e2 with e2
             subst e2
             have k := rsame7_spec (c1 := c1) (c2 := c5) I1 I5.out (by have := HM.out; omega)
             rw [← HM.out] at k
             exact k.mono (fun e w' h => ⟨h.1, T5.out.later h.2⟩)
           clear hR)
        | (go_at_call 11; refine kS.mono ?_; rintro e w6 ⟨rfl, T6⟩; have kl : CalcN 10 #[.pointer (some ⟨pb, 0, none⟩)] w6 (.int .i64 0) := qlen T6.out.oj.qp)
        | (go_at_call 10; refine kl.mono ?_; rintro e w7 ⟨rfl, rfl⟩))
      obtain ⟨Bs, hBs⟩ : ∃ Bs, Bs = wr.heap.size := ⟨_, rfl⟩
      rw [← hBs] at T6
      clear hBs N kt KR T4 I5 T5 kS kl
      go_loopw [14] (fun s14 wq => ∃ (j : Nat) (xs : List Value), s14 = .int .i64 (j : Int) ∧ j ≤ m ∧ Hid (TO W B1 qb kb mb rb 65536 pb kp mp 1 wq v4 (.slice none 0 0) a5 d5 D D [] Bs m (.slice A1 m c1) xs)) (fun s14 _ => m - (intOf s14).toNat)
      case atStart => exact ⟨0, _, rfl, by omega, T6⟩
      case round =>
        obtain ⟨j, xs, rfl, hj, TQ⟩ := hrel
        by_cases hlt : j < m
        · have e1 : decide ((j : Int) < (m : Int)) = true := by rw [decide_eq_true_eq]; omega
          have e2 : decide (j < m) = true := by rw [decide_eq_true_eq]; omega
          obtain ⟨g, rfl⟩ := own_some TQ.out.row (by omega)
          have xl : xs.length = m * 2 := TQ.out.row.1
          obtain ⟨lk, fz, gl, _⟩ := row_look TQ.out.row
          have s0 := lk (j * 2) _ (List.getElem?_eq_getElem (by omega))
          have s1 := lk (j * 2 + 1) _ (List.getElem?_eq_getElem (by omega))
          have f0 := fz (j * 2)
          have f1 := fz (j * 2 + 1)
          have TN := hide ((TQ.out.put (j * 2) (by omega) (.string ⟨#[116, 117, 114, 110, 101, 100]⟩)).put (j * 2 + 1) (by omega) (.int .i64 now))
          generalize xs[j * 2]'(by omega) = u0 at s0
          generalize xs[j * 2 + 1]'(by omega) = u1 at s1
          clear lk fz TQ
          go_wp2_with fail
          go_roundw
          case rel => exact ⟨j + 1, _, by go_num, by omega, TN⟩
          case measure => (first | (simp [intOf]; done) | (simp [intOf]; omega))
        · obtain rfl : j = m := by omega
          have e1 : decide ((j : Int) < (j : Int)) = false := by rw [decide_eq_false_iff_not]; omega
          have e2 : decide (j < j) = false := by rw [decide_eq_false_iff_not]; omega
          obtain ⟨i0, hi0⟩ : ∃ i0, Hid (Try.prog.info? 43 = some i0 ∧ i0.zero = some (.agg #[.string ByteArray.empty, .int .i64 0]) ∧ i0.size = 2 ∧ i0.bytes = 24) := by
            obtain ⟨i0, h1, h2, h3, h4⟩ := info_parts info_due
            exact ⟨i0, h1, h2, h3, h4⟩
          have bz := TQ.out.bz
          go_upto_region 19 with fail
          go_upto_region 20 with (first
          | (at_builtin
             refine wpList_append_own_at _ rfl _ _ 27 rfl Bs 43 i0 (.agg #[.string ByteArray.empty, .int .i64 0]) 2 24 Try.underlying27 hi0.out.1 hi0.out.2.1 hi0.out.2.2.1 hi0.out.2.2.2 ?a1 ?a2 (.slice A1 j c1) j xs ?a3 ?a4 ⟨wr.heap.size, 0, none⟩ 1 1 moreC ?a5 ?a6 ?a7 ?a8 ?a9 ?b1 ?b2 ?_
             case a1 => rfl
             case a2 => decide
             case a3 => rfl
             case a4 => exact TQ.out.row.alloc _
             case a5 => rfl
             case a6 => rfl
             case a7 => (unfold moreC; exact cells_new' _ _ _ _ (by simp))
             case a8 => (unfold moreC; intro u hu; simp at hu; rcases hu with rfl | rfl <;> rfl)
             case a9 => (unfold maxLen; omega)
             case b1 => omega
             case b2 => (simp; omega)
             intro v5 w5 hown hgrow _ hat
             obtain ⟨A5, c5', rfl, _, _⟩ := own_form hown
             have O5 : Hid (OJ W B1 qb kb mb rb 65536 pb kp mp 1 w5 v4 (.slice none 0 0) a5 d5 D D []) := hide (TQ.out.chg ((Chg.of_below (S := fun k => (Value.slice A1 j c1).ownBlock = some k) ((Below.refl _ _).alloc (Nat.le_refl _) _)).trans (Chg.grown hgrow (fun k e => e)) (fun _ _ q => q)))
             clear hown hgrow hat))
          clear TQ bz
          obtain ⟨k, hk⟩ : ∃ k, k = D.length := ⟨_, rfl⟩
          obtain ⟨mm, hmm⟩ : ∃ m : Int, m = (k : Int) + 1 := ⟨_, rfl⟩
          have kl : k ≤ 65536 := by rw [hk]; exact O5.out.dj.le
          have wm : IntKind.i64.wrap ((k : Int) + 1) = mm := by rw [IntKind.wrap_i64]; omega
          have E := hide (O5.out.dj.endK hk hmm)
          have S0 := E.out.cell w5 (Below.refl _ _)
          have lr := E.out.lt
          have kk : ((k : Int) == (k : Int)) = true := by simp
          have wj : IntKind.i64.wrap ((j : Int) + 1) = (j : Int) + 1 := by rw [IntKind.wrap_i64]; omega
          have jj : ((j : Int) + 1 == (j : Int) + 1) = true := by simp
          have KP : Hid (∀ V, Below w5.heap.size w5 V → Calls Try.prog 13 #[.pointer (some ⟨pb, 0, none⟩), .string ⟨#[120]⟩, .int .i64 1] V fun e w' => ∃ vp', e = .returned (.int .i64 0) ∧ Hid (OJ W B1 qb kb mb rb 65536 pb kp mp 1 w' v4 vp' a5 d5 D D [(kX, 1)]) ∧ w'.cell? ⟨rb, 1, none⟩ = some (.slice a5 k d5)) := fun V b => by
            have o := O5.out.later b
            refine (setx o.qp (Nat.le_trans (Nat.le_of_lt (Nat.lt_of_le_of_lt o.qp.bq o.qp.q.lt)) (Nat.le_refl _))).mono ?_
            rintro e w' ⟨vp', rfl, q, C, m⟩
            have o2 := o.p q C m
            exact ⟨vp', rfl, o2, by rw [hk]; exact o2.dj.rq.r.cell 1 _ rfl⟩
          have LP : Hid (∀ V vp', OJ W B1 qb kb mb rb 65536 pb kp mp 1 V v4 vp' a5 d5 D D [(kX, 1)] → CalcN 10 #[.pointer (some ⟨pb, 0, none⟩)] V (.int .i64 1)) := fun V vp' o => qlen o.qp
          have LQ : Hid (∀ V vp', OJ W B1 qb kb mb rb 65536 pb kp mp 1 V v4 vp' a5 d5 D D [(kX, 1)] → CalcN 10 #[.pointer (some ⟨qb, 0, none⟩)] V (.int .i64 (k : Int))) := fun V vp' o => by rw [hk]; exact qlen o.dj.qa
          clear hk hmm O5
          go_region_held3 (fun w' => w'.cell? ⟨rb, 1, none⟩ = some (.slice a5 k d5))
            (first | exact S0 | exact S7 | exact S8 | exact S9 | with_reducible assumption)
            (first
              | (go_at_call 12; (with_reducible refine Calls.mono (E.out.all _ (by first | exact Below.refl _ _ | exact (Below.refl _ _).drew | exact below_drewN (Below.refl _ _) _)) ?_); rintro e w7 ⟨a7, c7, rfl, I7, B7, S7⟩)
              | (go_at_call 11; (with_reducible refine Calls.mono (E.out.same _ a7 c7 (by first | exact B7.out | exact B7.out.drew | exact below_drewN B7.out _) (I7.out.later (by first | exact Below.refl _ _ | exact (Below.refl _ _).drew | exact below_drewN (Below.refl _ _) _))) ?_); rintro e w8 ⟨rfl, B8, S8⟩)
              | (go_at_call 13; (with_reducible refine Calls.mono (KP.out _ (by first | exact B8.out | exact B8.out.drew | exact below_drewN B8.out _)) ?_); rintro e w9 ⟨vp9, rfl, O9, S9⟩)
              | (go_at_call 10; (first
                  | ((with_reducible refine Calls.mono (LP.out _ vp9 (O9.out.later (by first | exact Below.refl _ _ | exact (Below.refl _ _).drew | exact below_drewN (Below.refl _ _) _))) ?_); rintro e wA ⟨rfl, rfl⟩)
                  | ((with_reducible refine Calls.mono (LQ.out _ vp9 (O9.out.later (by first | exact Below.refl _ _ | exact (Below.refl _ _).drew | exact below_drewN (Below.refl _ _) _))) ?_); rintro e wB ⟨rfl, rfl⟩))))
          all_goals
            go_wp2_with fail
            go_returns
            exact ⟨rfl, (O9.out.later (by first | exact Below.refl _ _ | exact (Below.refl _ _).drew | exact below_drewN (Below.refl _ _) _)).dj.bl⟩
end Go.Proofs.Ytdfmfkibafcbcaa
