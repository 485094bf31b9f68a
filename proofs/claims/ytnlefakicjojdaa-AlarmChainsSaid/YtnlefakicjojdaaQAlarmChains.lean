/- Texts that belong together: Lawad FAlarmChains. -/
import Derived.Test.YtnlefakicjojdaaG06
import Derived.Test.YtnlefakicjojdaaRows
import Derived.Test.YtnlefakicjojdaaG04
import Derived.WalkKit
import Derived.ProofKit
import Derived.OpenShut
import Derived.ShutString
import Derived.ChangeOld
import Derived.Below
import Derived.SizedLaws
import Derived.Deep.SlicePairs
set_option linter.unusedSimpArgs false
set_option linter.unusedVariables false
/- AlarmChains: the law's walk. -/
namespace Go.Proofs.Ytnlefakicjojdaa
set_option linter.unusedVariables false
set_option linter.unusedSimpArgs false
open Go.RowKit W Go.Maps
theorem muR_yes {t : Int} (a : 0 ≤ t ∧ t ≤ 1099511627775) : muR t = 0 := by unfold muR; rw [if_pos a]
theorem muR_no {t : Int} (a : ¬ (0 ≤ t ∧ t ≤ 1099511627775)) : muR t = 1 := by unfold muR; rw [if_neg a]
theorem muS_yes {s : St} {t : Int} (a : 0 ≤ t ∧ t ≤ 1099511627775) : muS s t = { s with mute := t } := by unfold muS; rw [if_pos a]
theorem muS_no {s : St} {t : Int} (a : ¬ (0 ≤ t ∧ t ≤ 1099511627775)) : muS s t = s := by unfold muS; rw [if_neg a]
theorem say_facts {R : Ru} {s : St} {t : Int} (h : sayB R s t = true) : s.mute ≤ t ∧ (s.st = s.said → s.st ≠ 1 ∧ 0 < R.ag) := by
  unfold sayB at h
  obtain ⟨a, b⟩ := of_decide_eq_true h
  refine ⟨a, fun e => ?_⟩
  have := b e
  unfold dueB at this
  have := of_decide_eq_true this
  exact ⟨this.1, this.2.1⟩
theorem mum_facts {R : Ru} {s : St} {t : Int} (h : sayB R s t = false) : t < s.mute ∨ s.st = s.said := by
  unfold sayB at h
  have := of_decide_eq_false h
  by_cases a : t < s.mute
  · exact .inl a
  · right
    by_cases e : s.st = s.said
    · exact e
    · exact absurd ⟨by omega, fun z => absurd z e⟩ this
set_option maxRecDepth 100000 in
set_option maxHeartbeats 8000000 in
theorem chains_no (R : Ru) (i : RuW R) (hs : R.nm.size ≤ maxLen) (m : mayB R = false) (l : Value) (w : World) : Calls Try.prog 4 #[ruV R, l] w fun e w' => e = .returned (.bool true) ∧ Below w.heap.size w w' := by
  have kO := one_no R i hs m
  have BW : Below w.heap.size w (w.alloc (.cells (ruL R).toArray 53)) := (Below.refl _ _).alloc (Nat.le_refl _) _
  clear i m
  unfold ruV at *
  go_enter Try.func4, Try.ntmps4
  go_wp2_with fail
  refine (kO _).mono ?_
  rintro e w2 ⟨rfl, k2⟩
  have B2 : Hid (Below w.heap.size w w2) := BW.trans (k2.mono BW.size)
  clear k2 BW
  go_wp2_with fail
  refine (alive_spec _).mono ?_
  rintro e w3 ⟨rfl, k3⟩
  have B3 : Hid (Below w.heap.size w w3) := B2.out.trans (k3.mono B2.out.size)
  clear k3
  go_wp2_with fail
  go_returns
  exact ⟨rfl, B3.out⟩
set_option maxRecDepth 100000 in
set_option maxHeartbeats 16000000 in
theorem chains_yes (R : Ru) (i : RuW R) (hs : R.nm.size ≤ maxLen) (m : mayB R = true) (a : Option Addr) (n cap : Nat) (L : List Op6) (hn : L.length = n) (hn8 : n ≤ 140737488355328) (w : World) (hL : IsSc w a L) : Calls Try.prog 4 #[ruV R, .slice a n cap] w fun e w' => e = .returned (.bool true) ∧ Below w.heap.size w w' := by
  have kO := one_yes R i hs m
  have RB := hide (Row.new w (ruL R) 53 _ rfl)
  have BW : Below w.heap.size w (w.alloc (.cells (ruL R).toArray 53)) := (Below.refl _ _).alloc (Nat.le_refl _) _
  have HL := hide hL
  have HN := hide hn
  have HS := hide hs
  clear i m hL hn hs
  unfold ruV at *
  go_enter Try.func4, Try.ntmps4
  go_wp2_with fail
  refine Calls.mono (kO _) ?_
  rintro e w2 ⟨bb, mb, b, rfl, bk, l1, l2, l3, k2⟩
  have CH : Hid (ChR w w2 bb mb b R st0) := ch_start bk (RB.out.later k2) (BW.trans (k2.mono BW.size)) (by have q : w.heap.size + 1 ≤ b := (by simpa using l3); omega)
  clear kO k2 BW RB bk l1 l2 l3
  go_wp2_with fail
  go_loopw [8, 9, 10, 11] (fun sd mu la i wr => ∃ (k : Nat) (s : St), k ≤ n ∧ sd = .int .i64 s.said ∧ mu = .int .i64 s.mute ∧ la = .int .i64 s.last ∧ i = .int .i64 k ∧ Hid (ChR w wr bb mb b R s)) (fun _ _ _ i _ => n - (intOf i).toNat)
  case atStart => exact ⟨0, st0, by omega, rfl, rfl, rfl, rfl, CH⟩
  case round =>
    obtain ⟨k, s, hk, rfl, rfl, rfl, rfl, CR⟩ := hrel
    by_cases hlt : k < n
    · have kL : k < L.length := by have := HN.out; omega
      obtain ⟨g, o, rfl, SA⟩ := HL.out.2.resolve_left (by intro e; rw [e] at kL; simp at kL)
      have SC := SA.later CR.out.below
      obtain ⟨q, hq⟩ : ∃ q, q = L[k] := ⟨_, rfl⟩
      have IV := hide (HL.out.1 q (by rw [hq]; exact List.getElem_mem _)).1
      have RC := fun j v => SC.cell k kL j v
      rw [← hq] at RC
      obtain ⟨kd, nm, t, is, v1, v0⟩ := q
      simp only at IV
      have r0 : wr.cell? ⟨g, o + k * 6, none⟩ = some (.int .i64 kd) := RC 0 _ rfl
      have r1 := RC 1 _ rfl
      have r2 := RC 2 _ rfl
      have r3 := RC 3 _ rfl
      have r4 := RC 4 _ rfl
      have r5 := RC 5 _ rfl
      simp only at r1 r2 r3 r4 r5
      have hlt' : (k : Int) < (n : Int) := by omega
      have RO := hide (Row.new wr [.int .i64 kd, .string nm, .int .i64 t, .bool is, .int .i64 v1, .int .u64 v0] 40 _ rfl)
      have BO : Below wr.heap.size wr (wr.alloc (.cells [.int .i64 kd, .string nm, .int .i64 t, .bool is, .int .i64 v1, .int .u64 v0].toArray 40)) := (Below.refl _ _).alloc (Nat.le_refl _) _
      have C1 := hide (CR.out.later BO)
      have d0 := CR.out.rl.at0 0 _ rfl
      have ld := CR.out.rl.lt
      have lbr : b < wr.heap.size := (CR.out.bk.wat _ List.mem_cons_self).lt
      clear RC SC SA hq kL BO
      by_cases k2 : kd = 2
      · subst k2
        by_cases ra : 0 ≤ t ∧ t ≤ 1099511627775
        · as_aux_lemma =>
            have kM := ch_mute C1.out HS.out t
            rw [muR_yes ra, muS_yes ra] at kM
            have ra1 : ¬ t < 0 := by omega
            have ra2 := ra.2
            clear ra
            go_wp2_with fail
            refine Calls.mono kM ?_
            rintro e w5 ⟨rfl, c5, m5⟩
            have C5 := hide c5
            have RO5 := hide (RO.out.mod m5 (by simp; omega))
            have z2 := RO5.out.at0 2 _ rfl
            have lz := RO5.out.lt
            clear c5 m5 kM r0 r1 r2 r3 r4 r5
            go_wp2_with fail
            go_roundw
            case rel => exact ⟨k + 1, { s with mute := t }, by omega, rfl, rfl, rfl, by go_num, C5⟩
            case measure => simp [intOf]; omega
        · have kM := ch_mute C1.out HS.out t
          rw [muR_no ra, muS_no ra] at kM
          by_cases t0 : t < 0
          · as_aux_lemma =>
              have t1 : ¬ 0 ≤ t := by omega
              clear ra
              go_wp2_with fail
              refine Calls.mono kM ?_
              rintro e w5 ⟨rfl, c5, m5⟩
              have C5 := hide c5
              clear c5 m5 kM r0 r1 r2 r3 r4 r5
              go_wp2_with fail
              go_roundw
              case rel => exact ⟨k + 1, s, by omega, rfl, rfl, rfl, by go_num, C5⟩
              case measure => simp [intOf]; omega
          · as_aux_lemma =>
              have t1 : ¬ t ≤ 1099511627775 := by omega
              clear ra
              go_wp2_with fail
              refine Calls.mono kM ?_
              rintro e w5 ⟨rfl, c5, m5⟩
              have C5 := hide c5
              clear c5 m5 kM r0 r1 r2 r3 r4 r5
              go_wp2_with fail
              go_roundw
              case rel => exact ⟨k + 1, s, by omega, rfl, rfl, rfl, by go_num, C5⟩
              case measure => simp [intOf]; omega
      · have k2' : (kd == 2) = false := by simpa using k2
        clear k2
        by_cases ra : 0 ≤ t ∧ t ≤ 1099511627775
        · have ra1 : ¬ t < 0 := by omega
          have ra2 := ra.2
          have RR := hide ra
          clear ra
          go_wp2_with fail
          clear r0 r1 r2 r3 r4 r5
          by_cases pa : t ≤ s.last
          · as_aux_lemma =>
              have kF := ch_no C1.out HS.out t v1 v0 232 is IV.out (by unfold feE; rw [if_pos RR.out, if_pos pa]) (by decide)
              have pa' : ¬ s.last < t := by omega
              refine Calls.mono kF ?_
              rintro e w5 ⟨rfl, c5, m5⟩
              have C5 := hide c5
              have RO5 := hide (RO.out.mod m5 (by simp; omega))
              have z2 := RO5.out.at0 2 _ rfl
              have lz := RO5.out.lt
              clear c5 m5 kF
              go_wp2_with fail
              go_roundw
              case rel => exact ⟨k + 1, s, by omega, rfl, rfl, rfl, by go_num, C5⟩
              case measure => simp [intOf]; omega
          · have fe : feE s t = 0 := by unfold feE; rw [if_pos RR.out, if_neg pa]
            have pa' : s.last < t := by omega
            obtain ⟨s1, hs1⟩ : ∃ s1, stepS R s t is (V v1 v0) = s1 := ⟨_, rfl⟩
            have KP := stepS_keeps R s t is (V v1 v0)
            have ST := stepS_st R s t is (V v1 v0) CR.out.st.1
            rw [hs1] at KP ST
            obtain ⟨p1, p2, p3, p4⟩ := KP
            obtain ⟨q1, q2⟩ := ST
            cases hb : sayB R s1 t
            · have kF := ch_mum C1.out HS.out t v1 v0 is IV.out fe hs1 hb
              have MF := mum_facts hb
              rw [p1, p4] at MF
              have g1 : ¬ s1.st < 1 := by omega
              have g2 : ¬ 4 < s1.st := by omega
              clear pa hb hs1 fe q1 q2
              refine Calls.mono kF ?_
              rintro e w5 ⟨rfl, c5, m5⟩
              have C5 := hide c5
              have RO5 := hide (RO.out.mod m5 (by simp; omega))
              have z2 := RO5.out.at0 2 _ rfl
              have lz := RO5.out.lt
              have y0 := c5.rl.at0 0 _ rfl
              have ly := c5.rl.lt
              have kS := ch_state c5 HS.out
              clear c5 m5 kF
              go_wp2_with fail
              by_cases mu : t < s.mute
              · as_aux_lemma =>
                  have mu' : ¬ s.mute ≤ t := by omega
                  clear MF
                  refine Calls.mono kS ?_
                  rintro e w' ⟨rfl, rfl⟩
                  go_wp2_with fail
                  go_roundw
                  case rel => exact ⟨k + 1, s1, by omega, by rw [p1], by rw [p4], by rw [p3], by go_num, C5⟩
                  case measure => simp [intOf]; omega
              · as_aux_lemma =>
                  have e9 : s1.st = s.said := MF.resolve_left mu
                  have mu' : s.mute ≤ t := by omega
                  rw [e9] at kS g1 g2
                  clear MF
                  refine Calls.mono kS ?_
                  rintro e w' ⟨rfl, rfl⟩
                  go_wp2_with fail
                  go_roundw
                  case rel => exact ⟨k + 1, s1, by omega, by rw [p1], by rw [p4], by rw [p3], by go_num, C5⟩
                  case measure => simp [intOf]; omega
            · have kF := ch_word C1.out HS.out t v1 v0 is IV.out fe hs1 hb
              have SF := say_facts hb
              rw [p1] at kF
              rw [p1, p4] at SF
              have g1 : ¬ s1.st < 1 := by omega
              have g2 : ¬ 4 < s1.st := by omega
              have mu : s.mute ≤ t := SF.1
              have mu' : ¬ t < s.mute := by omega
              have SF2 := SF.2
              clear pa hb hs1 fe q1 q2 SF
              refine Calls.mono kF ?_
              rintro e w5 ⟨ga, rfl, rw5, c5, m5⟩
              have C5 := hide c5
              have RA := hide rw5
              have RO5 := hide (RO.out.mod m5 (by simp; omega))
              have lz := RO5.out.lt
              have y0 := c5.rl.at0 0 _ rfl
              have y10 := c5.rl.at0 10 _ rfl
              have ly := c5.rl.lt
              have kS := ch_state c5 HS.out
              simp only at kS
              have z2 := RO5.out.at0 2 _ rfl
              have z3 := RO5.out.at0 3 _ rfl
              have z4 := RO5.out.at0 4 _ rfl
              have z5 := RO5.out.at0 5 _ rfl
              have x0 := RA.out.at0 0 _ rfl
              have x1 := RA.out.at0 1 _ rfl
              have x2 := RA.out.at0 2 _ rfl
              have x3 := RA.out.at0 3 _ rfl
              have x4 := RA.out.at0 4 _ rfl
              have x5 := RA.out.at0 5 _ rfl
              have x6 := RA.out.at0 6 _ rfl
              have x7 := RA.out.at0 7 _ rfl
              have lx := RA.out.lt
              clear c5 m5 kF
              have NXT : Hid (∀ W', Below w5.heap.size w5 W' → ChR w W' bb mb b R { s1 with said := s1.st, when := t }) := fun W' kk => C5.out.later kk
              go_wp2_with fail
              by_cases e : s1.st = s.said
              · obtain ⟨n1, n2⟩ := SF2 e
                have n1' : (s.said == 1) = false := by rw [← e]; simpa using n1
                have n2' : (R.ag == 0) = false := by simp; omega
                rw [decide_eq_true e] at x4
                rw [e] at x3 kS g1 g2
                have P3 := hide p3
                have P4 := hide p4
                have EE := hide e
                clear SF2 n1 n2 p1 p3 p4 e
                cases is
                · as_aux_lemma =>
                  refine Calls.mono kS ?_
                  rintro e w' ⟨rfl, rfl⟩
                  simp only [if_false, Bool.false_eq_true] at x6 x7
                  have ne1 : ∀ w, (binOp .neq 38 (.agg #[.bool false, .int .i64 0, .int .u64 0]) (.agg #[.bool false, .int .i64 0, .int .u64 0])).run Try.prog w = .ok (.bool false) w := fun w => by rw [neq38]; rfl
                  have ne2 : ∀ w, (binOp .neq 9 (.string R.nm) (.string R.nm)).run Try.prog w = .ok (.bool false) w := fun w => by simp [go_sem]
                  clear rw5 RA C1 d0 ld lbr CR HL IV HN RO
                  go_upto_region 26 with (fail)
                  clear kS
                  go_wp2_with fail
                  go_roundw
                  case rel => exact ⟨k + 1, { s1 with said := s1.st, when := t }, by omega, by simp only [EE.out], by simp only [P4.out], by simp only [P3.out], by go_num, hide (NXT.out _ ((Below.refl _ _).alloc (Nat.le_refl _) _))⟩
                  case measure => simp [intOf]; omega
                · as_aux_lemma =>
                  refine Calls.mono kS ?_
                  rintro e w' ⟨rfl, rfl⟩
                  simp only [if_true] at x6 x7
                  have ne1 : ∀ w, (binOp .neq 38 (.agg #[.bool true, .int .i64 v1, .int .u64 v0]) (.agg #[.bool true, .int .i64 v1, .int .u64 v0])).run Try.prog w = .ok (.bool false) w := fun w => by rw [neq38]; simp
                  have ne2 : ∀ w, (binOp .neq 9 (.string R.nm) (.string R.nm)).run Try.prog w = .ok (.bool false) w := fun w => by simp [go_sem]
                  clear rw5 RA C1 d0 ld lbr CR HL IV HN RO
                  go_upto_region 26 with (fail)
                  clear kS
                  go_wp2_with fail
                  go_roundw
                  case rel => exact ⟨k + 1, { s1 with said := s1.st, when := t }, by omega, by simp only [EE.out], by simp only [P4.out], by simp only [P3.out], by go_num, hide (NXT.out _ ((Below.refl _ _).alloc (Nat.le_refl _) _))⟩
                  case measure => simp [intOf]; omega
              · rw [decide_eq_false e] at x4
                have e' : (s.said == s1.st) = false := by simpa using fun z => e z.symm
                have P3 := hide p3
                have P4 := hide p4
                clear SF2 p1 p3 p4 e
                cases is
                · as_aux_lemma =>
                  refine Calls.mono kS ?_
                  rintro e w' ⟨rfl, rfl⟩
                  simp only [if_false, Bool.false_eq_true] at x6 x7
                  have ne1 : ∀ w, (binOp .neq 38 (.agg #[.bool false, .int .i64 0, .int .u64 0]) (.agg #[.bool false, .int .i64 0, .int .u64 0])).run Try.prog w = .ok (.bool false) w := fun w => by rw [neq38]; rfl
                  have ne2 : ∀ w, (binOp .neq 9 (.string R.nm) (.string R.nm)).run Try.prog w = .ok (.bool false) w := fun w => by simp [go_sem]
                  clear rw5 RA C1 d0 ld lbr CR HL IV HN RO
                  generalize hq1 : s1.st = q1 at x3 g1 g2 e' ⊢
                  have HQ1 := hide hq1
                  clear hq1
                  generalize hq2 : s.said = q2 at x2 e' ⊢
                  have HQ2 := hide hq2
                  clear hq2
                  go_upto_region 27 with (fail)
                  refine abs_wp (fun W => Hid (Row W w5.heap.size 0 [.string R.nm, .int .i64 t, .int .i64 q2, .int .i64 q1, .bool false, .bool false, .int .i64 0, .int .u64 0]) ∧ Hid (Below w5.heap.size w5 W)) ⟨hide (Row.new' w5 [.string R.nm, .int .i64 t, .int .i64 q2, .int .i64 q1, .bool false, .bool false, .int .i64 0, .int .u64 0] 58 w5.heap.size rfl), hide ((Below.refl _ _).alloc (Nat.le_refl _) _)⟩ ?_
                  rintro W6 ⟨A6, B6⟩
                  have y0 := (B6.out.cell (p := ⟨w.heap.size, 0, none⟩) ly).trans y0
                  obtain ⟨a0, a1, a2, a3, a4, a5, a6, a7⟩ : W6.cell? ⟨w5.heap.size, 0, none⟩ = some (.string R.nm) ∧ W6.cell? ⟨w5.heap.size, 1, none⟩ = some (.int .i64 t) ∧ W6.cell? ⟨w5.heap.size, 2, none⟩ = some (.int .i64 q2) ∧ W6.cell? ⟨w5.heap.size, 3, none⟩ = some (.int .i64 q1) ∧ W6.cell? ⟨w5.heap.size, 4, none⟩ = some (.bool false) ∧ W6.cell? ⟨w5.heap.size, 5, none⟩ = some (.bool false) ∧ W6.cell? ⟨w5.heap.size, 6, none⟩ = some (.int .i64 0) ∧ W6.cell? ⟨w5.heap.size, 7, none⟩ = some (.int .u64 0) := ⟨A6.out.at0 0 _ rfl, A6.out.at0 1 _ rfl, A6.out.at0 2 _ rfl, A6.out.at0 3 _ rfl, A6.out.at0 4 _ rfl, A6.out.at0 5 _ rfl, A6.out.at0 6 _ rfl, A6.out.at0 7 _ rfl⟩
                  have z2 := (B6.out.cell (p := ⟨wr.heap.size, 2, none⟩) lz).trans z2
                  have z3 := (B6.out.cell (p := ⟨wr.heap.size, 3, none⟩) lz).trans z3
                  have z4 := (B6.out.cell (p := ⟨wr.heap.size, 4, none⟩) lz).trans z4
                  have z5 := (B6.out.cell (p := ⟨wr.heap.size, 5, none⟩) lz).trans z5
                  have y10 := (B6.out.cell (p := ⟨w.heap.size, 10, none⟩) ly).trans y10
                  have la := A6.out.lt
                  have ly6 := Nat.lt_of_lt_of_le ly B6.out.size
                  have lz6 := Nat.lt_of_lt_of_le lz B6.out.size
                  clear lx x0 x1 x2 x3 x4 x5 x6 x7
                  have n1 : (q2 != q1) = true := by simpa using e'
                  have n2 : ¬ q2 = q1 := by simpa using e'
                  have n3 : decide (q2 = q1) = false := by simpa using e'
                  simp only [List.cons_append, List.nil_append, List.append_eq]
                  go_wp2_with fail
                  go_roundw
                  case rel => exact ⟨k + 1, { s1 with said := s1.st, when := t }, by omega, by simp only [HQ1.out], by simp only [P4.out], by simp only [P3.out], by go_num, hide (NXT.out _ B6.out)⟩
                  case measure => simp [intOf]; omega
                · as_aux_lemma =>
                  refine Calls.mono kS ?_
                  rintro e w' ⟨rfl, rfl⟩
                  simp only [if_true] at x6 x7
                  have ne1 : ∀ w, (binOp .neq 38 (.agg #[.bool true, .int .i64 v1, .int .u64 v0]) (.agg #[.bool true, .int .i64 v1, .int .u64 v0])).run Try.prog w = .ok (.bool false) w := fun w => by rw [neq38]; simp
                  have ne2 : ∀ w, (binOp .neq 9 (.string R.nm) (.string R.nm)).run Try.prog w = .ok (.bool false) w := fun w => by simp [go_sem]
                  clear rw5 RA C1 d0 ld lbr CR HL IV HN RO
                  generalize hq1 : s1.st = q1 at x3 g1 g2 e' ⊢
                  have HQ1 := hide hq1
                  clear hq1
                  generalize hq2 : s.said = q2 at x2 e' ⊢
                  have HQ2 := hide hq2
                  clear hq2
                  go_upto_region 27 with (fail)
                  refine abs_wp (fun W => Hid (Row W w5.heap.size 0 [.string R.nm, .int .i64 t, .int .i64 q2, .int .i64 q1, .bool false, .bool true, .int .i64 v1, .int .u64 v0]) ∧ Hid (Below w5.heap.size w5 W)) ⟨hide (Row.new' w5 [.string R.nm, .int .i64 t, .int .i64 q2, .int .i64 q1, .bool false, .bool true, .int .i64 v1, .int .u64 v0] 58 w5.heap.size rfl), hide ((Below.refl _ _).alloc (Nat.le_refl _) _)⟩ ?_
                  rintro W6 ⟨A6, B6⟩
                  have y0 := (B6.out.cell (p := ⟨w.heap.size, 0, none⟩) ly).trans y0
                  obtain ⟨a0, a1, a2, a3, a4, a5, a6, a7⟩ : W6.cell? ⟨w5.heap.size, 0, none⟩ = some (.string R.nm) ∧ W6.cell? ⟨w5.heap.size, 1, none⟩ = some (.int .i64 t) ∧ W6.cell? ⟨w5.heap.size, 2, none⟩ = some (.int .i64 q2) ∧ W6.cell? ⟨w5.heap.size, 3, none⟩ = some (.int .i64 q1) ∧ W6.cell? ⟨w5.heap.size, 4, none⟩ = some (.bool false) ∧ W6.cell? ⟨w5.heap.size, 5, none⟩ = some (.bool true) ∧ W6.cell? ⟨w5.heap.size, 6, none⟩ = some (.int .i64 v1) ∧ W6.cell? ⟨w5.heap.size, 7, none⟩ = some (.int .u64 v0) := ⟨A6.out.at0 0 _ rfl, A6.out.at0 1 _ rfl, A6.out.at0 2 _ rfl, A6.out.at0 3 _ rfl, A6.out.at0 4 _ rfl, A6.out.at0 5 _ rfl, A6.out.at0 6 _ rfl, A6.out.at0 7 _ rfl⟩
                  have z2 := (B6.out.cell (p := ⟨wr.heap.size, 2, none⟩) lz).trans z2
                  have z3 := (B6.out.cell (p := ⟨wr.heap.size, 3, none⟩) lz).trans z3
                  have z4 := (B6.out.cell (p := ⟨wr.heap.size, 4, none⟩) lz).trans z4
                  have z5 := (B6.out.cell (p := ⟨wr.heap.size, 5, none⟩) lz).trans z5
                  have y10 := (B6.out.cell (p := ⟨w.heap.size, 10, none⟩) ly).trans y10
                  have la := A6.out.lt
                  have ly6 := Nat.lt_of_lt_of_le ly B6.out.size
                  have lz6 := Nat.lt_of_lt_of_le lz B6.out.size
                  clear lx x0 x1 x2 x3 x4 x5 x6 x7
                  have n1 : (q2 != q1) = true := by simpa using e'
                  have n2 : ¬ q2 = q1 := by simpa using e'
                  have n3 : decide (q2 = q1) = false := by simpa using e'
                  simp only [List.cons_append, List.nil_append, List.append_eq]
                  go_wp2_with fail
                  go_roundw
                  case rel => exact ⟨k + 1, { s1 with said := s1.st, when := t }, by omega, by simp only [HQ1.out], by simp only [P4.out], by simp only [P3.out], by go_num, hide (NXT.out _ B6.out)⟩
                  case measure => simp [intOf]; omega
        · have kF := ch_no C1.out HS.out t v1 v0 1 is IV.out (by unfold feE; rw [if_neg ra]) (by decide)
          by_cases t0 : t < 0
          · as_aux_lemma =>
              have t1 : ¬ 0 ≤ t := by omega
              clear ra
              go_wp2_with fail
              refine Calls.mono kF ?_
              rintro e w5 ⟨rfl, c5, m5⟩
              have C5 := hide c5
              clear c5 m5 kF r0 r1 r2 r3 r4 r5
              go_wp2_with fail
              go_roundw
              case rel => exact ⟨k + 1, s, by omega, rfl, rfl, rfl, by go_num, C5⟩
              case measure => simp [intOf]; omega
          · as_aux_lemma =>
              have t1 : ¬ t ≤ 1099511627775 := by omega
              clear ra
              go_wp2_with fail
              refine Calls.mono kF ?_
              rintro e w5 ⟨rfl, c5, m5⟩
              have C5 := hide c5
              clear c5 m5 kF r0 r1 r2 r3 r4 r5
              go_wp2_with fail
              go_roundw
              case rel => exact ⟨k + 1, s, by omega, rfl, rfl, rfl, by go_num, C5⟩
              case measure => simp [intOf]; omega
    · obtain rfl : k = n := by omega
      have BE := hide CR.out.below
      clear CR HL
      go_wp2_with fail
      refine (alive_spec _).mono ?_
      rintro e w5 ⟨rfl, k5⟩
      have B5 : Hid (Below w.heap.size w w5) := BE.out.trans (k5.mono BE.out.size)
      clear k5
      go_wp2_with fail
      go_returns
      exact ⟨rfl, B5.out⟩
theorem law_AlarmChains (R : Ru) (a : Option Addr) (n cap : Nat) (L : List Op6) (i : RuW R) (hs : R.nm.size ≤ maxLen) (hn : L.length = n ∧ n ≤ 140737488355328) (w : World) (hL : IsSc w a L) :
    Calls Try.prog 4 #[ruV R, .slice a n cap] w fun e w' => e = .returned (.bool true) ∧ Below w.heap.size w w' := by
  cases m : mayB R
  · exact chains_no R i hs m _ w
  · exact chains_yes R i hs m a n cap L hn.1 hn.2 w hL
end Go.Proofs.Ytnlefakicjojdaa
/-
  AlarmChains: for every input the law returns true, and each argument reads afterwards as it read before. No condition on the input.
-/
namespace Go.Proofs.Ytnlefakicjojdaa.alarmChains
open Go.ChangeShapes Go.WideShapes Go.ChangeAt Go.RowKit Go.Deep W
set_option linter.unusedVariables false
theorem own : ownKnob Try.prog.godebug = none := by kernel_rfl
theorem laidOut : laidOutB Try.prog = true := by kernel_rfl
set_option maxRecDepth 100000 in
theorem lifted (os : Os) (started : os.Started) (H : Type) (enc : TypeId × Value → H) :
    ReturnsInHanded {} Try.checked os 4 .any (Rows.alarmChainsSpec.pre6 enc Try.prog Try.f4 Rows.alarmChainsRow.domain false) (Rows.alarmChainsSpec.post enc Try.prog Try.f4 false true false false) := by
  refine returnsInHanded_of_change_sized (C := Try.checked) own started (by kernel_rfl) Try.func4
    (ChangeSpec.witness6 (enc := enc) (C := Try.checked) false ⟨#[], #[.agg #[.string ByteArray.empty, .bool false, .int .i64 0, .int .u64 0, .int .i64 0, .int .u64 0, .int .i64 0, .int .u64 0, .int .i64 0, .int .i64 0, .int .i64 0], .slice none 0 0], []⟩ 8 (by kernel_rfl) (by kernel_rfl) (by kernel_rfl) (by kernel_rfl)) ?_
  intro W base args ds gs before hval0 hW hcnd hsz0 _
  have hsz : (DataW.weightsEach Try.prog (Try.f4.params.toList ++ Rows.alarmChainsSpec.plain.varTypes Try.prog) (ds ++ gs)).all (· ≤ reachBytes) = true := hsz0
  clear hsz0
  have hval : ∀ (j : Nat) t v, Try.f4.params[j]? = some t → args[j]? = some v → Value.okWide Try.prog W .any base t v := hval0
  have hW' := hW
  obtain ⟨p, q, hA0, hV, rfl, hfz, hnd⟩ := hW
  have hA : DataW.TrodAll enc Try.prog W 0 (fun _ => true) true Try.f4.params.toList args.toList ds p := hA0
  rw [Try.params4] at hA hval hsz
  obtain ⟨v0, vs0, d0, ds0, p0, q0, hargs, rfl, rfl, h0, r0⟩ := trodAll_cons hA
  obtain ⟨v1, vs1, d1, ds1, p1, q1, rfl, rfl, rfl, h1, r1⟩ := trodAll_cons r0
  obtain ⟨rfl, rfl, rfl⟩ := trodAll_nil r1
  obtain rfl : args = #[v0, v1] := by cases args; simp_all
  obtain ⟨rfl, rfl⟩ := trodVars_none hV
  have k0 := h0
  have lt0 : ∀ x ∈ p0, x.block < W.heap.size := by obtain ⟨m, hm⟩ := k0; exact DataW.trod_lt m _ _ _ hm
  obtain ⟨cs0, rfl, hz0⟩ := okWide_struct Try.underlying53 (hval 0 53 v0 rfl rfl)
  obtain ⟨fuel0, hf0⟩ := h0
  obtain ⟨R0, e0, iw0, ws0⟩ := Go.Proofs.Ytnlefakicjojdaa.rd_rule hf0
  obtain rfl : cs0 = (Go.Proofs.Ytnlefakicjojdaa.ruL R0).toArray := by cases cs0; simpa [Value.cells] using e0
  have k1 := h1
  have lt1 : ∀ x ∈ p1, x.block < W.heap.size := by obtain ⟨m, hm⟩ := k1; exact DataW.trod_lt m _ _ _ hm
  obtain ⟨s1, n1, c1, rfl⟩ := okWide_slice Try.underlying23 (hval 1 23 v1 rfl rfl)
  obtain ⟨fuel1, hf1⟩ := h1
  obtain ⟨L1, hl1, hL1, hd1⟩ := Go.Proofs.Ytnlefakicjojdaa.rd_script (by simpa [Value.cells] using hf1)
  have hn1 : L1.length = n1 ∧ n1 ≤ 140737488355328 := by
    refine ⟨hl1, ?_⟩
    rcases hd1 with e | ⟨el, spd, e, el2⟩
    · omega
    · have h1 := sized_slice hsz (j := 1) (t := 23) (e := 40) (elems := el) (spare := spd) rfl (by simp; exact e) Try.underlying23
      have rl := reachBytes_lt
      rw [(by kernel_rfl : Try.prog.bytesOf 40 = 56)] at h1
      omega
  clear hA0 hval0
  refine (Go.Proofs.Ytnlefakicjojdaa.law_AlarmChains R0 s1 n1 c1 L1 iw0 ws0 hn1 W hL1).mono fun e W' ⟨he, bel⟩ => ?_
  subst he
  exact ⟨_, rfl, _, _, _, [], _, [], hW', trodAll_mk1 (shut_bool Try.underlying4 _), (trodAll_cons_mk (Below.trod laidOut (by kernel_rfl) (of_decide_eq_true (by kernel_rfl)) k0 bel lt0) (trodAll_cons_mk (Below.trod laidOut (by kernel_rfl) (of_decide_eq_true (by kernel_rfl)) k1 bel lt1) trodAll_mk0)), rfl, bel.frame _, fun h => by cases h⟩
theorem over : Rows.alarmChainsRow.holds Try.pinned (OpenSpec.ofChange Rows.alarmChainsSpec) :=
  OpenClaim.holds_of_wide 4 Try.f4 rfl rfl rfl rfl rfl rfl rfl ⟨rfl, rfl, rfl, rfl, rfl⟩ rfl rfl rfl rfl rfl (by kernel_rfl) Try.func4 (by kernel_rfl)
    (of_decide_eq_true (by kernel_rfl)) (by unfold Func.isWrapper; first | (rw [if_pos (by decide +kernel)]; kernel_rfl) | (rw [if_neg (by decide +kernel)]; exact ⟨rfl, rfl⟩))
    (fun os started H enc _ => lifted os started H enc)
end Go.Proofs.Ytnlefakicjojdaa.alarmChains
namespace Go.Proofs.Ytnlefakicjojdaa
theorem alarmChains_holds : Rows.AlarmChainsSaid := alarmChains.over
#print axioms alarmChains_holds
end Go.Proofs.Ytnlefakicjojdaa
