/- Texts that belong together: Lawas Lawat FAlarmSlack. -/
import Derived.Test.YtnlefakicjojdaaG06
import Derived.Test.YtnlefakicjojdaaG04
import Derived.Test.YtnlefakicjojdaaRows
import Derived.WalkKit
import Derived.ProofKit
import Derived.OpenShut
import Derived.ShutString
import Derived.ChangeOld
import Derived.Below
import Derived.SizedLaws
import Derived.Deep.SlicePairs
set_option linter.unusedSimpArgs false
set_option linter.unusedVariables false
/- AlarmSlack: what the feeds make of a rule's state. -/
namespace Go.Proofs.Ytnlefakicjojdaa
set_option linter.unusedVariables false
set_option linter.unusedSimpArgs false
open Go.RowKit W Go.Maps
theorem pl1_small {x : Int} (h0 : 0 ≤ x) (h1 : x ≤ 1000) : pl1 x = x + 1 := by
  unfold pl1
  rw [IntKind.wrap_i64]
  omega
/-- A rule that may be. -/
structure MayP (R : Ru) : Prop where
  fr : 1 ≤ R.fr ∧ R.fr ≤ 1000
  sl : 0 ≤ R.sl
theorem mayP {R : Ru} (m : mayB R = true) : MayP R := by
  unfold mayB at m
  simp only [Bool.and_eq_true, decide_eq_true_eq] at m
  exact ⟨⟨m.2.2.2.2.2.2.1, m.2.2.2.2.2.2.2.1⟩, m.2.2.2.2.1⟩
def RunsOk (R : Ru) (s : St) : Prop := 0 ≤ s.runs ∧ s.runs < R.fr
theorem movS_runs {R : Ru} (p : MayP R) (s : St) (l : Int) (h : RunsOk R s) : RunsOk R (movS R s l) := by
  have q := p.fr
  obtain ⟨h0, h1⟩ := h
  have e := pl1_small h0 (by omega)
  have e0 : pl1 0 = 1 := rfl
  unfold movS
  split
  · exact ⟨by simp, by simp; omega⟩
  · split
    · exact ⟨by simp [entS], by simp [entS]; omega⟩
    · split
      · exact ⟨by simp [entS], by simp [entS]; omega⟩
      · rename_i z
        unfold mov1 at z ⊢
        split at z
        · rename_i c
          rw [if_pos c]
          simp only [e] at z ⊢
          exact ⟨by simp; omega, by simp; omega⟩
        · rename_i c
          rw [if_neg c]
          simp only [e0] at z ⊢
          exact ⟨by simp, by simp; omega⟩
theorem gapS_runs {R : Ru} (p : MayP R) (s : St) : RunsOk R (gapS R s) := by
  have q := p.fr
  unfold gapS gap1 entS
  split <;> exact ⟨by simp, by simp; omega⟩
theorem stepS_runs {R : Ru} (p : MayP R) (s : St) (t : Int) (is : Bool) (v : Int) (h : RunsOk R s) : RunsOk R (stepS R s t is v) := by
  unfold stepS
  cases is
  · exact gapS_runs p _
  · exact movS_runs p _ _ h
theorem fedS_is (R : Ru) (s : St) (t : Int) (is : Bool) (v : Int) : (fedS R s t is v).st = (stepS R s t is v).st ∧ (fedS R s t is v).runs = (stepS R s t is v).runs ∧ (fedS R s t is v).cand = (stepS R s t is v).cand ∧ (fedS R s t is v).last = t := by
  have k := (stepS_keeps R s t is v).2.2.1
  unfold fedS sayS
  split
  · exact ⟨rfl, rfl, rfl, k⟩
  · exact ⟨rfl, rfl, rfl, k⟩
theorem fedS_said (R : Ru) (s : St) (t : Int) (is : Bool) (v : Int) (h : St14 s.st ∧ St14 s.said) : St14 (fedS R s t is v).st ∧ St14 (fedS R s t is v).said := by
  have q := stepS_st R s t is v h.1
  have k := (stepS_keeps R s t is v).1
  unfold fedS sayS
  split
  · exact ⟨q, q⟩
  · exact ⟨q, by rw [k]; exact h.2⟩
/-- Beyond a threshold is beyond a nearer one. -/
theorem bey_eas {ab : Bool} {v t s : Int} (h : 0 ≤ s) (b : bey ab v t = true) : bey ab v (eas ab t s) = true := by
  unfold bey eas at *
  cases ab <;> simp at * <;> omega
theorem lev_far {R : Ru} (p : MayP R) {v : Int} (st : Int) (h1 : bey R.ab v (eas R.ab R.wa R.sl) = false) (h2 : bey R.ab v (eas R.ab R.cr R.sl) = false) : lev R st v = 1 := by
  have b1 : bey R.ab v R.wa = false := by
    cases e : bey R.ab v R.wa
    · rfl
    · rw [bey_eas p.sl e] at h1; cases h1
  have b2 : bey R.ab v R.cr = false := by
    cases e : bey R.ab v R.cr
    · rfl
    · rw [bey_eas p.sl e] at h2; cases h2
  unfold lev levC levW levF
  rw [h1, h2, b1, b2]
  simp
theorem lev_crit {R : Ru} (p : MayP R) (st : Int) : lev R st R.cr = 3 := by
  have b0 : bey R.ab R.cr R.cr = true := by unfold bey; cases R.ab <;> simp
  have b1 := bey_eas p.sl b0
  unfold lev levC levW levF
  rw [b0, b1]
  simp
/-- A value that is far: fine at once. -/
theorem far_fine {R : Ru} (p : MayP R) (s : St) (t v : Int) (h : St14 s.st) (h1 : bey R.ab v (eas R.ab R.wa R.sl) = false) (h2 : bey R.ab v (eas R.ab R.cr R.sl) = false) : (stepS R s t true v).st = 1 := by
  unfold stepS valS
  simp only [if_true]
  rw [lev_far p _ h1 h2]
  unfold movS
  simp only
  split
  · rename_i e; exact e.symm
  · rename_i e
    rw [if_pos (by right; obtain ⟨a, b⟩ := h; omega)]
    rfl
theorem val_low (R : Ru) (s : St) (t v : Int) : (stepS R s t true v).st ≤ 3 ∨ (stepS R s t true v).st = s.st ∧ s.st ≠ 4 := by
  unfold stepS valS
  simp only [if_true]
  have hl : lev R s.st v ≤ 3 := by rcases lev_is R s.st v with e | e | e <;> omega
  unfold movS mov1 entS
  simp only
  repeat' split
  all_goals first | (left; simp; omega) | (left; simp_all; omega) | (right; simp_all)
/-- Behind j values at the threshold. -/
def CrI (R : Ru) (j : Int) (s : St) : Prop := s.st = 3 ∨ (s.st < 3 ∧ (j = 0 ∨ (s.cand = 3 ∧ j ≤ s.runs)))
theorem crit_step {R : Ru} (p : MayP R) (s : St) (t j : Int) (r : RunsOk R s) (j0 : 0 ≤ j) (h : CrI R j s) : CrI R (j + 1) (stepS R s t true R.cr) := by
  obtain ⟨r0, r1⟩ := r
  have q := p.fr
  have e := pl1_small r0 (by omega)
  have e0 : pl1 0 = 1 := rfl
  unfold stepS valS
  simp only [if_true]
  rw [lev_crit p]
  rcases h with h | ⟨h, c⟩
  · left
    unfold movS
    simp only
    rw [if_pos h.symm]
    exact h
  · unfold movS
    simp only
    rw [if_neg (by omega), if_neg (by omega)]
    unfold mov1
    simp only
    by_cases k : s.cand = 3
    · rw [if_pos k]
      simp only [e]
      split
      · left; rfl
      · right
        refine ⟨h, .inr ⟨k, ?_⟩⟩
        simp
        rcases c with c | ⟨_, c⟩ <;> omega
    · rw [if_neg k]
      simp only [e0]
      split
      · left; rfl
      · right
        refine ⟨h, .inr ⟨rfl, ?_⟩⟩
        simp
        rcases c with c | ⟨c, _⟩
        · omega
        · exact absurd c k
theorem crit_end {R : Ru} {s : St} (r : RunsOk R s) (f : 1 ≤ R.fr) (h : CrI R R.fr s) : s.st = 3 := by
  obtain ⟨r0, r1⟩ := r
  rcases h with h | ⟨_, h | ⟨_, h⟩⟩
  · exact h
  · omega
  · omega
/-- Between the calls of AlarmSlack. -/
structure SlR (w wr : World) (bb mb b : Nat) (R : Ru) (s : St) (t : Int) (a c : Int) : Prop where
  ch : ChR w wr bb mb b R s
  fb : Row wr (w.heap.size + 1) 0 [.int .i64 a, .int .u64 c]
  lb : w.heap.size + 1 < b
  runs : RunsOk R s
  last : s.last ≤ t
theorem SlR.later {w wr w' : World} {bb mb b : Nat} {R : Ru} {s : St} {t a c : Int} (h : SlR w wr bb mb b R s t a c) (k : Below wr.heap.size wr w') : SlR w w' bb mb b R s t a c := ⟨h.ch.later k, h.fb.later k, h.lb, h.runs, h.last⟩
theorem sl_feed {w wr : World} {bb mb b : Nat} {R : Ru} {s : St} {t a c : Int} (p : MayP R) (h : SlR w wr bb mb b R s t a c) (hs : R.nm.size ≤ maxLen) (t0 : 0 ≤ t) (t1 : t ≤ 1073741824) (v1 v0 : Int) (is : Bool) (iv : IsW (v1, v0)) :
    Calls Try.prog 12 #[.pointer (some ⟨bb, 0, none⟩), .string R.nm, .int .i64 (t + 1), .agg #[.bool is, .int .i64 v1, .int .u64 v0]] wr fun e w' => ∃ v, e = .returned (.tuple #[v, .int .i64 0]) ∧ SlR w w' bb mb b R (fedS R s (t + 1) is (V v1 v0)) (t + 1) a c ∧ Mod [b] wr w' := by
  have k := feed_any h.ch.bk R s List.mem_cons_self hs (t + 1) v1 v0 is iv
  have he : feE s (t + 1) = 0 := by unfold feE; rw [if_pos (by omega), if_neg (by have := h.last; omega)]
  have e1 : feS R s (t + 1) is (V v1 v0) = fedS R s (t + 1) is (V v1 v0) := by unfold feS; rw [if_pos he]
  have fi := fedS_is R s (t + 1) is (V v1 v0)
  rw [he, e1] at k
  refine Calls.mono k ?_
  rintro e w' ⟨v, rfl, _, fr, bk, m⟩
  rw [updL_one] at bk
  have nb : w.heap.size + 1 ∉ [b] := by have := h.lb; simp; omega
  refine ⟨v, rfl, ⟨h.ch.call m bk (fedS_said R s _ is _ h.ch.st), h.fb.mod m nb, h.lb, ?_, by rw [fi.2.2.2]; omega⟩, m⟩
  have r := stepS_runs p s (t + 1) is (V v1 v0) h.runs
  unfold RunsOk
  rw [fi.2.1]
  exact r
end Go.Proofs.Ytnlefakicjojdaa
/- AlarmSlack: the law's walk. -/
namespace Go.Proofs.Ytnlefakicjojdaa
set_option linter.unusedVariables false
set_option linter.unusedSimpArgs false
open Go.RowKit W Go.Maps
theorem cri_fed {R : Ru} (p : MayP R) (s : St) (t j : Int) (r : RunsOk R s) (j0 : 0 ≤ j) (h : CrI R j s) : CrI R (j + 1) (fedS R s t true (V R.c1 R.c0)) := by
  have q := crit_step p s t j r j0 h
  obtain ⟨a, b, c, _⟩ := fedS_is R s t true (V R.c1 R.c0)
  unfold CrI at *
  rw [a, b, c]
  exact q
theorem cri_end {R : Ru} {s : St} {j : Int} (r : RunsOk R s) (f : 1 ≤ R.fr) (e : j = R.fr) (h : CrI R j s) : s.st = 3 := crit_end r f (e ▸ h)
set_option maxRecDepth 100000 in
set_option maxHeartbeats 8000000 in
theorem slack_no (R : Ru) (i : RuW R) (hs : R.nm.size ≤ maxLen) (m : mayB R = false) (l : Value) (a c : Int) (w : World) : Calls Try.prog 5 #[ruV R, l, .agg #[.int .i64 a, .int .u64 c]] w fun e w' => e = .returned (.bool true) ∧ Below w.heap.size w w' := by
  have kO := one_no R i hs m
  have BW : Below w.heap.size w ((w.alloc (.cells (ruL R).toArray 53)).alloc (.cells #[.int .i64 a, .int .u64 c] 36)) := ((Below.refl _ _).alloc (Nat.le_refl _) _).alloc (by simp) _
  clear i m
  unfold ruV at *
  go_enter Try.func5, Try.ntmps5
  go_wp2_with fail
  refine (kO _).mono ?_
  rintro e w2 ⟨rfl, k2⟩
  have B2 : Hid (Below w.heap.size w w2) := BW.trans (k2.mono BW.size)
  clear k2 BW
  go_wp2_with fail
  refine (alive_spec _).mono ?_
  rintro e w3 ⟨rfl, k3⟩
  have B3 : Hid (Below w.heap.size w w3) := B2.out.trans (k3.mono B2.out.size)
  clear k3
  go_wp2_with fail
  go_returns
  exact ⟨rfl, B3.out⟩
set_option maxRecDepth 100000 in
set_option maxHeartbeats 16000000 in
theorem slack_yes (R : Ru) (i : RuW R) (hs : R.nm.size ≤ maxLen) (m : mayB R = true) (a : Option Addr) (n cap : Nat) (L : List Op6) (hn : L.length = n) (hn8 : n ≤ 1048576) (f1 f0 : Int) (jf : IsW (f1, f0)) (w : World) (hL : IsSc w a L) : Calls Try.prog 5 #[ruV R, .slice a n cap, .agg #[.int .i64 f1, .int .u64 f0]] w fun e w' => e = .returned (.bool true) ∧ Below w.heap.size w w' := by
  have kO := one_yes R i hs m
  have RB := hide (Row.new w (ruL R) 53 _ rfl)
  have BW : Below w.heap.size w ((w.alloc (.cells (ruL R).toArray 53)).alloc (.cells #[.int .i64 f1, .int .u64 f0] 36)) := ((Below.refl _ _).alloc (Nat.le_refl _) _).alloc (by simp) _
  have HL := hide hL
  have HN := hide hn
  have HS := hide hs
  have JF := hide jf
  have MP := hide (mayP m)
  have II := hide i
  have FR : 1 ≤ R.fr ∧ R.fr ≤ 1000 := MP.out.fr
  have kB1 := rbeyond_spec R f1 f0 R.w1 R.w0 R.s1 R.s0 jf i.iw i.is
  have kB2 := rbeyond_spec R f1 f0 R.c1 R.c0 R.s1 R.s0 jf i.ic i.is
  clear i m hL hn hs jf
  unfold ruV at *
  go_enter Try.func5, Try.ntmps5
  go_wp2_with fail
  refine Calls.mono (kO _) ?_
  rintro e w2 ⟨bb, mb, b, rfl, bk, l1, l2, l3, k2⟩
  have SL : Hid (SlR w w2 bb mb b R st0 0 f1 f0) := by
    have q : w.heap.size + 1 + 1 ≤ b := (by simpa using l3)
    refine ⟨ch_start bk ((RB.out.later ((Below.refl _ _).alloc (Nat.le_refl _) _)).later k2) (BW.trans (k2.mono BW.size)) (by omega), (Row.new' _ [.int .i64 f1, .int .u64 f0] _ _ (by simp)).later k2, by omega, ⟨by decide, ?_⟩, by decide⟩
    show (0 : Int) < R.fr
    omega
  clear kO k2 BW RB bk l1 l2 l3
  go_wp2_with fail
  go_loopw [10, 11] (fun t i wr => ∃ (k : Nat) (s : St), k ≤ n ∧ t = .int .i64 k ∧ i = .int .i64 k ∧ Hid (SlR w wr bb mb b R s k f1 f0)) (fun _ i _ => n - (intOf i).toNat)
  case atStart => exact ⟨0, st0, by omega, rfl, rfl, SL⟩
  case round =>
    obtain ⟨k, s, hk, rfl, rfl, CR⟩ := hrel
    by_cases hlt : k < n
    · as_aux_lemma =>
      have kL : k < L.length := by have := HN.out; omega
      obtain ⟨g, o, rfl, SA⟩ := HL.out.2.resolve_left (by intro e; rw [e] at kL; simp at kL)
      have SAL := hide SA.lt
      have SC := SA.later CR.out.ch.below
      obtain ⟨q, hq⟩ : ∃ q, q = L[k] := ⟨_, rfl⟩
      have IV := hide (HL.out.1 q (by rw [hq]; exact List.getElem_mem _)).1
      have RC := fun j v => SC.cell k kL j v
      rw [← hq] at RC
      obtain ⟨kd, nm, t, is, v1, v0⟩ := q
      simp only at IV
      have r3 := RC 3 _ rfl
      have r4 := RC 4 _ rfl
      have r5 := RC 5 _ rfl
      simp only at r3 r4 r5
      have hlt' : (k : Int) < (n : Int) := by omega
      have d0 := CR.out.ch.rl.at0 0 _ rfl
      have ld := CR.out.ch.rl.lt
      have kF := sl_feed MP.out CR.out HS.out (by omega) (by omega) v1 v0 is IV.out
      have kFd := sl_feed MP.out (CR.out.later ((Below.refl wr.heap.size wr).drew)) HS.out (by omega) (by omega) v1 v0 is IV.out
      clear RC SC SA hq kL
      go_wp2_with fail
      have gb : g ∉ [b] := by have := SAL.out; have := CR.out.lb; simp; omega
      have wb : w.heap.size ∉ [b] := by have := CR.out.lb; simp; omega
      have lg : g < wr.heap.size := Nat.lt_of_lt_of_le SAL.out CR.out.ch.below.size
      go_region_held3 (fun w' => w'.cell? ⟨w.heap.size, 0, none⟩ = some (.string R.nm) ∧ w'.cell? ⟨g, o + (k : Nat) * 6 + 3, none⟩ = some (.bool is) ∧ w'.cell? ⟨g, o + (k : Nat) * 6 + 4, none⟩ = some (.int .i64 v1) ∧ w'.cell? ⟨g, o + (k : Nat) * 6 + 5, none⟩ = some (.int .u64 v0))
        (first | exact ⟨d0, r3, r4, r5⟩ | exact ⟨x0, x3, x4, x5⟩)
        ((go_at_call 12; (first | with_reducible refine Calls.mono kF ?_ | with_reducible refine Calls.mono kFd ?_); rintro e w5 ⟨v, rfl, c5, m5⟩; have C5 := hide c5; have x0 := (m5.cell (o := 0) ld wb).trans d0; have x3 := (m5.cell (o := o + k * 6 + 3) lg gb).trans r3; have x4 := (m5.cell (o := o + k * 6 + 4) lg gb).trans r4; have x5 := (m5.cell (o := o + k * 6 + 5) lg gb).trans r5; clear c5 m5))
      all_goals
        clear kF kFd r3 r4 r5 d0 ld
        go_wp2_with fail
        go_roundw
        case rel => exact ⟨k + 1, _, by omega, by go_num, by go_num, C5⟩
        case measure => simp [intOf]; omega
    · obtain rfl : k = n := by omega
      have d0 := CR.out.ch.rl.at0 0 _ rfl
      have g0 := CR.out.fb.at0 0 _ rfl
      have g1 := CR.out.fb.at0 1 _ rfl
      have ld := CR.out.ch.rl.lt
      have lf := CR.out.fb.lt
      have kF := sl_feed MP.out CR.out HS.out (by omega) (by omega) f1 f0 true JF.out
      obtain ⟨s2, hs2⟩ : ∃ s2, fedS R s (k + 1) true (V f1 f0) = s2 := ⟨_, rfl⟩
      have FI := fedS_is R s (k + 1) true (V f1 f0)
      have FF := fun h1 h2 => far_fine MP.out s (k + 1) (V f1 f0) CR.out.ch.st.1 h1 h2
      have VL := val_low R s (k + 1) (V f1 f0)
      rw [hs2] at kF FI
      rw [← FI.1] at FF VL
      have VL3 : Hid (s2.st ≤ 3) := by
        show s2.st ≤ 3
        rcases VL with q | ⟨q, q4⟩
        · exact q
        · have := CR.out.ch.st.1.2
          omega
      have FFH := hide FF
      clear HL hlt FI FF VL hs2
      go_wp2_with fail
      refine Calls.mono kF ?_
      rintro e w5 ⟨v, rfl, c5, _⟩
      have C5 := hide c5
      have kS := ch_state c5.ch HS.out
      have d0 := C5.out.ch.rl.at0 0 _ rfl
      have d1 := C5.out.ch.rl.at0 1 _ rfl
      have d2 := C5.out.ch.rl.at0 2 _ rfl
      have d3 := C5.out.ch.rl.at0 3 _ rfl
      have d4 := C5.out.ch.rl.at0 4 _ rfl
      have d5 := C5.out.ch.rl.at0 5 _ rfl
      have d6 := C5.out.ch.rl.at0 6 _ rfl
      have d7 := C5.out.ch.rl.at0 7 _ rfl
      have d8 := C5.out.ch.rl.at0 8 _ rfl
      have d9 := C5.out.ch.rl.at0 9 _ rfl
      have d10 := C5.out.ch.rl.at0 10 _ rfl
      have g0 := C5.out.fb.at0 0 _ rfl
      have g1 := C5.out.fb.at0 1 _ rfl
      have ld := C5.out.ch.rl.lt
      have lf := C5.out.fb.lt
      clear c5 kF CR
      obtain ⟨b1, hb1⟩ : ∃ b1, bey R.ab (V f1 f0) (eas R.ab (V R.w1 R.w0) (V R.s1 R.s0)) = b1 := ⟨_, rfl⟩
      obtain ⟨b2, hb2⟩ : ∃ b2, bey R.ab (V f1 f0) (eas R.ab (V R.c1 R.c0) (V R.s1 R.s0)) = b2 := ⟨_, rfl⟩
      rw [hb1] at kB1
      rw [hb2] at kB2
      have FH : Hid (b1 = false → b2 = false → s2.st = 1) := hide (fun h1 h2 => FFH.out (hb1.trans h1) (hb2.trans h2))
      have CI0 : Hid (CrI R ((0 : Nat) : Int) s2) := hide (by
        have := VL3.out
        unfold CrI
        simp
        omega)
      clear hb1 hb2 FFH VL3
      go_wp2_with (go_at_call 17; refine Calls.mono kS ?_; rintro e w' ⟨rfl, rfl⟩)
      refine Calls.mono (kB1 _) ?_
      rintro e w6 ⟨rfl, k6⟩
      have C6 := hide (C5.out.later k6)
      clear kS d0 d1 d2 d3 d4 d5 d6 d7 d8 d9 d10 g0 g1 ld lf C5 k6
      have ld := C6.out.ch.rl.lt
      have lf := C6.out.fb.lt
      have d0 := C6.out.ch.rl.at0 0 _ rfl
      have d1 := C6.out.ch.rl.at0 1 _ rfl
      have d2 := C6.out.ch.rl.at0 2 _ rfl
      have d3 := C6.out.ch.rl.at0 3 _ rfl
      have d4 := C6.out.ch.rl.at0 4 _ rfl
      have d5 := C6.out.ch.rl.at0 5 _ rfl
      have d6 := C6.out.ch.rl.at0 6 _ rfl
      have d7 := C6.out.ch.rl.at0 7 _ rfl
      have d8 := C6.out.ch.rl.at0 8 _ rfl
      have d9 := C6.out.ch.rl.at0 9 _ rfl
      have d10 := C6.out.ch.rl.at0 10 _ rfl
      have g0 := C6.out.fb.at0 0 _ rfl
      have g1 := C6.out.fb.at0 1 _ rfl
      cases b1
      · go_wp2_with fail
        refine Calls.mono (kB2 _) ?_
        rintro e w7 ⟨rfl, k7⟩
        have C7 := hide (C6.out.later k7)
        clear d0 d1 d2 d3 d4 d5 d6 d7 d8 d9 d10 g0 g1 ld lf C6 k7 kB1 kB2
        have ld := C7.out.ch.rl.lt
        have lf := C7.out.fb.lt
        have d0 := C7.out.ch.rl.at0 0 _ rfl
        have d1 := C7.out.ch.rl.at0 1 _ rfl
        have d2 := C7.out.ch.rl.at0 2 _ rfl
        have d3 := C7.out.ch.rl.at0 3 _ rfl
        have d4 := C7.out.ch.rl.at0 4 _ rfl
        have d5 := C7.out.ch.rl.at0 5 _ rfl
        have d6 := C7.out.ch.rl.at0 6 _ rfl
        have d7 := C7.out.ch.rl.at0 7 _ rfl
        have d8 := C7.out.ch.rl.at0 8 _ rfl
        have d9 := C7.out.ch.rl.at0 9 _ rfl
        have d10 := C7.out.ch.rl.at0 10 _ rfl
        have g0 := C7.out.fb.at0 0 _ rfl
        have g1 := C7.out.fb.at0 1 _ rfl
        cases b2
        · have q1 : s2.st = 1 := by simpa using FH.out
          clear FH
          go_wp2_with fail
          go_loopw [10, 14] (fun t i wr => ∃ (j : Nat) (s : St), (j : Int) ≤ R.fr ∧ t = .int .i64 ((k : Int) + 1 + (j : Int)) ∧ i = .int .i64 j ∧ Hid (SlR w wr bb mb b R s ((k : Int) + 1 + (j : Int)) f1 f0) ∧ Hid (CrI R (j : Int) s)) (fun _ i _ => R.fr.toNat - (intOf i).toNat)
          case atStart => exact ⟨0, s2, by omega, by simp, rfl, hide (by simpa using C7.out), CI0⟩
          case round =>
            obtain ⟨j, s, hj, rfl, rfl, CR, CI⟩ := hrel
            clear d0 d1 d2 d3 d4 d5 d6 d7 d8 d9 d10 g0 g1 ld lf
            have ld := CR.out.ch.rl.lt
            have lf := CR.out.fb.lt
            have d0 := CR.out.ch.rl.at0 0 _ rfl
            have d1 := CR.out.ch.rl.at0 1 _ rfl
            have d2 := CR.out.ch.rl.at0 2 _ rfl
            have d3 := CR.out.ch.rl.at0 3 _ rfl
            have d4 := CR.out.ch.rl.at0 4 _ rfl
            have d5 := CR.out.ch.rl.at0 5 _ rfl
            have d6 := CR.out.ch.rl.at0 6 _ rfl
            have d7 := CR.out.ch.rl.at0 7 _ rfl
            have d8 := CR.out.ch.rl.at0 8 _ rfl
            have d9 := CR.out.ch.rl.at0 9 _ rfl
            have d10 := CR.out.ch.rl.at0 10 _ rfl
            have g0 := CR.out.fb.at0 0 _ rfl
            have g1 := CR.out.fb.at0 1 _ rfl
            by_cases hlt : (j : Int) < R.fr
            · have kF := sl_feed MP.out CR.out HS.out (by omega) (by omega) R.c1 R.c0 true II.out.ic
              have CJ := hide (cri_fed MP.out s ((k : Int) + 1 + (j : Int) + 1) j CR.out.runs (by omega) CI.out)
              go_wp2_with (go_at_call 12; refine Calls.mono kF ?_; rintro e w9 ⟨v, rfl, c9, _⟩; have C9 := hide c9; clear c9)
              have e1 : (k : Int) + 1 + ((j + 1 : Nat) : Int) = (k : Int) + 1 + (j : Int) + 1 := by push_cast; omega
              have e2 : ((j + 1 : Nat) : Int) = (j : Int) + 1 := by push_cast; rfl
              refine ⟨⟨j + 1, _, by rw [e2]; omega, by rw [e1], by rw [e2], by rw [e1]; exact C9, by rw [e2]; exact CJ⟩, ?_⟩
              simp [intOf]
              omega
            · have q3 : s.st = 3 := cri_end CR.out.runs FR.1 (by omega) CI.out
              have kS := ch_state CR.out.ch HS.out
              have BB := CR.out.ch.below
              go_wp2_with (go_at_call 17; refine Calls.mono kS ?_; rintro e w' ⟨rfl, rfl⟩)
              refine (alive_spec _).mono ?_
              rintro e w9 ⟨rfl, k9⟩
              have B9 := hide (BB.trans (k9.mono BB.size))
              clear k9
              go_wp2_with fail
              go_returns
              exact ⟨rfl, B9.out⟩
        · clear FH
          go_wp2_with fail
          go_loopw [10, 14] (fun t i wr => ∃ (j : Nat) (s : St), (j : Int) ≤ R.fr ∧ t = .int .i64 ((k : Int) + 1 + (j : Int)) ∧ i = .int .i64 j ∧ Hid (SlR w wr bb mb b R s ((k : Int) + 1 + (j : Int)) f1 f0) ∧ Hid (CrI R (j : Int) s)) (fun _ i _ => R.fr.toNat - (intOf i).toNat)
          case atStart => exact ⟨0, s2, by omega, by simp, rfl, hide (by simpa using C7.out), CI0⟩
          case round =>
            obtain ⟨j, s, hj, rfl, rfl, CR, CI⟩ := hrel
            clear d0 d1 d2 d3 d4 d5 d6 d7 d8 d9 d10 g0 g1 ld lf
            have ld := CR.out.ch.rl.lt
            have lf := CR.out.fb.lt
            have d0 := CR.out.ch.rl.at0 0 _ rfl
            have d1 := CR.out.ch.rl.at0 1 _ rfl
            have d2 := CR.out.ch.rl.at0 2 _ rfl
            have d3 := CR.out.ch.rl.at0 3 _ rfl
            have d4 := CR.out.ch.rl.at0 4 _ rfl
            have d5 := CR.out.ch.rl.at0 5 _ rfl
            have d6 := CR.out.ch.rl.at0 6 _ rfl
            have d7 := CR.out.ch.rl.at0 7 _ rfl
            have d8 := CR.out.ch.rl.at0 8 _ rfl
            have d9 := CR.out.ch.rl.at0 9 _ rfl
            have d10 := CR.out.ch.rl.at0 10 _ rfl
            have g0 := CR.out.fb.at0 0 _ rfl
            have g1 := CR.out.fb.at0 1 _ rfl
            by_cases hlt : (j : Int) < R.fr
            · have kF := sl_feed MP.out CR.out HS.out (by omega) (by omega) R.c1 R.c0 true II.out.ic
              have CJ := hide (cri_fed MP.out s ((k : Int) + 1 + (j : Int) + 1) j CR.out.runs (by omega) CI.out)
              go_wp2_with (go_at_call 12; refine Calls.mono kF ?_; rintro e w9 ⟨v, rfl, c9, _⟩; have C9 := hide c9; clear c9)
              have e1 : (k : Int) + 1 + ((j + 1 : Nat) : Int) = (k : Int) + 1 + (j : Int) + 1 := by push_cast; omega
              have e2 : ((j + 1 : Nat) : Int) = (j : Int) + 1 := by push_cast; rfl
              refine ⟨⟨j + 1, _, by rw [e2]; omega, by rw [e1], by rw [e2], by rw [e1]; exact C9, by rw [e2]; exact CJ⟩, ?_⟩
              simp [intOf]
              omega
            · have q3 : s.st = 3 := cri_end CR.out.runs FR.1 (by omega) CI.out
              have kS := ch_state CR.out.ch HS.out
              have BB := CR.out.ch.below
              go_wp2_with (go_at_call 17; refine Calls.mono kS ?_; rintro e w' ⟨rfl, rfl⟩)
              refine (alive_spec _).mono ?_
              rintro e w9 ⟨rfl, k9⟩
              have B9 := hide (BB.trans (k9.mono BB.size))
              clear k9
              go_wp2_with fail
              go_returns
              exact ⟨rfl, B9.out⟩
      · clear FH kB1 kB2
        go_wp2_with fail
        go_loopw [10, 14] (fun t i wr => ∃ (j : Nat) (s : St), (j : Int) ≤ R.fr ∧ t = .int .i64 ((k : Int) + 1 + (j : Int)) ∧ i = .int .i64 j ∧ Hid (SlR w wr bb mb b R s ((k : Int) + 1 + (j : Int)) f1 f0) ∧ Hid (CrI R (j : Int) s)) (fun _ i _ => R.fr.toNat - (intOf i).toNat)
        case atStart => exact ⟨0, s2, by omega, by simp, rfl, hide (by simpa using C6.out), CI0⟩
        case round =>
          obtain ⟨j, s, hj, rfl, rfl, CR, CI⟩ := hrel
          clear d0 d1 d2 d3 d4 d5 d6 d7 d8 d9 d10 g0 g1 ld lf
          have ld := CR.out.ch.rl.lt
          have lf := CR.out.fb.lt
          have d0 := CR.out.ch.rl.at0 0 _ rfl
          have d1 := CR.out.ch.rl.at0 1 _ rfl
          have d2 := CR.out.ch.rl.at0 2 _ rfl
          have d3 := CR.out.ch.rl.at0 3 _ rfl
          have d4 := CR.out.ch.rl.at0 4 _ rfl
          have d5 := CR.out.ch.rl.at0 5 _ rfl
          have d6 := CR.out.ch.rl.at0 6 _ rfl
          have d7 := CR.out.ch.rl.at0 7 _ rfl
          have d8 := CR.out.ch.rl.at0 8 _ rfl
          have d9 := CR.out.ch.rl.at0 9 _ rfl
          have d10 := CR.out.ch.rl.at0 10 _ rfl
          have g0 := CR.out.fb.at0 0 _ rfl
          have g1 := CR.out.fb.at0 1 _ rfl
          by_cases hlt : (j : Int) < R.fr
          · have kF := sl_feed MP.out CR.out HS.out (by omega) (by omega) R.c1 R.c0 true II.out.ic
            have CJ := hide (cri_fed MP.out s ((k : Int) + 1 + (j : Int) + 1) j CR.out.runs (by omega) CI.out)
            go_wp2_with (go_at_call 12; refine Calls.mono kF ?_; rintro e w9 ⟨v, rfl, c9, _⟩; have C9 := hide c9; clear c9)
            have e1 : (k : Int) + 1 + ((j + 1 : Nat) : Int) = (k : Int) + 1 + (j : Int) + 1 := by push_cast; omega
            have e2 : ((j + 1 : Nat) : Int) = (j : Int) + 1 := by push_cast; rfl
            refine ⟨⟨j + 1, _, by rw [e2]; omega, by rw [e1], by rw [e2], by rw [e1]; exact C9, by rw [e2]; exact CJ⟩, ?_⟩
            simp [intOf]
            omega
          · have q3 : s.st = 3 := cri_end CR.out.runs FR.1 (by omega) CI.out
            have kS := ch_state CR.out.ch HS.out
            have BB := CR.out.ch.below
            go_wp2_with (go_at_call 17; refine Calls.mono kS ?_; rintro e w' ⟨rfl, rfl⟩)
            refine (alive_spec _).mono ?_
            rintro e w9 ⟨rfl, k9⟩
            have B9 := hide (BB.trans (k9.mono BB.size))
            clear k9
            go_wp2_with fail
            go_returns
            exact ⟨rfl, B9.out⟩
theorem law_AlarmSlack (R : Ru) (a : Option Addr) (n cap : Nat) (L : List Op6) (f1 f0 : Int) (i : RuW R) (hs : R.nm.size ≤ maxLen) (hn : L.length = n ∧ n ≤ 1048576) (jf : IsW (f1, f0)) (w : World) (hL : IsSc w a L) :
    Calls Try.prog 5 #[ruV R, .slice a n cap, .agg #[.int .i64 f1, .int .u64 f0]] w fun e w' => e = .returned (.bool true) ∧ Below w.heap.size w w' := by
  cases m : mayB R
  · exact slack_no R i hs m _ f1 f0 w
  · exact slack_yes R i hs m a n cap L hn.1 hn.2 f1 f0 jf w hL
end Go.Proofs.Ytnlefakicjojdaa
/-
  AlarmSlack: for every input the law returns true, and each argument reads afterwards as it read before. No condition on the input.
-/
namespace Go.Proofs.Ytnlefakicjojdaa.alarmSlack
open Go.ChangeShapes Go.WideShapes Go.ChangeAt Go.RowKit Go.Deep W
set_option linter.unusedVariables false
theorem own : ownKnob Try.prog.godebug = none := by kernel_rfl
theorem laidOut : laidOutB Try.prog = true := by kernel_rfl
set_option maxRecDepth 100000 in
theorem lifted (os : Os) (started : os.Started) (H : Type) (enc : TypeId × Value → H) (F : Stop.Interp) :
    ReturnsInHanded {} Try.checked os 5 .any ((Rows.OpenSpec.upto Rows.alarmSlackSpec).pre6 enc Try.prog Try.f5 Rows.alarmSlackUptoRow.domain false) (((Rows.OpenSpec.upto Rows.alarmSlackSpec).at F).post enc Try.prog Try.f5 false true false false) := by
  refine returnsInHanded_of_cond (C := Try.checked) (s := Rows.OpenSpec.upto Rows.alarmSlackSpec) (k := Rows.uptoSmall) rfl own started (by kernel_rfl) Try.func5
    (OpenSpec.witness (enc := enc) (C := Try.checked) (s := Rows.OpenSpec.upto Rows.alarmSlackSpec) (k := Rows.uptoSmall) rfl false ⟨#[], #[.agg #[.string ByteArray.empty, .bool false, .int .i64 0, .int .u64 0, .int .i64 0, .int .u64 0, .int .i64 0, .int .u64 0, .int .i64 0, .int .i64 0, .int .i64 0], .slice none 0 0, .agg #[.int .i64 0, .int .u64 0]], []⟩ 8 (by kernel_rfl) (by kernel_rfl) (by kernel_rfl)
      (x := ([.agg [.lit (.string []), .lit (.bool false), .agg [.lit (.int .i64 0), .lit (.int .u64 0)], .agg [.lit (.int .i64 0), .lit (.int .u64 0)], .agg [.lit (.int .i64 0), .lit (.int .u64 0)], .lit (.int .i64 0), .lit (.int .i64 0), .lit (.int .i64 0)], .nil, .agg [.lit (.int .i64 0), .lit (.int .u64 0)]], [], [])) (by kernel_rfl) rfl (by kernel_rfl)) ?_
  intro W base args ds gs before hval0 hW _ hk _
  have hval : ∀ (j : Nat) t v, Try.f5.params[j]? = some t → args[j]? = some v → Value.okWide Try.prog W .any base t v := hval0
  have hW' := hW
  obtain ⟨p, q, hA0, hV, rfl, hfz, hnd⟩ := hW
  have hA : DataW.TrodAll enc Try.prog W 0 (fun _ => true) true Try.f5.params.toList args.toList ds p := hA0
  rw [Try.params5] at hA hval
  obtain ⟨v0, vs0, d0, ds0, p0, q0, hargs, rfl, rfl, h0, r0⟩ := trodAll_cons hA
  obtain ⟨v1, vs1, d1, ds1, p1, q1, rfl, rfl, rfl, h1, r1⟩ := trodAll_cons r0
  obtain ⟨v2, vs2, d2, ds2, p2, q2, rfl, rfl, rfl, h2, r2⟩ := trodAll_cons r1
  obtain ⟨rfl, rfl, rfl⟩ := trodAll_nil r2
  obtain rfl : args = #[v0, v1, v2] := by cases args; simp_all
  obtain ⟨rfl, rfl⟩ := trodVars_none hV
  have k0 := h0
  have lt0 : ∀ x ∈ p0, x.block < W.heap.size := by obtain ⟨m, hm⟩ := k0; exact DataW.trod_lt m _ _ _ hm
  obtain ⟨cs0, rfl, hz0⟩ := okWide_struct Try.underlying53 (hval 0 53 v0 rfl rfl)
  obtain ⟨fuel0, hf0⟩ := h0
  obtain ⟨R0, e0, iw0, ws0⟩ := Go.Proofs.Ytnlefakicjojdaa.rd_rule hf0
  obtain rfl : cs0 = (Go.Proofs.Ytnlefakicjojdaa.ruL R0).toArray := by cases cs0; simpa [Value.cells] using e0
  have k1 := h1
  have lt1 : ∀ x ∈ p1, x.block < W.heap.size := by obtain ⟨m, hm⟩ := k1; exact DataW.trod_lt m _ _ _ hm
  obtain ⟨s1, n1, c1, rfl⟩ := okWide_slice Try.underlying23 (hval 1 23 v1 rfl rfl)
  obtain ⟨fuel1, hf1⟩ := h1
  obtain ⟨L1, hl1, hL1, hd1⟩ := Go.Proofs.Ytnlefakicjojdaa.rd_script (by simpa [Value.cells] using hf1)
  have hn1 : L1.length = n1 ∧ n1 ≤ 1048576 := by
    refine ⟨hl1, ?_⟩
    rcases hd1 with e | ⟨el, spd, e, el2⟩
    · omega
    · rw [← el2]; exact Go.Proofs.Ytnlefakicjojdaa.bulk_slice hk (by rw [← e]; simp)
  have k2 := h2
  have lt2 : ∀ x ∈ p2, x.block < W.heap.size := by obtain ⟨m, hm⟩ := k2; exact DataW.trod_lt m _ _ _ hm
  obtain ⟨cs2, rfl, hz2⟩ := okWide_struct Try.underlying36 (hval 2 36 v2 rfl rfl)
  obtain ⟨fuel2, hf2⟩ := h2
  obtain ⟨a2, b2, e2, iw2⟩ := Go.Proofs.Ytnlefakicjojdaa.rd_wide hf2
  obtain rfl : cs2 = #[.int .i64 a2, .int .u64 b2] := by cases cs2; simpa [Value.cells] using e2
  clear hA0 hval0
  refine (Go.Proofs.Ytnlefakicjojdaa.law_AlarmSlack R0 s1 n1 c1 L1 a2 b2 iw0 ws0 hn1 iw2 W hL1).mono fun e W' ⟨he, bel⟩ => ?_
  subst he
  exact ⟨_, rfl, _, _, _, [], _, [], hW', trodAll_mk1 (shut_bool Try.underlying4 _), (trodAll_cons_mk (Below.trod laidOut (by kernel_rfl) (of_decide_eq_true (by kernel_rfl)) k0 bel lt0) (trodAll_cons_mk (Below.trod laidOut (by kernel_rfl) (of_decide_eq_true (by kernel_rfl)) k1 bel lt1) (trodAll_cons_mk (Below.trod laidOut (by kernel_rfl) (of_decide_eq_true (by kernel_rfl)) k2 bel lt2) trodAll_mk0))), rfl, bel.frame _, fun h => by cases h⟩
theorem over : Rows.alarmSlackUptoRow.holds Try.pinned (Rows.OpenSpec.upto Rows.alarmSlackSpec) :=
  OpenClaim.holds_of_cond 5 Try.f5 rfl rfl rfl rfl rfl rfl rfl ⟨rfl, rfl, rfl, rfl, rfl⟩ rfl rfl rfl rfl rfl (by kernel_rfl) Try.func5 (by kernel_rfl)
    (of_decide_eq_true (by kernel_rfl)) (by unfold Func.isWrapper; first | (rw [if_pos (by decide +kernel)]; kernel_rfl) | (rw [if_neg (by decide +kernel)]; exact ⟨rfl, rfl⟩))
    (fun os started H enc _ F => lifted os started H enc F)
end Go.Proofs.Ytnlefakicjojdaa.alarmSlack
namespace Go.Proofs.Ytnlefakicjojdaa
theorem alarmSlack_holds : Rows.AlarmSlackUptoSaid := alarmSlack.over
#print axioms alarmSlack_holds
end Go.Proofs.Ytnlefakicjojdaa
