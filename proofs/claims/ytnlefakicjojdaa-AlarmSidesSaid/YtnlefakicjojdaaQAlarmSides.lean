/- Texts that belong together: Lawas Lawae Lawaf FAlarmSides. -/
import Derived.Test.YtnlefakicjojdaaG06
import Derived.Test.YtnlefakicjojdaaG02
import Derived.Test.YtnlefakicjojdaaG04
import Derived.RegionTactic
import Derived.ChangeAlike
import Derived.BigRegion
import Derived.Test.YtnlefakicjojdaaRows
import Derived.WalkKit
import Derived.ProofKit
import Derived.OpenShut
import Derived.ShutString
import Derived.ChangeOld
import Derived.Below
import Derived.SizedLaws
import Derived.Deep.SlicePairs
set_option linter.unusedSimpArgs false
set_option linter.unusedVariables false
/- AlarmSlack: what the feeds make of a rule's state. -/
namespace Go.Proofs.Ytnlefakicjojdaa
set_option linter.unusedVariables false
set_option linter.unusedSimpArgs false
open Go.RowKit W Go.Maps
theorem pl1_small {x : Int} (h0 : 0 ≤ x) (h1 : x ≤ 1000) : pl1 x = x + 1 := by
  unfold pl1
  rw [IntKind.wrap_i64]
  omega
/-- A rule that may be. -/
structure MayP (R : Ru) : Prop where
  fr : 1 ≤ R.fr ∧ R.fr ≤ 1000
  sl : 0 ≤ R.sl
theorem mayP {R : Ru} (m : mayB R = true) : MayP R := by
  unfold mayB at m
  simp only [Bool.and_eq_true, decide_eq_true_eq] at m
  exact ⟨⟨m.2.2.2.2.2.2.1, m.2.2.2.2.2.2.2.1⟩, m.2.2.2.2.1⟩
def RunsOk (R : Ru) (s : St) : Prop := 0 ≤ s.runs ∧ s.runs < R.fr
theorem movS_runs {R : Ru} (p : MayP R) (s : St) (l : Int) (h : RunsOk R s) : RunsOk R (movS R s l) := by
  have q := p.fr
  obtain ⟨h0, h1⟩ := h
  have e := pl1_small h0 (by omega)
  have e0 : pl1 0 = 1 := rfl
  unfold movS
  split
  · exact ⟨by simp, by simp; omega⟩
  · split
    · exact ⟨by simp [entS], by simp [entS]; omega⟩
    · split
      · exact ⟨by simp [entS], by simp [entS]; omega⟩
      · rename_i z
        unfold mov1 at z ⊢
        split at z
        · rename_i c
          rw [if_pos c]
          simp only [e] at z ⊢
          exact ⟨by simp; omega, by simp; omega⟩
        · rename_i c
          rw [if_neg c]
          simp only [e0] at z ⊢
          exact ⟨by simp, by simp; omega⟩
theorem gapS_runs {R : Ru} (p : MayP R) (s : St) : RunsOk R (gapS R s) := by
  have q := p.fr
  unfold gapS gap1 entS
  split <;> exact ⟨by simp, by simp; omega⟩
theorem stepS_runs {R : Ru} (p : MayP R) (s : St) (t : Int) (is : Bool) (v : Int) (h : RunsOk R s) : RunsOk R (stepS R s t is v) := by
  unfold stepS
  cases is
  · exact gapS_runs p _
  · exact movS_runs p _ _ h
theorem fedS_is (R : Ru) (s : St) (t : Int) (is : Bool) (v : Int) : (fedS R s t is v).st = (stepS R s t is v).st ∧ (fedS R s t is v).runs = (stepS R s t is v).runs ∧ (fedS R s t is v).cand = (stepS R s t is v).cand ∧ (fedS R s t is v).last = t := by
  have k := (stepS_keeps R s t is v).2.2.1
  unfold fedS sayS
  split
  · exact ⟨rfl, rfl, rfl, k⟩
  · exact ⟨rfl, rfl, rfl, k⟩
theorem fedS_said (R : Ru) (s : St) (t : Int) (is : Bool) (v : Int) (h : St14 s.st ∧ St14 s.said) : St14 (fedS R s t is v).st ∧ St14 (fedS R s t is v).said := by
  have q := stepS_st R s t is v h.1
  have k := (stepS_keeps R s t is v).1
  unfold fedS sayS
  split
  · exact ⟨q, q⟩
  · exact ⟨q, by rw [k]; exact h.2⟩
/-- Beyond a threshold is beyond a nearer one. -/
theorem bey_eas {ab : Bool} {v t s : Int} (h : 0 ≤ s) (b : bey ab v t = true) : bey ab v (eas ab t s) = true := by
  unfold bey eas at *
  cases ab <;> simp at * <;> omega
theorem lev_far {R : Ru} (p : MayP R) {v : Int} (st : Int) (h1 : bey R.ab v (eas R.ab R.wa R.sl) = false) (h2 : bey R.ab v (eas R.ab R.cr R.sl) = false) : lev R st v = 1 := by
  have b1 : bey R.ab v R.wa = false := by
    cases e : bey R.ab v R.wa
    · rfl
    · rw [bey_eas p.sl e] at h1; cases h1
  have b2 : bey R.ab v R.cr = false := by
    cases e : bey R.ab v R.cr
    · rfl
    · rw [bey_eas p.sl e] at h2; cases h2
  unfold lev levC levW levF
  rw [h1, h2, b1, b2]
  simp
theorem lev_crit {R : Ru} (p : MayP R) (st : Int) : lev R st R.cr = 3 := by
  have b0 : bey R.ab R.cr R.cr = true := by unfold bey; cases R.ab <;> simp
  have b1 := bey_eas p.sl b0
  unfold lev levC levW levF
  rw [b0, b1]
  simp
/-- A value that is far: fine at once. -/
theorem far_fine {R : Ru} (p : MayP R) (s : St) (t v : Int) (h : St14 s.st) (h1 : bey R.ab v (eas R.ab R.wa R.sl) = false) (h2 : bey R.ab v (eas R.ab R.cr R.sl) = false) : (stepS R s t true v).st = 1 := by
  unfold stepS valS
  simp only [if_true]
  rw [lev_far p _ h1 h2]
  unfold movS
  simp only
  split
  · rename_i e; exact e.symm
  · rename_i e
    rw [if_pos (by right; obtain ⟨a, b⟩ := h; omega)]
    rfl
theorem val_low (R : Ru) (s : St) (t v : Int) : (stepS R s t true v).st ≤ 3 ∨ (stepS R s t true v).st = s.st ∧ s.st ≠ 4 := by
  unfold stepS valS
  simp only [if_true]
  have hl : lev R s.st v ≤ 3 := by rcases lev_is R s.st v with e | e | e <;> omega
  unfold movS mov1 entS
  simp only
  repeat' split
  all_goals first | (left; simp; omega) | (left; simp_all; omega) | (right; simp_all)
/-- Behind j values at the threshold. -/
def CrI (R : Ru) (j : Int) (s : St) : Prop := s.st = 3 ∨ (s.st < 3 ∧ (j = 0 ∨ (s.cand = 3 ∧ j ≤ s.runs)))
theorem crit_step {R : Ru} (p : MayP R) (s : St) (t j : Int) (r : RunsOk R s) (j0 : 0 ≤ j) (h : CrI R j s) : CrI R (j + 1) (stepS R s t true R.cr) := by
  obtain ⟨r0, r1⟩ := r
  have q := p.fr
  have e := pl1_small r0 (by omega)
  have e0 : pl1 0 = 1 := rfl
  unfold stepS valS
  simp only [if_true]
  rw [lev_crit p]
  rcases h with h | ⟨h, c⟩
  · left
    unfold movS
    simp only
    rw [if_pos h.symm]
    exact h
  · unfold movS
    simp only
    rw [if_neg (by omega), if_neg (by omega)]
    unfold mov1
    simp only
    by_cases k : s.cand = 3
    · rw [if_pos k]
      simp only [e]
      split
      · left; rfl
      · right
        refine ⟨h, .inr ⟨k, ?_⟩⟩
        simp
        rcases c with c | ⟨_, c⟩ <;> omega
    · rw [if_neg k]
      simp only [e0]
      split
      · left; rfl
      · right
        refine ⟨h, .inr ⟨rfl, ?_⟩⟩
        simp
        rcases c with c | ⟨c, _⟩
        · omega
        · exact absurd c k
theorem crit_end {R : Ru} {s : St} (r : RunsOk R s) (f : 1 ≤ R.fr) (h : CrI R R.fr s) : s.st = 3 := by
  obtain ⟨r0, r1⟩ := r
  rcases h with h | ⟨_, h | ⟨_, h⟩⟩
  · exact h
  · omega
  · omega
/-- Between the calls of AlarmSlack. -/
structure SlR (w wr : World) (bb mb b : Nat) (R : Ru) (s : St) (t : Int) (a c : Int) : Prop where
  ch : ChR w wr bb mb b R s
  fb : Row wr (w.heap.size + 1) 0 [.int .i64 a, .int .u64 c]
  lb : w.heap.size + 1 < b
  runs : RunsOk R s
  last : s.last ≤ t
theorem SlR.later {w wr w' : World} {bb mb b : Nat} {R : Ru} {s : St} {t a c : Int} (h : SlR w wr bb mb b R s t a c) (k : Below wr.heap.size wr w') : SlR w w' bb mb b R s t a c := ⟨h.ch.later k, h.fb.later k, h.lb, h.runs, h.last⟩
theorem sl_feed {w wr : World} {bb mb b : Nat} {R : Ru} {s : St} {t a c : Int} (p : MayP R) (h : SlR w wr bb mb b R s t a c) (hs : R.nm.size ≤ maxLen) (t0 : 0 ≤ t) (t1 : t ≤ 1073741824) (v1 v0 : Int) (is : Bool) (iv : IsW (v1, v0)) :
    Calls Try.prog 12 #[.pointer (some ⟨bb, 0, none⟩), .string R.nm, .int .i64 (t + 1), .agg #[.bool is, .int .i64 v1, .int .u64 v0]] wr fun e w' => ∃ v, e = .returned (.tuple #[v, .int .i64 0]) ∧ SlR w w' bb mb b R (fedS R s (t + 1) is (V v1 v0)) (t + 1) a c ∧ Mod [b] wr w' := by
  have k := feed_any h.ch.bk R s List.mem_cons_self hs (t + 1) v1 v0 is iv
  have he : feE s (t + 1) = 0 := by unfold feE; rw [if_pos (by omega), if_neg (by have := h.last; omega)]
  have e1 : feS R s (t + 1) is (V v1 v0) = fedS R s (t + 1) is (V v1 v0) := by unfold feS; rw [if_pos he]
  have fi := fedS_is R s (t + 1) is (V v1 v0)
  rw [he, e1] at k
  refine Calls.mono k ?_
  rintro e w' ⟨v, rfl, _, fr, bk, m⟩
  rw [updL_one] at bk
  have nb : w.heap.size + 1 ∉ [b] := by have := h.lb; simp; omega
  refine ⟨v, rfl, ⟨h.ch.call m bk (fedS_said R s _ is _ h.ch.st), h.fb.mod m nb, h.lb, ?_, by rw [fi.2.2.2]; omega⟩, m⟩
  have r := stepS_runs p s (t + 1) is (V v1 v0) h.runs
  unfold RunsOk
  rw [fi.2.1]
  exact r
end Go.Proofs.Ytnlefakicjojdaa
/- AlarmSides: a rule and its mirror: the pure facts, and both books side by side. -/
namespace Go.Proofs.Ytnlefakicjojdaa
set_option linter.unusedVariables false
set_option linter.unusedSimpArgs false
open Go.RowKit W Go.Maps
/-- The rule turned round. -/
structure Mir (R U : Ru) : Prop where
  nm : U.nm = R.nm
  ab : U.ab = !R.ab
  wa : U.wa = -R.wa
  cr : U.cr = -R.cr
  sl : U.sl = R.sl
  fr : U.fr = R.fr
  an : U.an = R.an
  ag : U.ag = R.ag
theorem bey_mir (a : Bool) (v t : Int) : bey (!a) (-v) (-t) = bey a v t := by
  unfold bey; cases a <;> simp <;> omega
theorem eas_mir (a : Bool) (t s : Int) : eas (!a) (-t) s = -(eas a t s) := by
  unfold eas; cases a <;> simp <;> omega
theorem lev_mir {R U : Ru} (m : Mir R U) (st v : Int) : lev U st (-v) = lev R st v := by
  unfold lev levC levW levF
  rw [m.ab, m.wa, m.cr, m.sl]
  simp only [bey_mir, eas_mir]
theorem stepS_mir {R U : Ru} (m : Mir R U) (s : St) (t : Int) (is : Bool) (v v' : Int) (h : is = true → v' = -v) : stepS U s t is v' = stepS R s t is v := by
  unfold stepS
  cases is
  · show gapS U _ = gapS R _
    unfold gapS; rw [m.an]
  · show valS U _ v' = valS R _ v
    rw [h rfl]
    unfold valS movS
    rw [lev_mir m, m.fr]
theorem sayB_mir {R U : Ru} (m : Mir R U) (s : St) (t : Int) : sayB U s t = sayB R s t := by
  unfold sayB dueB; rw [m.ag]
theorem fedS_mir {R U : Ru} (m : Mir R U) (s : St) (t : Int) (is : Bool) (v v' : Int) (h : is = true → v' = -v) : fedS U s t is v' = fedS R s t is v := by
  unfold fedS sayS; rw [stepS_mir m s t is v v' h, sayB_mir m]
theorem feS_mir {R U : Ru} (m : Mir R U) (s : St) (t : Int) (is : Bool) (v v' : Int) (h : is = true → v' = -v) : feS U s t is v' = feS R s t is v := by
  unfold feS; rw [fedS_mir m s t is v v' h]
theorem mayB_mir {R U : Ru} (m : Mir R U) (h : mayB R = true) : mayB U = true := by
  unfold mayB at *
  rw [m.nm, m.ab, m.wa, m.cr, m.sl, m.fr, m.an, m.ag]
  simp only [Bool.and_eq_true, decide_eq_true_eq] at *
  obtain ⟨h1, h2, h3, h4, h5, h6, h7⟩ := h
  refine ⟨h1, ?_, ?_, h4, h5, ?_, h7⟩
  · unfold Mod100 at *; omega
  · unfold Mod100 at *; omega
  · cases hab : R.ab <;> rw [hab] at h6 <;> simp at h6 ⊢ <;> omega
/-- What both say: nothing, or a word that is alike but for the value. -/
theorem feO_mir {R U : Ru} (m : Mir R U) (s : St) (t : Int) (is : Bool) (v1 v0 y1 y0 : Int) (h : is = true → V y1 y0 = -(V v1 v0)) :
    (feO R s t is v1 v0 = none ∧ feO U s t is y1 y0 = none) ∨
    ∃ (F T : Int) (A : Bool) (a1 a0 b1 b0 : Int), feO R s t is v1 v0 = some [.string R.nm, .int .i64 t, .int .i64 F, .int .i64 T, .bool A, .bool is, .int .i64 a1, .int .u64 a0] ∧ feO U s t is y1 y0 = some [.string R.nm, .int .i64 t, .int .i64 F, .int .i64 T, .bool A, .bool is, .int .i64 b1, .int .u64 b0] := by
  unfold feO
  by_cases e : feE s t = 0
  · rw [if_pos e, if_pos e]
    unfold fedO sayO
    rw [stepS_mir m s t is (V v1 v0) (V y1 y0) h, sayB_mir m, m.nm]
    cases sayB R (stepS R s t is (V v1 v0)) t
    · exact .inl ⟨rfl, rfl⟩
    · exact .inr ⟨_, _, _, _, _, _, _, rfl, rfl⟩
  · rw [if_neg e, if_neg e]
    exact .inl ⟨rfl, rfl⟩
theorem stepS_st14 {R : Ru} {s : St} {t : Int} {is : Bool} {v : Int} (h : St14 s.st ∧ St14 s.said) : St14 (feS R s t is v).st ∧ St14 (feS R s t is v).said := by
  unfold feS
  split
  · unfold fedS sayS
    have q := stepS_st R s t is v h.1
    have q2 := (stepS_keeps R s t is v).1
    split
    · exact ⟨q, q⟩
    · exact ⟨q, by rw [q2]; exact h.2⟩
  · exact h
/-- Between the calls: two books, the rule's box. -/
structure Ch2 (w wr : World) (bb mb b b2 m2 c2 : Nat) (R U : Ru) (s u : St) : Prop where
  bk : BookA wr bb mb [(R, s, b)]
  bk2 : BookA wr b2 m2 [(U, u, c2)]
  rl : Row wr w.heap.size 0 (ruL R)
  below : Below w.heap.size w wr
  lb : w.heap.size < b
  lc : w.heap.size < c2
  n1 : b ≠ b2 ∧ b ≠ m2 ∧ b ≠ c2
  n2 : c2 ≠ bb ∧ c2 ≠ mb
  st : St14 s.st ∧ St14 s.said
theorem Ch2.lt {w wr : World} {bb mb b b2 m2 c2 : Nat} {R U : Ru} {s u : St} (h : Ch2 w wr bb mb b b2 m2 c2 R U s u) : b < wr.heap.size ∧ c2 < wr.heap.size := ⟨(h.bk.wat _ List.mem_cons_self).lt, (h.bk2.wat _ List.mem_cons_self).lt⟩
theorem Ch2.later {w wr w' : World} {bb mb b b2 m2 c2 : Nat} {R U : Ru} {s u : St} (h : Ch2 w wr bb mb b b2 m2 c2 R U s u) (k : Below wr.heap.size wr w') : Ch2 w w' bb mb b b2 m2 c2 R U s u :=
  ⟨h.bk.later k, h.bk2.later k, h.rl.later k, h.below.trans (k.mono h.below.size), h.lb, h.lc, h.n1, h.n2, h.st⟩
theorem Ch2.apart {w w0 wr w' : World} {bb mb b b2 m2 c2 : Nat} {R U : Ru} {s u s' u' : St} (h0 : Ch2 w w0 bb mb b b2 m2 c2 R U s u) (h : Ch2 w wr bb mb b b2 m2 c2 R U s' u') {x : Nat} (hx : w0.heap.size ≤ x) (k : Mod [x] wr w') : Ch2 w w' bb mb b b2 m2 c2 R U s' u' := by
  have a1 := h0.bk.lt
  have a2 := h0.bk.map.lt
  have a3 := h0.lt.1
  have b1 := h0.bk2.lt
  have b2' := h0.bk2.map.lt
  have b3 := h0.lt.2
  have c1 := h0.rl.lt
  have c2' := h0.below.size
  exact ⟨h.bk.mod k (by simp; omega) (by simp; omega) (by simp; omega), h.bk2.mod k (by simp; omega) (by simp; omega) (by simp; omega), h.rl.mod k (by simp; omega), h.below.trans (k.below h.below.size (by intro y hy; simp at hy; omega)), h.lb, h.lc, h.n1, h.n2, h.st⟩
theorem ch2_feedA {w wr : World} {bb mb b b2 m2 c2 : Nat} {R U : Ru} {s u : St} (h : Ch2 w wr bb mb b b2 m2 c2 R U s u) (hs : R.nm.size ≤ maxLen) (t v1 v0 : Int) (is : Bool) (iv : IsW (v1, v0)) :
    Calls Try.prog 12 #[.pointer (some ⟨bb, 0, none⟩), .string R.nm, .int .i64 t, .agg #[.bool is, .int .i64 v1, .int .u64 v0]] wr fun e w' => ∃ v, e = .returned (.tuple #[v, .int .i64 (feE s t)]) ∧ AlOut w' v (feO R s t is v1 v0) ∧ (∀ g, v.ownBlock = some g → wr.heap.size ≤ g) ∧ Ch2 w w' bb mb b b2 m2 c2 R U (feS R s t is (V v1 v0)) u ∧ Mod [b] wr w' := by
  refine Calls.mono (feed_any h.bk R s List.mem_cons_self hs t v1 v0 is iv) ?_
  rintro e w' ⟨v, rfl, o, fr, bk, m⟩
  rw [updL_one] at bk
  refine ⟨v, rfl, o, fr, ⟨bk, h.bk2.mod m (by simp; exact fun e => h.n1.1 e.symm) (by simp; exact fun e => h.n1.2.1 e.symm) (by simp; exact fun e => h.n1.2.2 e.symm), h.rl.mod m (by have := h.lb; simp; omega), h.below.trans (m.below h.below.size (by have := h.lb; intro x hx; simp at hx; omega)), h.lb, h.lc, h.n1, h.n2, stepS_st14 h.st⟩, m⟩
theorem ch2_feedB {w wr : World} {bb mb b b2 m2 c2 : Nat} {R U : Ru} {s u : St} (h : Ch2 w wr bb mb b b2 m2 c2 R U s u) (nm : U.nm = R.nm) (hs : R.nm.size ≤ maxLen) (t v1 v0 : Int) (is : Bool) (iv : IsW (v1, v0)) :
    Calls Try.prog 12 #[.pointer (some ⟨b2, 0, none⟩), .string R.nm, .int .i64 t, .agg #[.bool is, .int .i64 v1, .int .u64 v0]] wr fun e w' => ∃ v, e = .returned (.tuple #[v, .int .i64 (feE u t)]) ∧ AlOut w' v (feO U u t is v1 v0) ∧ (∀ g, v.ownBlock = some g → wr.heap.size ≤ g) ∧ Ch2 w w' bb mb b b2 m2 c2 R U s (feS U u t is (V v1 v0)) ∧ Mod [c2] wr w' := by
  have K := feed_any h.bk2 U u List.mem_cons_self (by rw [nm]; exact hs) t v1 v0 is iv
  rw [nm] at K
  refine Calls.mono K ?_
  rintro e w' ⟨v, rfl, o, fr, bk, m⟩
  rw [updL_one] at bk
  refine ⟨v, rfl, o, fr, ⟨h.bk.mod m (by simp; exact fun e => h.n2.1 e.symm) (by simp; exact fun e => h.n2.2 e.symm) (by simp; exact h.n1.2.2), bk, h.rl.mod m (by have := h.lc; simp; omega), h.below.trans (m.below h.below.size (by have := h.lc; intro x hx; simp at hx; omega)), h.lb, h.lc, h.n1, h.n2, h.st⟩, m⟩
theorem ch2_stateA {w wr : World} {bb mb b b2 m2 c2 : Nat} {R U : Ru} {s u : St} (h : Ch2 w wr bb mb b b2 m2 c2 R U s u) (hs : R.nm.size ≤ maxLen) :
    CalcN 17 #[.pointer (some ⟨bb, 0, none⟩), .string R.nm] wr (.tuple #[.int .i64 s.st, .bool true]) := state_any h.bk R s List.mem_cons_self hs
theorem ch2_stateB {w wr : World} {bb mb b b2 m2 c2 : Nat} {R U : Ru} {s u : St} (h : Ch2 w wr bb mb b b2 m2 c2 R U s u) (nm : U.nm = R.nm) (hs : R.nm.size ≤ maxLen) :
    CalcN 17 #[.pointer (some ⟨b2, 0, none⟩), .string R.nm] wr (.tuple #[.int .i64 u.st, .bool true]) := by
  have K := state_any h.bk2 U u List.mem_cons_self (by rw [nm]; exact hs)
  rw [nm] at K
  exact K
end Go.Proofs.Ytnlefakicjojdaa
/- AlarmSides: the law's walk. -/
namespace Go.Proofs.Ytnlefakicjojdaa
set_option linter.unusedVariables false
set_option linter.unusedSimpArgs false
open Go.RowKit W Go.Maps
theorem neg_any (a b : Int) (i : IsW (a, b)) : ∃ x1 x0 er : Int, IsW (x1, x0) ∧ (Fits (-(V a b)) → V x1 x0 = -(V a b) ∧ er = 0) ∧ (¬ Fits (-(V a b)) → er = 10) ∧
    ∀ w : World, Calls Try.prog 22 #[.agg #[.int .i64 a, .int .u64 b]] w fun e w' => e = .returned (.tuple #[.agg #[.int .i64 x1, .int .u64 x0], .int .i64 er]) ∧ Below w.heap.size w w' :=
  ⟨_, _, _, isW_res _, fun f => ⟨by rw [resV_fits f]; exact V_hi_lo _, resE_fits f⟩, fun f => resE_not f, fun w => neg_spec a b i w⟩
def swp (R : Ru) (x1 x0 y1 y0 : Int) : Ru := { R with ab := !R.ab, w1 := x1, w0 := x0, c1 := y1, c0 := y0 }
theorem mir_swp (R : Ru) (x1 x0 y1 y0 : Int) (h1 : V x1 x0 = -R.wa) (h2 : V y1 y0 = -R.cr) : Mir R (swp R x1 x0 y1 y0) := ⟨rfl, rfl, h1, h2, rfl, rfl, rfl, rfl⟩
set_option maxRecDepth 100000 in
set_option maxHeartbeats 8000000 in
theorem sides_no (R : Ru) (i : RuW R) (hs : R.nm.size ≤ maxLen) (m : mayB R = false) (l : Value) (w : World) : Calls Try.prog 7 #[ruV R, l] w fun e w' => e = .returned (.bool true) ∧ Below w.heap.size w w' := by
  have kO := one_no R i hs m
  obtain ⟨x1, x0, e1, ix, fx, _, kW⟩ := neg_any R.w1 R.w0 i.iw
  obtain ⟨y1, y0, e2, iy, fy, _, kC⟩ := neg_any R.c1 R.c0 i.ic
  have RB := hide (Row.new w (ruL R) 53 _ rfl)
  have BW : Below w.heap.size w (w.alloc (.cells (ruL R).toArray 53)) := (Below.refl _ _).alloc (Nat.le_refl _) _
  clear i m hs fx fy
  unfold ruV at *
  go_enter Try.func7, Try.ntmps7
  go_wp2_with fail
  refine Calls.mono (kW _) ?_
  rintro e w2 ⟨rfl, k2⟩
  have R2 := hide ((RB.out.later ((Below.refl _ _).alloc (Nat.le_refl _) _)).later k2)
  have O2 := hide ((Row.new' _ [.string R.nm, .bool !R.ab, .int .i64 R.w1, .int .u64 R.w0, .int .i64 R.c1, .int .u64 R.c0, .int .i64 R.s1, .int .u64 R.s0, .int .i64 R.fr, .int .i64 R.an, .int .i64 R.ag] _ (w.heap.size + 1) (by simp)).later k2)
  have B2 : Hid (Below w.heap.size w w2) := (BW.alloc (by simp) _).trans (k2.mono (by simp; omega))
  have c4 := R2.out.at0 4 _ rfl
  have c5 := R2.out.at0 5 _ rfl
  have lr := R2.out.lt
  have lo := O2.out.lt
  clear k2 BW RB
  go_wp2_with fail
  refine Calls.mono (kC _) ?_
  rintro e w4 ⟨rfl, k4⟩
  have b4 := ((Below.refl w2.heap.size w2).alloc (Nat.le_refl _) (.cells #[.int .i64 x1, .int .u64 x0] 36)).trans (k4.mono (by simp))
  have R4 := hide (R2.out.later b4)
  have O4 := hide (O2.out.later b4)
  have P4 := hide ((Row.new w2 [.int .i64 x1, .int .u64 x0] 36 _ rfl).later k4)
  have B4 : Hid (Below w.heap.size w w4) := B2.out.trans (b4.mono B2.out.size)
  have l24 := P4.out.lt
  clear c4 c5 k4 b4 B2
  go_upto_region 5 with (fail)
  refine abs_wp (fun W => Hid (Row W w.heap.size 0 (ruL R)) ∧ Hid (Row W (w.heap.size + 1) 0 [.string R.nm, .bool !R.ab, .int .i64 R.w1, .int .u64 R.w0, .int .i64 R.c1, .int .u64 R.c0, .int .i64 R.s1, .int .u64 R.s0, .int .i64 R.fr, .int .i64 R.an, .int .i64 R.ag]) ∧ Hid (Row W w2.heap.size 0 [.int .i64 x1, .int .u64 x0]) ∧ Hid (Row W w4.heap.size 0 [.int .i64 y1, .int .u64 y0]) ∧ Hid (Below w.heap.size w W)) ?_ ?_
  · have b5 := (Below.refl w4.heap.size w4).alloc (Nat.le_refl _) (.cells #[.int .i64 y1, .int .u64 y0] 36)
    exact ⟨R4.out.later b5, O4.out.later b5, P4.out.later b5, Row.new _ [_, _] _ _ rfl, B4.out.trans (b5.mono B4.out.size)⟩
  rintro W5 ⟨R5, O5, P5, Q5, B5⟩
  clear R4 O4 P4 B4 R2 O2
  have p0 := P5.out.at0 0 _ rfl
  have p1 := P5.out.at0 1 _ rfl
  have q0 := Q5.out.at0 0 _ rfl
  have q1 := Q5.out.at0 1 _ rfl
  have o2 := O5.out.at0 2 _ rfl
  have o3 := O5.out.at0 3 _ rfl
  have o4 := O5.out.at0 4 _ rfl
  have o5 := O5.out.at0 5 _ rfl
  have f2 := O5.out.fr0 2 (by simp)
  have f3 := O5.out.fr0 3 (by simp)
  have f4 := O5.out.fr0 4 (by simp)
  have f5 := O5.out.fr0 5 (by simp)
  have lo5 := O5.out.lt
  have lp5 := P5.out.lt
  have lq5 := Q5.out.lt
  have n1 : ¬ w2.heap.size = w.heap.size + 1 := by omega
  have n2 : ¬ w4.heap.size = w.heap.size + 1 := by omega
  have n3 : ¬ w.heap.size + 1 = w2.heap.size := by omega
  have n4 : ¬ w.heap.size + 1 = w4.heap.size := by omega
  go_region
  go_upto_region 6 with (fail)
  refine abs_wp (fun W => Hid (Row W w.heap.size 0 (ruL R)) ∧ Hid (Row W (w.heap.size + 1) 0 [.string R.nm, .bool !R.ab, .int .i64 x1, .int .u64 x0, .int .i64 y1, .int .u64 y0, .int .i64 R.s1, .int .u64 R.s0, .int .i64 R.fr, .int .i64 R.an, .int .i64 R.ag]) ∧ Hid (Below w.heap.size w W)) ?_ ?_
  · refine ⟨hide ?_, hide ?_, hide ?_⟩
    · exact Row.drew ((((R5.out.apart (.inl (by simp)) _).apart (.inl (by simp)) _).apart (.inl (by simp)) _).apart (.inl (by simp)) _)
    · exact Row.drew ((((O5.out.set0 2 (by simp) (.int .i64 x1)).set0 3 (by simp) (.int .u64 x0)).set0 4 (by simp) (.int .i64 y1)).set0 5 (by simp) (.int .u64 y0))
    · exact Below.drew ((((B5.out.setCell (by simp) _).setCell (by simp) _).setCell (by simp) _).setCell (by simp) _)
  clear p0 p1 q0 q1 o2 o3 o4 o5 f2 f3 f4 f5 lo5 lp5 lq5 n1 n2 n3 n4 R5 O5 P5 Q5 B5 lr lo l24
  rintro W6 ⟨R6, O6, B6⟩
  have d0 := R6.out.at0 0 _ rfl
  have d1 := R6.out.at0 1 _ rfl
  have d2 := R6.out.at0 2 _ rfl
  have d3 := R6.out.at0 3 _ rfl
  have d4 := R6.out.at0 4 _ rfl
  have d5 := R6.out.at0 5 _ rfl
  have d6 := R6.out.at0 6 _ rfl
  have d7 := R6.out.at0 7 _ rfl
  have d8 := R6.out.at0 8 _ rfl
  have d9 := R6.out.at0 9 _ rfl
  have d10 := R6.out.at0 10 _ rfl
  have lr := R6.out.lt
  go_wp2_with fail
  refine Calls.mono (kO _) ?_
  rintro e w7 ⟨rfl, k7⟩
  have B7 := hide (B6.out.trans (k7.mono B6.out.size))
  clear k7 d0 d1 d2 d3 d4 d5 d6 d7 d8 d9 d10 lr R6 O6 kO B6
  go_wp2_with fail
  refine (alive_spec _).mono ?_
  rintro e w3 ⟨rfl, k3⟩
  have B3 : Hid (Below w.heap.size w w3) := B7.out.trans (k3.mono B7.out.size)
  clear k3
  go_wp2_with fail
  go_returns
  exact ⟨rfl, B3.out⟩
set_option maxRecDepth 100000 in
set_option maxHeartbeats 16000000 in
theorem sides_yes (R : Ru) (i : RuW R) (hs : R.nm.size ≤ maxLen) (m : mayB R = true) (a : Option Addr) (n cap : Nat) (L : List Op6) (hn : L.length = n) (hn8 : n ≤ 140737488355328) (w : World) (hL : IsSc w a L) : Calls Try.prog 7 #[ruV R, .slice a n cap] w fun e w' => e = .returned (.bool true) ∧ Below w.heap.size w w' := by
  have kO := one_yes R i hs m
  obtain ⟨x1, x0, e1, ix, fx, _, kW⟩ := neg_any R.w1 R.w0 i.iw
  obtain ⟨y1, y0, e2, iy, fy, _, kC⟩ := neg_any R.c1 R.c0 i.ic
  have fitW : Fits (-(V R.w1 R.w0)) ∧ Fits (-(V R.c1 R.c0)) := by
    have q := m
    unfold mayB at q
    simp only [Bool.and_eq_true, decide_eq_true_eq] at q
    obtain ⟨_, q2, q3, _⟩ := q
    unfold Mod100 Ru.wa at q2
    unfold Mod100 Ru.cr at q3
    exact ⟨⟨by omega, by omega⟩, ⟨by omega, by omega⟩⟩
  obtain ⟨vx, rfl⟩ := fx fitW.1
  obtain ⟨vy, rfl⟩ := fy fitW.2
  obtain ⟨U, hU⟩ : ∃ U, U = swp R x1 x0 y1 y0 := ⟨_, rfl⟩
  have MI : Hid (Mir R U) := hide (hU ▸ mir_swp R x1 x0 y1 y0 vx vy)
  have kO2 := one_yes U (hU ▸ ⟨ix, iy, i.is⟩) (by rw [hU]; exact hs) (mayB_mir MI.out m)
  have eU : ruV U = .agg #[.string R.nm, .bool !R.ab, .int .i64 x1, .int .u64 x0, .int .i64 y1, .int .u64 y0, .int .i64 R.s1, .int .u64 R.s0, .int .i64 R.fr, .int .i64 R.an, .int .i64 R.ag] := by rw [hU]; rfl
  rw [eU] at kO2
  have RB := hide (Row.new w (ruL R) 53 _ rfl)
  have BW : Below w.heap.size w (w.alloc (.cells (ruL R).toArray 53)) := (Below.refl _ _).alloc (Nat.le_refl _) _
  have HL := hide hL
  have HN := hide hn
  have HS := hide hs
  clear i m hL hn hs fx fy fitW vx vy hU eU
  unfold ruV at *
  go_enter Try.func7, Try.ntmps7
  go_wp2_with fail
  refine Calls.mono (kW _) ?_
  rintro e w2 ⟨rfl, k2⟩
  have R2 := hide ((RB.out.later ((Below.refl _ _).alloc (Nat.le_refl _) _)).later k2)
  have O2 := hide ((Row.new' _ [.string R.nm, .bool !R.ab, .int .i64 R.w1, .int .u64 R.w0, .int .i64 R.c1, .int .u64 R.c0, .int .i64 R.s1, .int .u64 R.s0, .int .i64 R.fr, .int .i64 R.an, .int .i64 R.ag] _ (w.heap.size + 1) (by simp)).later k2)
  have B2 : Hid (Below w.heap.size w w2) := (BW.alloc (by simp) _).trans (k2.mono (by simp; omega))
  have c4 := R2.out.at0 4 _ rfl
  have c5 := R2.out.at0 5 _ rfl
  have lr := R2.out.lt
  have lo := O2.out.lt
  clear k2 BW RB
  go_wp2_with fail
  refine Calls.mono (kC _) ?_
  rintro e w4 ⟨rfl, k4⟩
  have b4 := ((Below.refl w2.heap.size w2).alloc (Nat.le_refl _) (.cells #[.int .i64 x1, .int .u64 x0] 36)).trans (k4.mono (by simp))
  have R4 := hide (R2.out.later b4)
  have O4 := hide (O2.out.later b4)
  have P4 := hide ((Row.new w2 [.int .i64 x1, .int .u64 x0] 36 _ rfl).later k4)
  have B4 : Hid (Below w.heap.size w w4) := B2.out.trans (b4.mono B2.out.size)
  have l24 := P4.out.lt
  clear c4 c5 k4 b4 B2
  go_upto_region 5 with (fail)
  refine abs_wp (fun W => Hid (Row W w.heap.size 0 (ruL R)) ∧ Hid (Row W (w.heap.size + 1) 0 [.string R.nm, .bool !R.ab, .int .i64 R.w1, .int .u64 R.w0, .int .i64 R.c1, .int .u64 R.c0, .int .i64 R.s1, .int .u64 R.s0, .int .i64 R.fr, .int .i64 R.an, .int .i64 R.ag]) ∧ Hid (Row W w2.heap.size 0 [.int .i64 x1, .int .u64 x0]) ∧ Hid (Row W w4.heap.size 0 [.int .i64 y1, .int .u64 y0]) ∧ Hid (Below w.heap.size w W)) ?_ ?_
  · have b5 := (Below.refl w4.heap.size w4).alloc (Nat.le_refl _) (.cells #[.int .i64 y1, .int .u64 y0] 36)
    exact ⟨R4.out.later b5, O4.out.later b5, P4.out.later b5, Row.new _ [_, _] _ _ rfl, B4.out.trans (b5.mono B4.out.size)⟩
  rintro W5 ⟨R5, O5, P5, Q5, B5⟩
  clear R4 O4 P4 B4 R2 O2
  have p0 := P5.out.at0 0 _ rfl
  have p1 := P5.out.at0 1 _ rfl
  have q0 := Q5.out.at0 0 _ rfl
  have q1 := Q5.out.at0 1 _ rfl
  have o2 := O5.out.at0 2 _ rfl
  have o3 := O5.out.at0 3 _ rfl
  have o4 := O5.out.at0 4 _ rfl
  have o5 := O5.out.at0 5 _ rfl
  have f2 := O5.out.fr0 2 (by simp)
  have f3 := O5.out.fr0 3 (by simp)
  have f4 := O5.out.fr0 4 (by simp)
  have f5 := O5.out.fr0 5 (by simp)
  have lo5 := O5.out.lt
  have lp5 := P5.out.lt
  have lq5 := Q5.out.lt
  have n1 : ¬ w2.heap.size = w.heap.size + 1 := by omega
  have n2 : ¬ w4.heap.size = w.heap.size + 1 := by omega
  have n3 : ¬ w.heap.size + 1 = w2.heap.size := by omega
  have n4 : ¬ w.heap.size + 1 = w4.heap.size := by omega
  go_region
  go_upto_region 6 with (fail)
  refine abs_wp (fun W => Hid (Row W w.heap.size 0 (ruL R)) ∧ Hid (Row W (w.heap.size + 1) 0 [.string R.nm, .bool !R.ab, .int .i64 x1, .int .u64 x0, .int .i64 y1, .int .u64 y0, .int .i64 R.s1, .int .u64 R.s0, .int .i64 R.fr, .int .i64 R.an, .int .i64 R.ag]) ∧ Hid (Below w.heap.size w W)) ?_ ?_
  · refine ⟨hide ?_, hide ?_, hide ?_⟩
    · exact Row.drew ((((R5.out.apart (.inl (by simp)) _).apart (.inl (by simp)) _).apart (.inl (by simp)) _).apart (.inl (by simp)) _)
    · exact Row.drew ((((O5.out.set0 2 (by simp) (.int .i64 x1)).set0 3 (by simp) (.int .u64 x0)).set0 4 (by simp) (.int .i64 y1)).set0 5 (by simp) (.int .u64 y0))
    · exact Below.drew ((((B5.out.setCell (by simp) _).setCell (by simp) _).setCell (by simp) _).setCell (by simp) _)
  clear p0 p1 q0 q1 o2 o3 o4 o5 f2 f3 f4 f5 lo5 lp5 lq5 n1 n2 n3 n4 R5 O5 P5 Q5 B5 lr lo l24
  rintro W6 ⟨R6, O6, B6⟩
  have d0 := R6.out.at0 0 _ rfl
  have d1 := R6.out.at0 1 _ rfl
  have d2 := R6.out.at0 2 _ rfl
  have d3 := R6.out.at0 3 _ rfl
  have d4 := R6.out.at0 4 _ rfl
  have d5 := R6.out.at0 5 _ rfl
  have d6 := R6.out.at0 6 _ rfl
  have d7 := R6.out.at0 7 _ rfl
  have d8 := R6.out.at0 8 _ rfl
  have d9 := R6.out.at0 9 _ rfl
  have d10 := R6.out.at0 10 _ rfl
  have lr := R6.out.lt
  go_wp2_with fail
  refine Calls.mono (kO _) ?_
  rintro e w7 ⟨bb, mb, b, rfl, bk, l1, l2, l3, k7⟩
  have BK := hide bk
  have R7 := hide (R6.out.later k7)
  have O7 := hide (O6.out.later k7)
  have B7 := hide (B6.out.trans (k7.mono B6.out.size))
  have lb := hide (bk.wat _ List.mem_cons_self).lt
  have lbb := hide bk.lt
  have lmb := hide bk.map.lt
  have l67 := k7.size
  have Z6 := B6.out.size
  have lr6 := hide O6.out.lt
  clear bk k7 d0 d1 d2 d3 d4 d5 d6 d7 d8 d9 d10 lr R6 O6 kO
  have d0 := O7.out.at0 0 _ rfl
  have d1 := O7.out.at0 1 _ rfl
  have d2 := O7.out.at0 2 _ rfl
  have d3 := O7.out.at0 3 _ rfl
  have d4 := O7.out.at0 4 _ rfl
  have d5 := O7.out.at0 5 _ rfl
  have d6 := O7.out.at0 6 _ rfl
  have d7 := O7.out.at0 7 _ rfl
  have d8 := O7.out.at0 8 _ rfl
  have d9 := O7.out.at0 9 _ rfl
  have d10 := O7.out.at0 10 _ rfl
  have lr := O7.out.lt
  go_wp2_with fail
  refine Calls.mono (kO2 _) ?_
  rintro e w8 ⟨b2, m2, c2, rfl, bk, j1, j2, j3, k8⟩
  have CH : Hid (Ch2 w w8 bb mb b b2 m2 c2 R U st0 st0) := by
    have := lb.out
    have := lbb.out
    have := lmb.out
    have sz : w.heap.size < W6.heap.size := by have := lr6.out; omega
    exact hide ⟨BK.out.later k8, bk, R7.out.later k8, B7.out.trans (k8.mono B7.out.size), by omega, by omega, ⟨by omega, by omega, by omega⟩, ⟨by omega, by omega⟩, ⟨by decide, by decide⟩, ⟨by decide, by decide⟩⟩
  clear lr6 k8 bk d0 d1 d2 d3 d4 d5 d6 d7 d8 d9 d10 lr R7 O7 B7 BK lb lbb lmb l67 Z6 l1 l2 l3 j1 j2 j3 kO2 kW kC B6
  go_wp2_with fail
  go_loopw [16] (fun i wr => ∃ (k : Nat) (s : St), k ≤ n ∧ i = .int .i64 k ∧ Hid (Ch2 w wr bb mb b b2 m2 c2 R U s s)) (fun i _ => n - (intOf i).toNat)
  case atStart => exact ⟨0, st0, by omega, rfl, CH⟩
  case round =>
    obtain ⟨k, s, hk, rfl, CR⟩ := hrel
    by_cases hlt : k < n
    · have kL : k < L.length := by have := HN.out; omega
      obtain ⟨g, o, rfl, SA⟩ := HL.out.2.resolve_left (by intro e; rw [e] at kL; simp at kL)
      have SC := SA.later CR.out.below
      obtain ⟨q, hq⟩ : ∃ q, q = L[k] := ⟨_, rfl⟩
      have IV := hide (HL.out.1 q (by rw [hq]; exact List.getElem_mem _)).1
      have RC := fun j v => SC.cell k kL j v
      rw [← hq] at RC
      obtain ⟨kd, nm, t, is, v1, v0⟩ := q
      simp only at IV
      have r0 : wr.cell? ⟨g, o + k * 6, none⟩ = some (.int .i64 kd) := RC 0 _ rfl
      have r1 := RC 1 _ rfl
      have r2 := RC 2 _ rfl
      have r3 := RC 3 _ rfl
      have r4 := RC 4 _ rfl
      have r5 := RC 5 _ rfl
      simp only at r1 r2 r3 r4 r5
      have hlt' : (k : Int) < (n : Int) := by omega
      have RO := hide (Row.new wr [.int .i64 kd, .string nm, .int .i64 t, .bool is, .int .i64 v1, .int .u64 v0] 40 _ rfl)
      have BO : Below wr.heap.size wr (wr.alloc (.cells [.int .i64 kd, .string nm, .int .i64 t, .bool is, .int .i64 v1, .int .u64 v0].toArray 40)) := (Below.refl _ _).alloc (Nat.le_refl _) _
      have BP : Below (wr.heap.size + 1) (wr.alloc (.cells [.int .i64 kd, .string nm, .int .i64 t, .bool is, .int .i64 v1, .int .u64 v0].toArray 40)) ((wr.alloc (.cells [.int .i64 kd, .string nm, .int .i64 t, .bool is, .int .i64 v1, .int .u64 v0].toArray 40)).alloc (.cells [.bool is, .int .i64 v1, .int .u64 v0].toArray 38)) := (Below.refl _ _).alloc (by simp) _
      have RO2 := hide (RO.out.later (by simpa using BP))
      have RD := hide (Row.new' (wr.alloc (.cells [.int .i64 kd, .string nm, .int .i64 t, .bool is, .int .i64 v1, .int .u64 v0].toArray 40)) [.bool is, .int .i64 v1, .int .u64 v0] 38 (wr.heap.size + 1) (by simp))
      have BQ := hide (BO.trans (BP.mono (by omega)))
      have C1 := hide (CR.out.later BQ.out)
      clear RC SC SA hq kL BO BP RO
      cases is
      · as_aux_lemma =>
        go_upto_region 21 with (fail)
        clear r0 r1 r2 r3 r4 r5
        refine abs_wp (fun W => Hid (Ch2 w W bb mb b b2 m2 c2 R U s s) ∧ Hid (Row W wr.heap.size 0 [.int .i64 kd, .string nm, .int .i64 t, .bool false, .int .i64 v1, .int .u64 v0]) ∧ Hid (Row W (wr.heap.size + 1) 0 [.bool false, .int .i64 v1, .int .u64 v0])) ?_ ?_
        · exact ⟨C1, RO2, RD⟩
        have ltr := CR.out.lt
        clear C1 RO2 RD CR BQ
        rintro W ⟨CW, OW, DW⟩
        have kA := ch2_feedA CW.out HS.out t v1 v0 false IV.out
        have o2 := OW.out.at0 2 _ rfl
        have o3 := OW.out.at0 3 _ rfl
        have o4 := OW.out.at0 4 _ rfl
        have o5 := OW.out.at0 5 _ rfl
        have lo := OW.out.lt
        have r0 := CW.out.rl.at0 0 _ rfl
        have lr := CW.out.rl.lt
        have lt2 := CW.out.lt
        go_wp2_with fail
        refine Calls.mono kA ?_
        rintro e wA ⟨vA, rfl, oA, fA, cA, mA⟩
        have CA := hide cA
        have OA := hide (OW.out.mod mA (by simp; omega))
        have DA := hide (DW.out.mod mA (by simp; omega))
        have lc2 : c2 < W.heap.size := lt2.2
        have kB := ch2_feedB cA MI.out.nm HS.out t v1 v0 false IV.out
        have fs : feS U s t false (V v1 v0) = feS R s t false (V v1 v0) := feS_mir MI.out s t false _ _ (fun e => by cases e)
        rw [fs] at kB
        obtain ⟨s', hs'⟩ : ∃ s', s' = feS R s t false (V v1 v0) := ⟨_, rfl⟩
        rw [← hs'] at kB
        obtain ⟨er, her⟩ : ∃ er, er = feE s t := ⟨_, rfl⟩
        rw [← her] at kB ⊢
        have OM := feO_mir MI.out s t false v1 v0 v1 v0 (fun e => by cases e)
        clear kA o2 o3 o4 o5 lo r0 lr cA mA fs hs' her CW OW DW
        have o2 := OA.out.at0 2 _ rfl
        have lo := OA.out.lt
        have e0 := DA.out.at0 0 _ rfl
        have e1 := DA.out.at0 1 _ rfl
        have e2 := DA.out.at0 2 _ rfl
        have le := DA.out.lt
        have r0 := CA.out.rl.at0 0 _ rfl
        have lr := CA.out.rl.lt
        have HOM := hide OM
        have HOA := hide oA
        have HFA := hide fA
        clear OM oA fA
        go_wp2_with fail
        refine Calls.mono kB ?_
        rintro e wB ⟨vB, rfl, oB, fB, cB, mB⟩
        have CB := hide cB
        clear o2 lo e0 e1 e2 le r0 lr kB cB CA OA DA
        rcases HOM.out with ⟨p, q⟩ | ⟨F, T, A, a1, a0, b1, b0, p, q⟩
        · obtain rfl : vA = .slice none 0 0 := by have := HOA.out; rw [p] at this; exact this
          obtain rfl : vB = .slice none 0 0 := by rw [q] at oB; exact oB
          clear HOM HOA HFA oB fB mB p q
          go_wp2_with fail
          go_loopw [25] (fun j wx => j = .int .i64 0 ∧ Hid (Ch2 w wx bb mb b b2 m2 c2 R U s' s')) (fun j _ => (1 - intOf j).toNat)
          case atStart => exact ⟨rfl, CB⟩
          case round =>
            obtain ⟨rfl, CX⟩ := hrel
            go_wp2_with fail
            go_roundw
            case rel => exact ⟨k + 1, s', by omega, by go_num, CX⟩
            case measure => simp [intOf]; omega
        · obtain ⟨ga, rfl, rA⟩ : ∃ g, vA = .slice (some ⟨g, 0, none⟩) 1 1 ∧ Row wA g 0 [.string R.nm, .int .i64 t, .int .i64 F, .int .i64 T, .bool A, .bool false, .int .i64 a1, .int .u64 a0] := by have := HOA.out; rw [p] at this; exact this
          obtain ⟨gb, rfl, rB⟩ : ∃ g, vB = .slice (some ⟨g, 0, none⟩) 1 1 ∧ Row wB g 0 [.string R.nm, .int .i64 t, .int .i64 F, .int .i64 T, .bool A, .bool false, .int .i64 b1, .int .u64 b0] := by rw [q] at oB; exact oB
          have gl := HFA.out ga rfl
          have RA := hide (rA.mod mB (by simp; omega))
          have RBB := hide rB
          clear HOM HOA HFA oB fB mB p q rA rB gl
          go_wp2_with fail
          go_loopw [25] (fun j wx => ∃ jj : Nat, jj ≤ 1 ∧ j = .int .i64 jj ∧ Hid (Ch2 w wx bb mb b b2 m2 c2 R U s' s') ∧ Hid (Row wx ga 0 [.string R.nm, .int .i64 t, .int .i64 F, .int .i64 T, .bool A, .bool false, .int .i64 a1, .int .u64 a0]) ∧ Hid (Row wx gb 0 [.string R.nm, .int .i64 t, .int .i64 F, .int .i64 T, .bool A, .bool false, .int .i64 b1, .int .u64 b0])) (fun j _ => (1 - intOf j).toNat)
          case atStart => exact ⟨0, by omega, rfl, CB, RA, RBB⟩
          case round =>
            obtain ⟨jj, hjj, rfl, CX, RX, SX⟩ := hrel
            clear CB RA RBB
            by_cases j0 : jj = 0
            · subst j0
              have x1 := RX.out.at0 1 _ rfl
              have x2 := RX.out.at0 2 _ rfl
              have x3 := RX.out.at0 3 _ rfl
              have x4 := RX.out.at0 4 _ rfl
              have lx := RX.out.lt
              have y1 := SX.out.at0 1 _ rfl
              have y2 := SX.out.at0 2 _ rfl
              have y3 := SX.out.at0 3 _ rfl
              have y4 := SX.out.at0 4 _ rfl
              have ly := SX.out.lt
              go_wp2_with fail
              go_quiet (fail)
              have BX := (below_drewN (Below.refl wr.heap.size wr) nq)
              have CX2 := hide (CX.out.later BX)
              have RX2 := hide (RX.out.drewN nq)
              have SX2 := hide (SX.out.drewN nq)
              clear BX
              go_wp2_with fail
              go_roundw
              case rel => exact ⟨1, by omega, rfl, CX2, RX2, SX2⟩
              case measure => simp [intOf]
            · obtain rfl : jj = 1 := by omega
              go_wp2_with fail
              go_roundw
              case rel => exact ⟨k + 1, s', by omega, by go_num, CX⟩
              case measure => simp [intOf]; omega
      · as_aux_lemma =>
        obtain ⟨n1, n0, en, inn, ff, nf, kN⟩ := neg_any v1 v0 IV.out
        have ltr := CR.out.lt
        by_cases fi : Fits (-(V v1 v0))
        · obtain ⟨vn, rfl⟩ := ff fi
          clear ff nf
          go_wp2_with fail
          refine Calls.mono (kN _) ?_
          rintro e w3 ⟨rfl, k3⟩
          have CN := hide (C1.out.later k3)
          have ON := hide (RO2.out.later k3)
          have DN := hide (RD.out.later k3)
          have d0 := DN.out.at0 0 _ rfl
          have d1 := DN.out.at0 1 _ rfl
          have d2 := DN.out.at0 2 _ rfl
          have g1 := DN.out.fr0 1 (by simp)
          have g2 := DN.out.fr0 2 (by simp)
          have ld := DN.out.lt
          have lcr := CR.out.below.size
          clear k3 C1 RO2 RD r0 r1 r2 r3 r4 r5
          go_upto_region 21 with (fail)
          refine abs_wp (fun W => Hid (Ch2 w W bb mb b b2 m2 c2 R U s s) ∧ Hid (Row W wr.heap.size 0 [.int .i64 kd, .string nm, .int .i64 t, .bool true, .int .i64 v1, .int .u64 v0]) ∧ Hid (Row W (wr.heap.size + 1) 0 [.bool true, .int .i64 n1, .int .u64 n0])) ?_ ?_
          · refine ⟨hide ?_, hide ?_, hide ?_⟩
            · exact (CR.out.apart CN.out (by omega) (((Mod.refl [wr.heap.size + 1] w3).setCell (by simp) _).setCell (by simp) _)).later ((Below.refl _ _).alloc (Nat.le_refl _) _)
            · exact ((ON.out.apart (.inl (by simp)) _).apart (.inl (by simp)) _).later ((Below.refl _ _).alloc (Nat.le_refl _) _)
            · exact ((DN.out.set0 1 (by simp) (.int .i64 n1)).set0 2 (by simp) (.int .u64 n0)).later ((Below.refl _ _).alloc (Nat.le_refl _) _)
          clear CN ON DN CR BQ d0 d1 d2 g1 g2 ld
          rintro W ⟨CW, OW, DW⟩
          have kA := ch2_feedA CW.out HS.out t v1 v0 true IV.out
          have o2 := OW.out.at0 2 _ rfl
          have o3 := OW.out.at0 3 _ rfl
          have o4 := OW.out.at0 4 _ rfl
          have o5 := OW.out.at0 5 _ rfl
          have lo := OW.out.lt
          have r0 := CW.out.rl.at0 0 _ rfl
          have lr := CW.out.rl.lt
          have lt2 := CW.out.lt
          go_wp2_with fail
          refine Calls.mono kA ?_
          rintro e wA ⟨vA, rfl, oA, fA, cA, mA⟩
          have CA := hide cA
          have OA := hide (OW.out.mod mA (by simp; omega))
          have DA := hide (DW.out.mod mA (by simp; omega))
          have lc2 : c2 < W.heap.size := lt2.2
          have kB := ch2_feedB cA MI.out.nm HS.out t n1 n0 true inn
          have fs : feS U s t true (V n1 n0) = feS R s t true (V v1 v0) := feS_mir MI.out s t true _ _ (fun _ => vn)
          rw [fs] at kB
          obtain ⟨s', hs'⟩ : ∃ s', s' = feS R s t true (V v1 v0) := ⟨_, rfl⟩
          rw [← hs'] at kB
          obtain ⟨er, her⟩ : ∃ er, er = feE s t := ⟨_, rfl⟩
          rw [← her] at kB ⊢
          have OM := feO_mir MI.out s t true v1 v0 n1 n0 (fun _ => vn)
          clear kA o2 o3 o4 o5 lo r0 lr cA mA fs hs' her CW OW DW
          have o2 := OA.out.at0 2 _ rfl
          have lo := OA.out.lt
          have e0 := DA.out.at0 0 _ rfl
          have e1 := DA.out.at0 1 _ rfl
          have e2 := DA.out.at0 2 _ rfl
          have le := DA.out.lt
          have r0 := CA.out.rl.at0 0 _ rfl
          have lr := CA.out.rl.lt
          have HOM := hide OM
          have HOA := hide oA
          have HFA := hide fA
          clear OM oA fA
          go_wp2_with fail
          refine Calls.mono kB ?_
          rintro e wB ⟨vB, rfl, oB, fB, cB, mB⟩
          have CB := hide cB
          clear o2 lo e0 e1 e2 le r0 lr kB cB CA OA DA
          rcases HOM.out with ⟨p, q⟩ | ⟨F, T, A, a1, a0, b1, b0, p, q⟩
          · obtain rfl : vA = .slice none 0 0 := by have := HOA.out; rw [p] at this; exact this
            obtain rfl : vB = .slice none 0 0 := by rw [q] at oB; exact oB
            clear HOM HOA HFA oB fB mB p q
            go_wp2_with fail
            go_loopw [25] (fun j wx => j = .int .i64 0 ∧ Hid (Ch2 w wx bb mb b b2 m2 c2 R U s' s')) (fun j _ => (1 - intOf j).toNat)
            case atStart => exact ⟨rfl, CB⟩
            case round =>
              obtain ⟨rfl, CX⟩ := hrel
              go_wp2_with fail
              go_roundw
              case rel => exact ⟨k + 1, s', by omega, by go_num, CX⟩
              case measure => simp [intOf]; omega
          · obtain ⟨ga, rfl, rA⟩ : ∃ g, vA = .slice (some ⟨g, 0, none⟩) 1 1 ∧ Row wA g 0 [.string R.nm, .int .i64 t, .int .i64 F, .int .i64 T, .bool A, .bool true, .int .i64 a1, .int .u64 a0] := by have := HOA.out; rw [p] at this; exact this
            obtain ⟨gb, rfl, rB⟩ : ∃ g, vB = .slice (some ⟨g, 0, none⟩) 1 1 ∧ Row wB g 0 [.string R.nm, .int .i64 t, .int .i64 F, .int .i64 T, .bool A, .bool true, .int .i64 b1, .int .u64 b0] := by rw [q] at oB; exact oB
            have gl := HFA.out ga rfl
            have RA := hide (rA.mod mB (by simp; omega))
            have RBB := hide rB
            clear HOM HOA HFA oB fB mB p q rA rB gl
            go_wp2_with fail
            go_loopw [25] (fun j wx => ∃ jj : Nat, jj ≤ 1 ∧ j = .int .i64 jj ∧ Hid (Ch2 w wx bb mb b b2 m2 c2 R U s' s') ∧ Hid (Row wx ga 0 [.string R.nm, .int .i64 t, .int .i64 F, .int .i64 T, .bool A, .bool true, .int .i64 a1, .int .u64 a0]) ∧ Hid (Row wx gb 0 [.string R.nm, .int .i64 t, .int .i64 F, .int .i64 T, .bool A, .bool true, .int .i64 b1, .int .u64 b0])) (fun j _ => (1 - intOf j).toNat)
            case atStart => exact ⟨0, by omega, rfl, CB, RA, RBB⟩
            case round =>
              obtain ⟨jj, hjj, rfl, CX, RX, SX⟩ := hrel
              clear CB RA RBB
              by_cases j0 : jj = 0
              · subst j0
                have x1 := RX.out.at0 1 _ rfl
                have x2 := RX.out.at0 2 _ rfl
                have x3 := RX.out.at0 3 _ rfl
                have x4 := RX.out.at0 4 _ rfl
                have lx := RX.out.lt
                have y1 := SX.out.at0 1 _ rfl
                have y2 := SX.out.at0 2 _ rfl
                have y3 := SX.out.at0 3 _ rfl
                have y4 := SX.out.at0 4 _ rfl
                have ly := SX.out.lt
                go_wp2_with fail
                go_quiet (fail)
                have BX := (below_drewN (Below.refl wr.heap.size wr) nq)
                have CX2 := hide (CX.out.later BX)
                have RX2 := hide (RX.out.drewN nq)
                have SX2 := hide (SX.out.drewN nq)
                clear BX
                go_wp2_with fail
                go_roundw
                case rel => exact ⟨1, by omega, rfl, CX2, RX2, SX2⟩
                case measure => simp [intOf]
              · obtain rfl : jj = 1 := by omega
                go_wp2_with fail
                go_roundw
                case rel => exact ⟨k + 1, s', by omega, by go_num, CX⟩
                case measure => simp [intOf]; omega
        · obtain rfl := nf fi
          clear ff nf
          go_wp2_with fail
          refine Calls.mono (kN _) ?_
          rintro e w3 ⟨rfl, k3⟩
          have CN := hide (C1.out.later k3)
          clear k3 C1 RO2 RD r0 r1 r2 r3 r4 r5
          go_wp2_with fail
          go_roundw
          case rel => exact ⟨k + 1, s, by omega, by go_num, hide (CN.out.later ((Below.refl _ _).alloc (Nat.le_refl _) _))⟩
          case measure => simp [intOf]; omega
    · obtain rfl : k = n := by omega
      have kSA := ch2_stateA CR.out HS.out
      have kSB := ch2_stateB CR.out MI.out.nm HS.out
      have d0 := CR.out.rl.at0 0 _ rfl
      have ld := CR.out.rl.lt
      have g1 : 1 ≤ s.st := CR.out.st.1.1
      have BE := hide CR.out.below
      clear CR HL
      go_wp2_with fail
      refine Calls.mono kSA ?_
      rintro e w' ⟨rfl, rfl⟩
      go_wp2_with fail
      refine Calls.mono kSB ?_
      rintro e w' ⟨rfl, rfl⟩
      go_wp2_with fail
      refine (alive_spec _).mono ?_
      rintro e w5 ⟨rfl, k5⟩
      have B5 : Hid (Below w.heap.size w w5) := BE.out.trans (k5.mono BE.out.size)
      clear k5
      go_wp2_with fail
      go_returns
      exact ⟨rfl, B5.out⟩
theorem law_AlarmSides (R : Ru) (a : Option Addr) (n cap : Nat) (L : List Op6) (i : RuW R) (hs : R.nm.size ≤ maxLen) (hn : L.length = n ∧ n ≤ 140737488355328) (w : World) (hL : IsSc w a L) :
    Calls Try.prog 7 #[ruV R, .slice a n cap] w fun e w' => e = .returned (.bool true) ∧ Below w.heap.size w w' := by
  cases m : mayB R
  · exact sides_no R i hs m _ w
  · exact sides_yes R i hs m a n cap L hn.1 hn.2 w hL
end Go.Proofs.Ytnlefakicjojdaa
/-
  AlarmSides: for every input the law returns true, and each argument reads afterwards as it read before. No condition on the input.
-/
namespace Go.Proofs.Ytnlefakicjojdaa.alarmSides
open Go.ChangeShapes Go.WideShapes Go.ChangeAt Go.RowKit Go.Deep W
set_option linter.unusedVariables false
theorem own : ownKnob Try.prog.godebug = none := by kernel_rfl
theorem laidOut : laidOutB Try.prog = true := by kernel_rfl
set_option maxRecDepth 100000 in
theorem lifted (os : Os) (started : os.Started) (H : Type) (enc : TypeId × Value → H) :
    ReturnsInHanded {} Try.checked os 7 .any (Rows.alarmSidesSpec.pre6 enc Try.prog Try.f7 Rows.alarmSidesRow.domain false) (Rows.alarmSidesSpec.post enc Try.prog Try.f7 false true false false) := by
  refine returnsInHanded_of_change_sized (C := Try.checked) own started (by kernel_rfl) Try.func7
    (ChangeSpec.witness6 (enc := enc) (C := Try.checked) false ⟨#[], #[.agg #[.string ByteArray.empty, .bool false, .int .i64 0, .int .u64 0, .int .i64 0, .int .u64 0, .int .i64 0, .int .u64 0, .int .i64 0, .int .i64 0, .int .i64 0], .slice none 0 0], []⟩ 8 (by kernel_rfl) (by kernel_rfl) (by kernel_rfl) (by kernel_rfl)) ?_
  intro W base args ds gs before hval0 hW hcnd hsz0 _
  have hsz : (DataW.weightsEach Try.prog (Try.f7.params.toList ++ Rows.alarmSidesSpec.plain.varTypes Try.prog) (ds ++ gs)).all (· ≤ reachBytes) = true := hsz0
  clear hsz0
  have hval : ∀ (j : Nat) t v, Try.f7.params[j]? = some t → args[j]? = some v → Value.okWide Try.prog W .any base t v := hval0
  have hW' := hW
  obtain ⟨p, q, hA0, hV, rfl, hfz, hnd⟩ := hW
  have hA : DataW.TrodAll enc Try.prog W 0 (fun _ => true) true Try.f7.params.toList args.toList ds p := hA0
  rw [Try.params7] at hA hval hsz
  obtain ⟨v0, vs0, d0, ds0, p0, q0, hargs, rfl, rfl, h0, r0⟩ := trodAll_cons hA
  obtain ⟨v1, vs1, d1, ds1, p1, q1, rfl, rfl, rfl, h1, r1⟩ := trodAll_cons r0
  obtain ⟨rfl, rfl, rfl⟩ := trodAll_nil r1
  obtain rfl : args = #[v0, v1] := by cases args; simp_all
  obtain ⟨rfl, rfl⟩ := trodVars_none hV
  have k0 := h0
  have lt0 : ∀ x ∈ p0, x.block < W.heap.size := by obtain ⟨m, hm⟩ := k0; exact DataW.trod_lt m _ _ _ hm
  obtain ⟨cs0, rfl, hz0⟩ := okWide_struct Try.underlying53 (hval 0 53 v0 rfl rfl)
  obtain ⟨fuel0, hf0⟩ := h0
  obtain ⟨R0, e0, iw0, ws0⟩ := Go.Proofs.Ytnlefakicjojdaa.rd_rule hf0
  obtain rfl : cs0 = (Go.Proofs.Ytnlefakicjojdaa.ruL R0).toArray := by cases cs0; simpa [Value.cells] using e0
  have k1 := h1
  have lt1 : ∀ x ∈ p1, x.block < W.heap.size := by obtain ⟨m, hm⟩ := k1; exact DataW.trod_lt m _ _ _ hm
  obtain ⟨s1, n1, c1, rfl⟩ := okWide_slice Try.underlying23 (hval 1 23 v1 rfl rfl)
  obtain ⟨fuel1, hf1⟩ := h1
  obtain ⟨L1, hl1, hL1, hd1⟩ := Go.Proofs.Ytnlefakicjojdaa.rd_script (by simpa [Value.cells] using hf1)
  have hn1 : L1.length = n1 ∧ n1 ≤ 140737488355328 := by
    refine ⟨hl1, ?_⟩
    rcases hd1 with e | ⟨el, spd, e, el2⟩
    · omega
    · have h1 := sized_slice hsz (j := 1) (t := 23) (e := 40) (elems := el) (spare := spd) rfl (by simp; exact e) Try.underlying23
      have rl := reachBytes_lt
      rw [(by kernel_rfl : Try.prog.bytesOf 40 = 56)] at h1
      omega
  clear hA0 hval0
  refine (Go.Proofs.Ytnlefakicjojdaa.law_AlarmSides R0 s1 n1 c1 L1 iw0 ws0 hn1 W hL1).mono fun e W' ⟨he, bel⟩ => ?_
  subst he
  exact ⟨_, rfl, _, _, _, [], _, [], hW', trodAll_mk1 (shut_bool Try.underlying4 _), (trodAll_cons_mk (Below.trod laidOut (by kernel_rfl) (of_decide_eq_true (by kernel_rfl)) k0 bel lt0) (trodAll_cons_mk (Below.trod laidOut (by kernel_rfl) (of_decide_eq_true (by kernel_rfl)) k1 bel lt1) trodAll_mk0)), rfl, bel.frame _, fun h => by cases h⟩
theorem over : Rows.alarmSidesRow.holds Try.pinned (OpenSpec.ofChange Rows.alarmSidesSpec) :=
  OpenClaim.holds_of_wide 7 Try.f7 rfl rfl rfl rfl rfl rfl rfl ⟨rfl, rfl, rfl, rfl, rfl⟩ rfl rfl rfl rfl rfl (by kernel_rfl) Try.func7 (by kernel_rfl)
    (of_decide_eq_true (by kernel_rfl)) (by unfold Func.isWrapper; first | (rw [if_pos (by decide +kernel)]; kernel_rfl) | (rw [if_neg (by decide +kernel)]; exact ⟨rfl, rfl⟩))
    (fun os started H enc _ => lifted os started H enc)
end Go.Proofs.Ytnlefakicjojdaa.alarmSides
namespace Go.Proofs.Ytnlefakicjojdaa
theorem alarmSides_holds : Rows.AlarmSidesSaid := alarmSides.over
#print axioms alarmSides_holds
end Go.Proofs.Ytnlefakicjojdaa
