/- Texts that belong together: Lawas Lawae Lawag Strq Lawah FAlarmApart. -/
import Derived.Test.YtnlefakicjojdaaG06
import Derived.Test.YtnlefakicjojdaaG02
import Derived.Test.YtnlefakicjojdaaG01
import Derived.Test.YtnlefakicjojdaaG04
import Derived.Test.YtnlefakicjojdaaRows
import Derived.WalkKit
import Derived.ProofKit
import Derived.OpenShut
import Derived.ShutString
import Derived.ChangeOld
import Derived.Below
import Derived.SizedLaws
import Derived.Deep.SlicePairs
set_option linter.unusedSimpArgs false
set_option linter.unusedVariables false
/- AlarmSlack: what the feeds make of a rule's state. -/
namespace Go.Proofs.Ytnlefakicjojdaa
set_option linter.unusedVariables false
set_option linter.unusedSimpArgs false
open Go.RowKit W Go.Maps
theorem pl1_small {x : Int} (h0 : 0 ≤ x) (h1 : x ≤ 1000) : pl1 x = x + 1 := by
  unfold pl1
  rw [IntKind.wrap_i64]
  omega
/-- A rule that may be. -/
structure MayP (R : Ru) : Prop where
  fr : 1 ≤ R.fr ∧ R.fr ≤ 1000
  sl : 0 ≤ R.sl
theorem mayP {R : Ru} (m : mayB R = true) : MayP R := by
  unfold mayB at m
  simp only [Bool.and_eq_true, decide_eq_true_eq] at m
  exact ⟨⟨m.2.2.2.2.2.2.1, m.2.2.2.2.2.2.2.1⟩, m.2.2.2.2.1⟩
def RunsOk (R : Ru) (s : St) : Prop := 0 ≤ s.runs ∧ s.runs < R.fr
theorem movS_runs {R : Ru} (p : MayP R) (s : St) (l : Int) (h : RunsOk R s) : RunsOk R (movS R s l) := by
  have q := p.fr
  obtain ⟨h0, h1⟩ := h
  have e := pl1_small h0 (by omega)
  have e0 : pl1 0 = 1 := rfl
  unfold movS
  split
  · exact ⟨by simp, by simp; omega⟩
  · split
    · exact ⟨by simp [entS], by simp [entS]; omega⟩
    · split
      · exact ⟨by simp [entS], by simp [entS]; omega⟩
      · rename_i z
        unfold mov1 at z ⊢
        split at z
        · rename_i c
          rw [if_pos c]
          simp only [e] at z ⊢
          exact ⟨by simp; omega, by simp; omega⟩
        · rename_i c
          rw [if_neg c]
          simp only [e0] at z ⊢
          exact ⟨by simp, by simp; omega⟩
theorem gapS_runs {R : Ru} (p : MayP R) (s : St) : RunsOk R (gapS R s) := by
  have q := p.fr
  unfold gapS gap1 entS
  split <;> exact ⟨by simp, by simp; omega⟩
theorem stepS_runs {R : Ru} (p : MayP R) (s : St) (t : Int) (is : Bool) (v : Int) (h : RunsOk R s) : RunsOk R (stepS R s t is v) := by
  unfold stepS
  cases is
  · exact gapS_runs p _
  · exact movS_runs p _ _ h
theorem fedS_is (R : Ru) (s : St) (t : Int) (is : Bool) (v : Int) : (fedS R s t is v).st = (stepS R s t is v).st ∧ (fedS R s t is v).runs = (stepS R s t is v).runs ∧ (fedS R s t is v).cand = (stepS R s t is v).cand ∧ (fedS R s t is v).last = t := by
  have k := (stepS_keeps R s t is v).2.2.1
  unfold fedS sayS
  split
  · exact ⟨rfl, rfl, rfl, k⟩
  · exact ⟨rfl, rfl, rfl, k⟩
theorem fedS_said (R : Ru) (s : St) (t : Int) (is : Bool) (v : Int) (h : St14 s.st ∧ St14 s.said) : St14 (fedS R s t is v).st ∧ St14 (fedS R s t is v).said := by
  have q := stepS_st R s t is v h.1
  have k := (stepS_keeps R s t is v).1
  unfold fedS sayS
  split
  · exact ⟨q, q⟩
  · exact ⟨q, by rw [k]; exact h.2⟩
/-- Beyond a threshold is beyond a nearer one. -/
theorem bey_eas {ab : Bool} {v t s : Int} (h : 0 ≤ s) (b : bey ab v t = true) : bey ab v (eas ab t s) = true := by
  unfold bey eas at *
  cases ab <;> simp at * <;> omega
theorem lev_far {R : Ru} (p : MayP R) {v : Int} (st : Int) (h1 : bey R.ab v (eas R.ab R.wa R.sl) = false) (h2 : bey R.ab v (eas R.ab R.cr R.sl) = false) : lev R st v = 1 := by
  have b1 : bey R.ab v R.wa = false := by
    cases e : bey R.ab v R.wa
    · rfl
    · rw [bey_eas p.sl e] at h1; cases h1
  have b2 : bey R.ab v R.cr = false := by
    cases e : bey R.ab v R.cr
    · rfl
    · rw [bey_eas p.sl e] at h2; cases h2
  unfold lev levC levW levF
  rw [h1, h2, b1, b2]
  simp
theorem lev_crit {R : Ru} (p : MayP R) (st : Int) : lev R st R.cr = 3 := by
  have b0 : bey R.ab R.cr R.cr = true := by unfold bey; cases R.ab <;> simp
  have b1 := bey_eas p.sl b0
  unfold lev levC levW levF
  rw [b0, b1]
  simp
/-- A value that is far: fine at once. -/
theorem far_fine {R : Ru} (p : MayP R) (s : St) (t v : Int) (h : St14 s.st) (h1 : bey R.ab v (eas R.ab R.wa R.sl) = false) (h2 : bey R.ab v (eas R.ab R.cr R.sl) = false) : (stepS R s t true v).st = 1 := by
  unfold stepS valS
  simp only [if_true]
  rw [lev_far p _ h1 h2]
  unfold movS
  simp only
  split
  · rename_i e; exact e.symm
  · rename_i e
    rw [if_pos (by right; obtain ⟨a, b⟩ := h; omega)]
    rfl
theorem val_low (R : Ru) (s : St) (t v : Int) : (stepS R s t true v).st ≤ 3 ∨ (stepS R s t true v).st = s.st ∧ s.st ≠ 4 := by
  unfold stepS valS
  simp only [if_true]
  have hl : lev R s.st v ≤ 3 := by rcases lev_is R s.st v with e | e | e <;> omega
  unfold movS mov1 entS
  simp only
  repeat' split
  all_goals first | (left; simp; omega) | (left; simp_all; omega) | (right; simp_all)
/-- Behind j values at the threshold. -/
def CrI (R : Ru) (j : Int) (s : St) : Prop := s.st = 3 ∨ (s.st < 3 ∧ (j = 0 ∨ (s.cand = 3 ∧ j ≤ s.runs)))
theorem crit_step {R : Ru} (p : MayP R) (s : St) (t j : Int) (r : RunsOk R s) (j0 : 0 ≤ j) (h : CrI R j s) : CrI R (j + 1) (stepS R s t true R.cr) := by
  obtain ⟨r0, r1⟩ := r
  have q := p.fr
  have e := pl1_small r0 (by omega)
  have e0 : pl1 0 = 1 := rfl
  unfold stepS valS
  simp only [if_true]
  rw [lev_crit p]
  rcases h with h | ⟨h, c⟩
  · left
    unfold movS
    simp only
    rw [if_pos h.symm]
    exact h
  · unfold movS
    simp only
    rw [if_neg (by omega), if_neg (by omega)]
    unfold mov1
    simp only
    by_cases k : s.cand = 3
    · rw [if_pos k]
      simp only [e]
      split
      · left; rfl
      · right
        refine ⟨h, .inr ⟨k, ?_⟩⟩
        simp
        rcases c with c | ⟨_, c⟩ <;> omega
    · rw [if_neg k]
      simp only [e0]
      split
      · left; rfl
      · right
        refine ⟨h, .inr ⟨rfl, ?_⟩⟩
        simp
        rcases c with c | ⟨c, _⟩
        · omega
        · exact absurd c k
theorem crit_end {R : Ru} {s : St} (r : RunsOk R s) (f : 1 ≤ R.fr) (h : CrI R R.fr s) : s.st = 3 := by
  obtain ⟨r0, r1⟩ := r
  rcases h with h | ⟨_, h | ⟨_, h⟩⟩
  · exact h
  · omega
  · omega
/-- Between the calls of AlarmSlack. -/
structure SlR (w wr : World) (bb mb b : Nat) (R : Ru) (s : St) (t : Int) (a c : Int) : Prop where
  ch : ChR w wr bb mb b R s
  fb : Row wr (w.heap.size + 1) 0 [.int .i64 a, .int .u64 c]
  lb : w.heap.size + 1 < b
  runs : RunsOk R s
  last : s.last ≤ t
theorem SlR.later {w wr w' : World} {bb mb b : Nat} {R : Ru} {s : St} {t a c : Int} (h : SlR w wr bb mb b R s t a c) (k : Below wr.heap.size wr w') : SlR w w' bb mb b R s t a c := ⟨h.ch.later k, h.fb.later k, h.lb, h.runs, h.last⟩
theorem sl_feed {w wr : World} {bb mb b : Nat} {R : Ru} {s : St} {t a c : Int} (p : MayP R) (h : SlR w wr bb mb b R s t a c) (hs : R.nm.size ≤ maxLen) (t0 : 0 ≤ t) (t1 : t ≤ 1073741824) (v1 v0 : Int) (is : Bool) (iv : IsW (v1, v0)) :
    Calls Try.prog 12 #[.pointer (some ⟨bb, 0, none⟩), .string R.nm, .int .i64 (t + 1), .agg #[.bool is, .int .i64 v1, .int .u64 v0]] wr fun e w' => ∃ v, e = .returned (.tuple #[v, .int .i64 0]) ∧ SlR w w' bb mb b R (fedS R s (t + 1) is (V v1 v0)) (t + 1) a c ∧ Mod [b] wr w' := by
  have k := feed_any h.ch.bk R s List.mem_cons_self hs (t + 1) v1 v0 is iv
  have he : feE s (t + 1) = 0 := by unfold feE; rw [if_pos (by omega), if_neg (by have := h.last; omega)]
  have e1 : feS R s (t + 1) is (V v1 v0) = fedS R s (t + 1) is (V v1 v0) := by unfold feS; rw [if_pos he]
  have fi := fedS_is R s (t + 1) is (V v1 v0)
  rw [he, e1] at k
  refine Calls.mono k ?_
  rintro e w' ⟨v, rfl, _, fr, bk, m⟩
  rw [updL_one] at bk
  have nb : w.heap.size + 1 ∉ [b] := by have := h.lb; simp; omega
  refine ⟨v, rfl, ⟨h.ch.call m bk (fedS_said R s _ is _ h.ch.st), h.fb.mod m nb, h.lb, ?_, by rw [fi.2.2.2]; omega⟩, m⟩
  have r := stepS_runs p s (t + 1) is (V v1 v0) h.runs
  unfold RunsOk
  rw [fi.2.1]
  exact r
end Go.Proofs.Ytnlefakicjojdaa
/- AlarmSides: a rule and its mirror: the pure facts, and both books side by side. -/
namespace Go.Proofs.Ytnlefakicjojdaa
set_option linter.unusedVariables false
set_option linter.unusedSimpArgs false
open Go.RowKit W Go.Maps
/-- The rule turned round. -/
structure Mir (R U : Ru) : Prop where
  nm : U.nm = R.nm
  ab : U.ab = !R.ab
  wa : U.wa = -R.wa
  cr : U.cr = -R.cr
  sl : U.sl = R.sl
  fr : U.fr = R.fr
  an : U.an = R.an
  ag : U.ag = R.ag
theorem bey_mir (a : Bool) (v t : Int) : bey (!a) (-v) (-t) = bey a v t := by
  unfold bey; cases a <;> simp <;> omega
theorem eas_mir (a : Bool) (t s : Int) : eas (!a) (-t) s = -(eas a t s) := by
  unfold eas; cases a <;> simp <;> omega
theorem lev_mir {R U : Ru} (m : Mir R U) (st v : Int) : lev U st (-v) = lev R st v := by
  unfold lev levC levW levF
  rw [m.ab, m.wa, m.cr, m.sl]
  simp only [bey_mir, eas_mir]
theorem stepS_mir {R U : Ru} (m : Mir R U) (s : St) (t : Int) (is : Bool) (v v' : Int) (h : is = true → v' = -v) : stepS U s t is v' = stepS R s t is v := by
  unfold stepS
  cases is
  · show gapS U _ = gapS R _
    unfold gapS; rw [m.an]
  · show valS U _ v' = valS R _ v
    rw [h rfl]
    unfold valS movS
    rw [lev_mir m, m.fr]
theorem sayB_mir {R U : Ru} (m : Mir R U) (s : St) (t : Int) : sayB U s t = sayB R s t := by
  unfold sayB dueB; rw [m.ag]
theorem fedS_mir {R U : Ru} (m : Mir R U) (s : St) (t : Int) (is : Bool) (v v' : Int) (h : is = true → v' = -v) : fedS U s t is v' = fedS R s t is v := by
  unfold fedS sayS; rw [stepS_mir m s t is v v' h, sayB_mir m]
theorem feS_mir {R U : Ru} (m : Mir R U) (s : St) (t : Int) (is : Bool) (v v' : Int) (h : is = true → v' = -v) : feS U s t is v' = feS R s t is v := by
  unfold feS; rw [fedS_mir m s t is v v' h]
theorem mayB_mir {R U : Ru} (m : Mir R U) (h : mayB R = true) : mayB U = true := by
  unfold mayB at *
  rw [m.nm, m.ab, m.wa, m.cr, m.sl, m.fr, m.an, m.ag]
  simp only [Bool.and_eq_true, decide_eq_true_eq] at *
  obtain ⟨h1, h2, h3, h4, h5, h6, h7⟩ := h
  refine ⟨h1, ?_, ?_, h4, h5, ?_, h7⟩
  · unfold Mod100 at *; omega
  · unfold Mod100 at *; omega
  · cases hab : R.ab <;> rw [hab] at h6 <;> simp at h6 ⊢ <;> omega
/-- What both say: nothing, or a word that is alike but for the value. -/
theorem feO_mir {R U : Ru} (m : Mir R U) (s : St) (t : Int) (is : Bool) (v1 v0 y1 y0 : Int) (h : is = true → V y1 y0 = -(V v1 v0)) :
    (feO R s t is v1 v0 = none ∧ feO U s t is y1 y0 = none) ∨
    ∃ (F T : Int) (A : Bool) (a1 a0 b1 b0 : Int), feO R s t is v1 v0 = some [.string R.nm, .int .i64 t, .int .i64 F, .int .i64 T, .bool A, .bool is, .int .i64 a1, .int .u64 a0] ∧ feO U s t is y1 y0 = some [.string R.nm, .int .i64 t, .int .i64 F, .int .i64 T, .bool A, .bool is, .int .i64 b1, .int .u64 b0] := by
  unfold feO
  by_cases e : feE s t = 0
  · rw [if_pos e, if_pos e]
    unfold fedO sayO
    rw [stepS_mir m s t is (V v1 v0) (V y1 y0) h, sayB_mir m, m.nm]
    cases sayB R (stepS R s t is (V v1 v0)) t
    · exact .inl ⟨rfl, rfl⟩
    · exact .inr ⟨_, _, _, _, _, _, _, rfl, rfl⟩
  · rw [if_neg e, if_neg e]
    exact .inl ⟨rfl, rfl⟩
theorem stepS_st14 {R : Ru} {s : St} {t : Int} {is : Bool} {v : Int} (h : St14 s.st ∧ St14 s.said) : St14 (feS R s t is v).st ∧ St14 (feS R s t is v).said := by
  unfold feS
  split
  · unfold fedS sayS
    have q := stepS_st R s t is v h.1
    have q2 := (stepS_keeps R s t is v).1
    split
    · exact ⟨q, q⟩
    · exact ⟨q, by rw [q2]; exact h.2⟩
  · exact h
/-- Between the calls: two books, the rule's box. -/
structure Ch2 (w wr : World) (bb mb b b2 m2 c2 : Nat) (R U : Ru) (s u : St) : Prop where
  bk : BookA wr bb mb [(R, s, b)]
  bk2 : BookA wr b2 m2 [(U, u, c2)]
  rl : Row wr w.heap.size 0 (ruL R)
  below : Below w.heap.size w wr
  lb : w.heap.size < b
  lc : w.heap.size < c2
  n1 : b ≠ b2 ∧ b ≠ m2 ∧ b ≠ c2
  n2 : c2 ≠ bb ∧ c2 ≠ mb
  st : St14 s.st ∧ St14 s.said
theorem Ch2.lt {w wr : World} {bb mb b b2 m2 c2 : Nat} {R U : Ru} {s u : St} (h : Ch2 w wr bb mb b b2 m2 c2 R U s u) : b < wr.heap.size ∧ c2 < wr.heap.size := ⟨(h.bk.wat _ List.mem_cons_self).lt, (h.bk2.wat _ List.mem_cons_self).lt⟩
theorem Ch2.later {w wr w' : World} {bb mb b b2 m2 c2 : Nat} {R U : Ru} {s u : St} (h : Ch2 w wr bb mb b b2 m2 c2 R U s u) (k : Below wr.heap.size wr w') : Ch2 w w' bb mb b b2 m2 c2 R U s u :=
  ⟨h.bk.later k, h.bk2.later k, h.rl.later k, h.below.trans (k.mono h.below.size), h.lb, h.lc, h.n1, h.n2, h.st⟩
theorem Ch2.apart {w w0 wr w' : World} {bb mb b b2 m2 c2 : Nat} {R U : Ru} {s u s' u' : St} (h0 : Ch2 w w0 bb mb b b2 m2 c2 R U s u) (h : Ch2 w wr bb mb b b2 m2 c2 R U s' u') {x : Nat} (hx : w0.heap.size ≤ x) (k : Mod [x] wr w') : Ch2 w w' bb mb b b2 m2 c2 R U s' u' := by
  have a1 := h0.bk.lt
  have a2 := h0.bk.map.lt
  have a3 := h0.lt.1
  have b1 := h0.bk2.lt
  have b2' := h0.bk2.map.lt
  have b3 := h0.lt.2
  have c1 := h0.rl.lt
  have c2' := h0.below.size
  exact ⟨h.bk.mod k (by simp; omega) (by simp; omega) (by simp; omega), h.bk2.mod k (by simp; omega) (by simp; omega) (by simp; omega), h.rl.mod k (by simp; omega), h.below.trans (k.below h.below.size (by intro y hy; simp at hy; omega)), h.lb, h.lc, h.n1, h.n2, h.st⟩
theorem ch2_feedA {w wr : World} {bb mb b b2 m2 c2 : Nat} {R U : Ru} {s u : St} (h : Ch2 w wr bb mb b b2 m2 c2 R U s u) (hs : R.nm.size ≤ maxLen) (t v1 v0 : Int) (is : Bool) (iv : IsW (v1, v0)) :
    Calls Try.prog 12 #[.pointer (some ⟨bb, 0, none⟩), .string R.nm, .int .i64 t, .agg #[.bool is, .int .i64 v1, .int .u64 v0]] wr fun e w' => ∃ v, e = .returned (.tuple #[v, .int .i64 (feE s t)]) ∧ AlOut w' v (feO R s t is v1 v0) ∧ (∀ g, v.ownBlock = some g → wr.heap.size ≤ g) ∧ Ch2 w w' bb mb b b2 m2 c2 R U (feS R s t is (V v1 v0)) u ∧ Mod [b] wr w' := by
  refine Calls.mono (feed_any h.bk R s List.mem_cons_self hs t v1 v0 is iv) ?_
  rintro e w' ⟨v, rfl, o, fr, bk, m⟩
  rw [updL_one] at bk
  refine ⟨v, rfl, o, fr, ⟨bk, h.bk2.mod m (by simp; exact fun e => h.n1.1 e.symm) (by simp; exact fun e => h.n1.2.1 e.symm) (by simp; exact fun e => h.n1.2.2 e.symm), h.rl.mod m (by have := h.lb; simp; omega), h.below.trans (m.below h.below.size (by have := h.lb; intro x hx; simp at hx; omega)), h.lb, h.lc, h.n1, h.n2, stepS_st14 h.st⟩, m⟩
theorem ch2_feedB {w wr : World} {bb mb b b2 m2 c2 : Nat} {R U : Ru} {s u : St} (h : Ch2 w wr bb mb b b2 m2 c2 R U s u) (nm : U.nm = R.nm) (hs : R.nm.size ≤ maxLen) (t v1 v0 : Int) (is : Bool) (iv : IsW (v1, v0)) :
    Calls Try.prog 12 #[.pointer (some ⟨b2, 0, none⟩), .string R.nm, .int .i64 t, .agg #[.bool is, .int .i64 v1, .int .u64 v0]] wr fun e w' => ∃ v, e = .returned (.tuple #[v, .int .i64 (feE u t)]) ∧ AlOut w' v (feO U u t is v1 v0) ∧ (∀ g, v.ownBlock = some g → wr.heap.size ≤ g) ∧ Ch2 w w' bb mb b b2 m2 c2 R U s (feS U u t is (V v1 v0)) ∧ Mod [c2] wr w' := by
  have K := feed_any h.bk2 U u List.mem_cons_self (by rw [nm]; exact hs) t v1 v0 is iv
  rw [nm] at K
  refine Calls.mono K ?_
  rintro e w' ⟨v, rfl, o, fr, bk, m⟩
  rw [updL_one] at bk
  refine ⟨v, rfl, o, fr, ⟨h.bk.mod m (by simp; exact fun e => h.n2.1 e.symm) (by simp; exact fun e => h.n2.2 e.symm) (by simp; exact h.n1.2.2), bk, h.rl.mod m (by have := h.lc; simp; omega), h.below.trans (m.below h.below.size (by have := h.lc; intro x hx; simp at hx; omega)), h.lb, h.lc, h.n1, h.n2, h.st⟩, m⟩
theorem ch2_stateA {w wr : World} {bb mb b b2 m2 c2 : Nat} {R U : Ru} {s u : St} (h : Ch2 w wr bb mb b b2 m2 c2 R U s u) (hs : R.nm.size ≤ maxLen) :
    CalcN 17 #[.pointer (some ⟨bb, 0, none⟩), .string R.nm] wr (.tuple #[.int .i64 s.st, .bool true]) := state_any h.bk R s List.mem_cons_self hs
theorem ch2_stateB {w wr : World} {bb mb b b2 m2 c2 : Nat} {R U : Ru} {s u : St} (h : Ch2 w wr bb mb b b2 m2 c2 R U s u) (nm : U.nm = R.nm) (hs : R.nm.size ≤ maxLen) :
    CalcN 17 #[.pointer (some ⟨b2, 0, none⟩), .string R.nm] wr (.tuple #[.int .i64 u.st, .bool true]) := by
  have K := state_any h.bk2 U u List.mem_cons_self (by rw [nm]; exact hs)
  rw [nm] at K
  exact K
end Go.Proofs.Ytnlefakicjojdaa
/- AlarmApart: three books side by side. -/
namespace Go.Proofs.Ytnlefakicjojdaa
set_option linter.unusedVariables false
set_option linter.unusedSimpArgs false
open Go.RowKit W Go.Maps
/-- A book of two rules and each rule in a book of its own. -/
structure Ap (w wr : World) (la lc : List Value) (bb mb b1 b2 pb pm pk qb qm qk : Nat) (P Q : Ru) (s sp u uq : St) : Prop where
  bk : ∃ L, BookA wr bb mb L ∧ (P, s, b1) ∈ L ∧ (Q, u, b2) ∈ L ∧ ∀ x ∈ L, x.2.2 = b1 ∨ x.2.2 = b2
  bp : BookA wr pb pm [(P, sp, pk)]
  bq : BookA wr qb qm [(Q, uq, qk)]
  ra : Row wr w.heap.size 0 la
  rc : Row wr (w.heap.size + 1) 0 lc
  below : Below w.heap.size w wr
  low : w.heap.size + 1 < b1 ∧ w.heap.size + 1 < b2 ∧ w.heap.size + 1 < pk ∧ w.heap.size + 1 < qk
  ne : b1 ≠ b2
  d1 : b1 ≠ pb ∧ b1 ≠ pm ∧ b1 ≠ pk ∧ b1 ≠ qb ∧ b1 ≠ qm ∧ b1 ≠ qk
  d2 : b2 ≠ pb ∧ b2 ≠ pm ∧ b2 ≠ pk ∧ b2 ≠ qb ∧ b2 ≠ qm ∧ b2 ≠ qk
  d3 : pk ≠ bb ∧ pk ≠ mb ∧ pk ≠ qb ∧ pk ≠ qm ∧ pk ≠ qk
  d4 : qk ≠ bb ∧ qk ≠ mb ∧ qk ≠ pb ∧ qk ≠ pm
  st : (St14 s.st ∧ St14 s.said) ∧ (St14 u.st ∧ St14 u.said)
theorem Ap.swap {w wr : World} {la lc : List Value} {bb mb b1 b2 pb pm pk qb qm qk : Nat} {P Q : Ru} {s sp u uq : St} (h : Ap w wr la lc bb mb b1 b2 pb pm pk qb qm qk P Q s sp u uq) : Ap w wr la lc bb mb b2 b1 qb qm qk pb pm pk Q P u uq s sp := by
  obtain ⟨⟨L, k, m1, m2, al⟩, bp, bq, ra, rc, be, lo, ne, d1, d2, d3, d4, st⟩ := h
  exact ⟨⟨L, k, m2, m1, fun x hx => (al x hx).symm⟩, bq, bp, ra, rc, be, ⟨lo.2.1, lo.1, lo.2.2.2, lo.2.2.1⟩, ne.symm, ⟨d2.2.2.2.1, d2.2.2.2.2.1, d2.2.2.2.2.2, d2.1, d2.2.1, d2.2.2.1⟩, ⟨d1.2.2.2.1, d1.2.2.2.2.1, d1.2.2.2.2.2, d1.1, d1.2.1, d1.2.2.1⟩, ⟨d4.1, d4.2.1, d4.2.2.1, d4.2.2.2, d3.2.2.2.2.symm⟩, ⟨d3.1, d3.2.1, d3.2.2.1, d3.2.2.2.1⟩, st.symm⟩
theorem Ap.later {w wr w' : World} {la lc : List Value} {bb mb b1 b2 pb pm pk qb qm qk : Nat} {P Q : Ru} {s sp u uq : St} (h : Ap w wr la lc bb mb b1 b2 pb pm pk qb qm qk P Q s sp u uq) (k : Below wr.heap.size wr w') : Ap w w' la lc bb mb b1 b2 pb pm pk qb qm qk P Q s sp u uq := by
  obtain ⟨⟨L, bk, m1, m2, al⟩, bp, bq, ra, rc, be, lo, ne, d1, d2, d3, d4, st⟩ := h
  exact ⟨⟨L, bk.later k, m1, m2, al⟩, bp.later k, bq.later k, ra.later k, rc.later k, be.trans (k.mono be.size), lo, ne, d1, d2, d3, d4, st⟩
theorem Ap.lt {w wr : World} {la lc : List Value} {bb mb b1 b2 pb pm pk qb qm qk : Nat} {P Q : Ru} {s sp u uq : St} (h : Ap w wr la lc bb mb b1 b2 pb pm pk qb qm qk P Q s sp u uq) : b1 < wr.heap.size ∧ pk < wr.heap.size := by
  obtain ⟨⟨L, bk, m1, m2, al⟩, bp, _⟩ := h
  exact ⟨(bk.wat _ m1).lt, (bp.wat _ List.mem_cons_self).lt⟩
theorem mem_upd {L : List Ent} {b : Nat} {P : Ru} {s s' : St} (h : (P, s, b) ∈ L) : (P, s', b) ∈ updL L b s' := by
  unfold updL
  exact List.mem_map.2 ⟨_, h, by simp⟩
theorem mem_upd_ne {L : List Ent} {b c : Nat} {P : Ru} {s s' : St} (h : (P, s, c) ∈ L) (n : c ≠ b) : (P, s, c) ∈ updL L b s' := by
  unfold updL
  exact List.mem_map.2 ⟨_, h, by simp [n]⟩
theorem all_upd {L : List Ent} {b b1 b2 : Nat} {s' : St} (h : ∀ x ∈ L, x.2.2 = b1 ∨ x.2.2 = b2) : ∀ x ∈ updL L b s', x.2.2 = b1 ∨ x.2.2 = b2 := by
  intro y hy
  unfold updL at hy
  obtain ⟨x, hx, rfl⟩ := List.mem_map.1 hy
  by_cases e : x.2.2 = b
  · rw [if_pos e]; exact h x hx
  · rw [if_neg e]; exact h x hx
theorem nm1 {a b : Nat} (h : b ≠ a) : a ∉ [b] := by simp; exact h.symm
theorem nm2 {a b : Nat} (h : a ≠ b) : a ∉ [b] := by simp; exact h
theorem nm3 {a b : Nat} (h : a < b) : a ∉ [b] := by simp; omega
/-- The book of both has changed at P's watch alone. -/
theorem Ap.both {w wr w' : World} {la lc : List Value} {bb mb b1 b2 pb pm pk qb qm qk : Nat} {P Q : Ru} {s sp u uq s' : St} (h : Ap w wr la lc bb mb b1 b2 pb pm pk qb qm qk P Q s sp u uq) {L : List Ent} (m1 : (P, s, b1) ∈ L) (m2 : (Q, u, b2) ∈ L) (al : ∀ x ∈ L, x.2.2 = b1 ∨ x.2.2 = b2) (bk : BookA w' bb mb (updL L b1 s')) (m : Mod [b1] wr w') (st : St14 s'.st ∧ St14 s'.said) : Ap w w' la lc bb mb b1 b2 pb pm pk qb qm qk P Q s' sp u uq := by
  obtain ⟨_, bp, bq, ra, rc, be, lo, ne, d1, d2, d3, d4, sts⟩ := h
  exact ⟨⟨_, bk, mem_upd m1, mem_upd_ne m2 (fun e => ne e.symm), all_upd al⟩, bp.mod m (nm1 d1.1) (nm1 d1.2.1) (by intro x hx; rw [List.mem_singleton] at hx; subst hx; exact nm1 d1.2.2.1), bq.mod m (nm1 d1.2.2.2.1) (nm1 d1.2.2.2.2.1) (by intro x hx; rw [List.mem_singleton] at hx; subst hx; exact nm1 d1.2.2.2.2.2), ra.mod m (nm3 (Nat.lt_trans (Nat.lt_succ_self _) lo.1)), rc.mod m (nm3 lo.1), be.trans (m.below be.size (by intro x hx; rw [List.mem_singleton] at hx; subst hx; have := lo.1; clear d1 d2 d3 d4; omega)), lo, ne, d1, d2, d3, d4, st, sts.2⟩
theorem Ap.own {w wr w' : World} {la lc : List Value} {bb mb b1 b2 pb pm pk qb qm qk : Nat} {P Q : Ru} {s sp u uq s' : St} (h : Ap w wr la lc bb mb b1 b2 pb pm pk qb qm qk P Q s sp u uq) (bp : BookA w' pb pm [(P, s', pk)]) (m : Mod [pk] wr w') : Ap w w' la lc bb mb b1 b2 pb pm pk qb qm qk P Q s s' u uq := by
  obtain ⟨⟨L, bk, m1, m2, al⟩, _, bq, ra, rc, be, lo, ne, d1, d2, d3, d4, sts⟩ := h
  exact ⟨⟨L, bk.mod m (nm1 d3.1) (nm1 d3.2.1) (by intro x hx; rcases al x hx with e | e <;> rw [e]; exact nm2 d1.2.2.1; exact nm2 d2.2.2.1), m1, m2, al⟩, bp, bq.mod m (nm1 d3.2.2.1) (nm1 d3.2.2.2.1) (by intro x hx; rw [List.mem_singleton] at hx; subst hx; exact nm1 d3.2.2.2.2), ra.mod m (nm3 (Nat.lt_trans (Nat.lt_succ_self _) lo.2.2.1)), rc.mod m (nm3 lo.2.2.1), be.trans (m.below be.size (by intro x hx; rw [List.mem_singleton] at hx; subst hx; have := lo.2.2.1; clear d1 d2 d3 d4; omega)), lo, ne, d1, d2, d3, d4, sts⟩
theorem ap_feed {w wr : World} {la lc : List Value} {bb mb b1 b2 pb pm pk qb qm qk : Nat} {P Q : Ru} {s sp u uq : St} (h : Ap w wr la lc bb mb b1 b2 pb pm pk qb qm qk P Q s sp u uq) (hs : P.nm.size ≤ maxLen) (t v1 v0 : Int) (is : Bool) (iv : IsW (v1, v0)) :
    Calls Try.prog 12 #[.pointer (some ⟨bb, 0, none⟩), .string P.nm, .int .i64 t, .agg #[.bool is, .int .i64 v1, .int .u64 v0]] wr fun e w' => ∃ v, e = .returned (.tuple #[v, .int .i64 (feE s t)]) ∧ AlOut w' v (feO P s t is v1 v0) ∧ (∀ g, v.ownBlock = some g → wr.heap.size ≤ g) ∧ Ap w w' la lc bb mb b1 b2 pb pm pk qb qm qk P Q (feS P s t is (V v1 v0)) sp u uq ∧ Mod [b1] wr w' := by
  obtain ⟨L, k, m1, m2, al⟩ := h.bk
  refine Calls.mono (feed_any k P s m1 hs t v1 v0 is iv) ?_
  rintro e w' ⟨v, rfl, o, fr, bk, m⟩
  exact ⟨v, rfl, o, fr, h.both m1 m2 al bk m (stepS_st14 h.st.1), m⟩
theorem ap_feedO {w wr : World} {la lc : List Value} {bb mb b1 b2 pb pm pk qb qm qk : Nat} {P Q : Ru} {s sp u uq : St} (h : Ap w wr la lc bb mb b1 b2 pb pm pk qb qm qk P Q s sp u uq) (hs : P.nm.size ≤ maxLen) (t v1 v0 : Int) (is : Bool) (iv : IsW (v1, v0)) :
    Calls Try.prog 12 #[.pointer (some ⟨pb, 0, none⟩), .string P.nm, .int .i64 t, .agg #[.bool is, .int .i64 v1, .int .u64 v0]] wr fun e w' => ∃ v, e = .returned (.tuple #[v, .int .i64 (feE sp t)]) ∧ AlOut w' v (feO P sp t is v1 v0) ∧ (∀ g, v.ownBlock = some g → wr.heap.size ≤ g) ∧ Ap w w' la lc bb mb b1 b2 pb pm pk qb qm qk P Q s (feS P sp t is (V v1 v0)) u uq ∧ Mod [pk] wr w' := by
  refine Calls.mono (feed_any h.bp P sp List.mem_cons_self hs t v1 v0 is iv) ?_
  rintro e w' ⟨v, rfl, o, fr, bk, m⟩
  rw [updL_one] at bk
  exact ⟨v, rfl, o, fr, h.own bk m, m⟩
theorem ap_mute {w wr : World} {la lc : List Value} {bb mb b1 b2 pb pm pk qb qm qk : Nat} {P Q : Ru} {s sp u uq : St} (h : Ap w wr la lc bb mb b1 b2 pb pm pk qb qm qk P Q s sp u uq) (hs : P.nm.size ≤ maxLen) (t : Int) :
    Calls Try.prog 15 #[.pointer (some ⟨bb, 0, none⟩), .string P.nm, .int .i64 t] wr fun e w' => e = .returned (.int .i64 (muR t)) ∧ Ap w w' la lc bb mb b1 b2 pb pm pk qb qm qk P Q (muS s t) sp u uq ∧ Mod [b1] wr w' := by
  obtain ⟨L, k, m1, m2, al⟩ := h.bk
  refine Calls.mono (mute_any k P s m1 hs t) ?_
  rintro e w' ⟨rfl, bk, m⟩
  exact ⟨rfl, h.both m1 m2 al bk m (by unfold muS; split <;> exact h.st.1), m⟩
theorem ap_muteO {w wr : World} {la lc : List Value} {bb mb b1 b2 pb pm pk qb qm qk : Nat} {P Q : Ru} {s sp u uq : St} (h : Ap w wr la lc bb mb b1 b2 pb pm pk qb qm qk P Q s sp u uq) (hs : P.nm.size ≤ maxLen) (t : Int) :
    Calls Try.prog 15 #[.pointer (some ⟨pb, 0, none⟩), .string P.nm, .int .i64 t] wr fun e w' => e = .returned (.int .i64 (muR t)) ∧ Ap w w' la lc bb mb b1 b2 pb pm pk qb qm qk P Q s (muS sp t) u uq ∧ Mod [pk] wr w' := by
  refine Calls.mono (mute_any h.bp P sp List.mem_cons_self hs t) ?_
  rintro e w' ⟨rfl, bk, m⟩
  rw [updL_one] at bk
  exact ⟨rfl, h.own bk m, m⟩
theorem ap_state {w wr : World} {la lc : List Value} {bb mb b1 b2 pb pm pk qb qm qk : Nat} {P Q : Ru} {s sp u uq : St} (h : Ap w wr la lc bb mb b1 b2 pb pm pk qb qm qk P Q s sp u uq) (hs : P.nm.size ≤ maxLen) :
    CalcN 17 #[.pointer (some ⟨bb, 0, none⟩), .string P.nm] wr (.tuple #[.int .i64 s.st, .bool true]) := by
  obtain ⟨L, k, m1, m2, al⟩ := h.bk
  exact state_any k P s m1 hs
theorem ap_stateO {w wr : World} {la lc : List Value} {bb mb b1 b2 pb pm pk qb qm qk : Nat} {P Q : Ru} {s sp u uq : St} (h : Ap w wr la lc bb mb b1 b2 pb pm pk qb qm qk P Q s sp u uq) (hs : P.nm.size ≤ maxLen) :
    CalcN 17 #[.pointer (some ⟨pb, 0, none⟩), .string P.nm] wr (.tuple #[.int .i64 sp.st, .bool true]) := state_any h.bp P sp List.mem_cons_self hs
/-- What New gives for two rules. -/
theorem new_two (A C : Ru) (ia : RuW A) (ic : RuW C) (ha : A.nm.size ≤ maxLen) (hc : C.nm.size ≤ maxLen) (ma : mayB A = true) (mc : mayB C = true) (ne : A.nm ≠ C.nm) (w : World) (g cap : Nat) (r : RulesAt w g 0 [A, C]) :
    Calls Try.prog 9 #[.slice (some ⟨g, 0, none⟩) 2 cap] w fun e w' => ∃ bb mb b1 b2, e = .returned (.tuple #[.pointer (some ⟨bb, 0, none⟩), .int .i64 0, .int .i64 0]) ∧ BookA w' bb mb [(A, st0, b1), (C, st0, b2)] ∧ w.heap.size ≤ bb ∧ w.heap.size ≤ mb ∧ w.heap.size ≤ b1 ∧ w.heap.size ≤ b2 ∧ Below w.heap.size w w' := by
  have nb : badI [] [A, C] 0 = none := by
    rw [badI_cons, if_neg (by rw [ma]; simp), badI_cons, if_neg (by rw [mc]; simp; exact ne)]; rfl
  have K := new_few [A, C] (some ⟨g, 0, none⟩) cap w (by simp) (.inr ⟨g, 0, rfl, r⟩) (by intro x hx; simp at hx; rcases hx with rfl | rfl; exact ⟨ia, ha⟩; exact ⟨ic, hc⟩)
  refine Calls.mono K ?_
  intro e w' h
  unfold NewA at h
  rw [if_neg (by simp), nb] at h
  obtain ⟨bb, mb, E, rfl, bk, f, each, l1, l2, k⟩ := h
  rcases E with _ | ⟨⟨R', s, b⟩, _ | ⟨⟨R2, s2, b2⟩, _ | ⟨y, r⟩⟩⟩
  · simp at f
  · simp at f
  · simp at f
    obtain ⟨rfl, rfl⟩ := f
    obtain ⟨z, l3⟩ := each (R', s, b) List.mem_cons_self
    obtain ⟨z2, l4⟩ := each (R2, s2, b2) (List.mem_cons_of_mem _ List.mem_cons_self)
    simp only at z z2 l3 l4
    rw [z, z2] at bk
    exact ⟨bb, mb, b, b2, rfl, bk, l1, l2, l3, l4, k⟩
  · simp at f
/-- What Feed says is nothing or one word. -/
theorem feO_form (R : Ru) (s : St) (t : Int) (is : Bool) (v1 v0 : Int) :
    feO R s t is v1 v0 = none ∨ ∃ (F T : Int) (A : Bool) (a1 a0 : Int), feO R s t is v1 v0 = some [.string R.nm, .int .i64 t, .int .i64 F, .int .i64 T, .bool A, .bool is, .int .i64 a1, .int .u64 a0] := by
  unfold feO fedO sayO
  split
  · split
    · exact .inr ⟨_, _, _, _, _, rfl⟩
    · exact .inl rfl
  · exact .inl rfl
/-- The same word twice is the same. -/
def AlTwo (w : World) (a b : Value) : Prop := (a = .slice none 0 0 ∧ b = .slice none 0 0) ∨ ∃ (g h : Nat) (nm : ByteArray) (t F T : Int) (A is : Bool) (a1 a0 : Int), a = .slice (some ⟨g, 0, none⟩) 1 1 ∧ b = .slice (some ⟨h, 0, none⟩) 1 1 ∧ Row w g 0 [.string nm, .int .i64 t, .int .i64 F, .int .i64 T, .bool A, .bool is, .int .i64 a1, .int .u64 a0] ∧ Row w h 0 [.string nm, .int .i64 t, .int .i64 F, .int .i64 T, .bool A, .bool is, .int .i64 a1, .int .u64 a0]
theorem al_two {w w' : World} {a b : Value} {R : Ru} {s : St} {t v1 v0 : Int} {is : Bool} {p : Nat} {W0 : World} (ha : AlOut w a (feO R s t is v1 v0)) (fa : ∀ g, a.ownBlock = some g → W0.heap.size ≤ g) (lp : p < W0.heap.size) (m : Mod [p] w w') (hb : AlOut w' b (feO R s t is v1 v0)) : AlTwo w' a b := by
  rcases feO_form R s t is v1 v0 with e | ⟨F, T, A, a1, a0, e⟩
  · rw [e] at ha hb
    exact .inl ⟨ha, hb⟩
  · rw [e] at ha hb
    obtain ⟨g, rfl, r⟩ := ha
    obtain ⟨h, rfl, q⟩ := hb
    have := fa g rfl
    exact .inr ⟨g, h, _, _, _, _, _, _, _, _, rfl, rfl, r.mod m (by simp; omega), q⟩
set_option maxRecDepth 100000 in
set_option maxHeartbeats 4000000 in
theorem same_al {w : World} {a b : Value} (h : AlTwo w a b) : Calls Try.prog 14 #[a, b] w fun e w' => e = .returned (.bool true) ∧ Below w.heap.size w w' := by
  rcases h with ⟨rfl, rfl⟩ | ⟨g, h, nm, t, F, T, A, is, a1, a0, rfl, rfl, r, q⟩
  · go_enter Try.func14, Try.ntmps14
    go_wp2_with fail
    go_loopw [5] (fun i wr => i = .int .i64 0 ∧ Hid (Below w.heap.size w wr)) (fun i _ => (1 - intOf i).toNat)
    case atStart => exact ⟨rfl, Below.refl _ _⟩
    case round =>
      obtain ⟨rfl, B⟩ := hrel
      go_wp2_with fail
      go_returns
      exact ⟨rfl, B.out⟩
  · have RG := hide r
    have RH := hide q
    clear r q
    have ne := neq58 nm t F T A is a1 a0
    go_enter Try.func14, Try.ntmps14
    go_wp2_with fail
    go_loopw [5] (fun i wr => ∃ j : Nat, j ≤ 1 ∧ i = .int .i64 j ∧ Hid (Below w.heap.size w wr)) (fun i _ => (1 - intOf i).toNat)
    case atStart => exact ⟨0, by omega, rfl, Below.refl _ _⟩
    case round =>
      obtain ⟨j, hj, rfl, B⟩ := hrel
      by_cases j0 : j = 0
      · subst j0
        have RG2 := RG.out.later B.out
        have RH2 := RH.out.later B.out
        have x0 := RG2.at0 0 _ rfl
        have x1 := RG2.at0 1 _ rfl
        have x2 := RG2.at0 2 _ rfl
        have x3 := RG2.at0 3 _ rfl
        have x4 := RG2.at0 4 _ rfl
        have x5 := RG2.at0 5 _ rfl
        have x6 := RG2.at0 6 _ rfl
        have x7 := RG2.at0 7 _ rfl
        have lx := RG2.lt
        have y0 := RH2.at0 0 _ rfl
        have y1 := RH2.at0 1 _ rfl
        have y2 := RH2.at0 2 _ rfl
        have y3 := RH2.at0 3 _ rfl
        have y4 := RH2.at0 4 _ rfl
        have y5 := RH2.at0 5 _ rfl
        have y6 := RH2.at0 6 _ rfl
        have y7 := RH2.at0 7 _ rfl
        have ly := RH2.lt
        clear RG2 RH2
        go_wp2_with fail
        go_quiet (fail)
        have B2 := hide (below_drewN B.out nq)
        go_wp2_with fail
        go_roundw
        case rel => exact ⟨1, by omega, rfl, B2⟩
        case measure => simp [intOf]
      · obtain rfl : j = 1 := by omega
        go_wp2_with fail
        go_returns
        exact ⟨rfl, B.out⟩
end Go.Proofs.Ytnlefakicjojdaa
/- Strings compared. -/
namespace Go.Proofs.Ytnlefakicjojdaa
open Go.RowKit W
theorem toL_ne {a b : ByteArray} (h : a ≠ b) : ¬ a.toList = b.toList := by
  intro e
  rw [ByteArray.toList_eq, ByteArray.toList_eq] at e
  exact h (ByteArray.ext (Array.toList_inj.1 e))
theorem str_eql (a b : ByteArray) (h : a ≠ b) (w : World) : (binOp .eql 9 (.string a) (.string b)).run Try.prog w = .ok (.bool false) w := by
  simp [go_sem]; exact toL_ne h
theorem str_neq (a b : ByteArray) (h : a ≠ b) (w : World) : (binOp .neq 9 (.string a) (.string b)).run Try.prog w = .ok (.bool true) w := by
  simp [go_sem]; exact toL_ne h
theorem str_eql_same (a : ByteArray) (w : World) : (binOp .eql 9 (.string a) (.string a)).run Try.prog w = .ok (.bool true) w := by
  simp [go_sem]
theorem str_neq_same (a : ByteArray) (w : World) : (binOp .neq 9 (.string a) (.string a)).run Try.prog w = .ok (.bool false) w := by
  simp [go_sem]
end Go.Proofs.Ytnlefakicjojdaa
/- AlarmApart: the law's walk. -/
namespace Go.Proofs.Ytnlefakicjojdaa
set_option linter.unusedVariables false
set_option linter.unusedSimpArgs false
open Go.RowKit W Go.Maps
theorem rules_two {w : World} {b : Nat} {A C : Ru} (h : Row w b 0 (ruL A ++ ruL C)) : RulesAt w b 0 [A, C] := ⟨h.lt, fun j hj k v e => by
  have hj2 : j < 2 := by simpa using hj
  by_cases j0 : j = 0
  · subst j0
    have hk : k < 11 := (List.getElem?_eq_some_iff.1 e).1
    have := h.at k v (by rw [List.getElem?_append_left (by exact hk)]; exact e)
    simpa using this
  · obtain rfl : j = 1 := by omega
    have hk : k < 11 := (List.getElem?_eq_some_iff.1 e).1
    have := h.at (11 + k) v (by rw [List.getElem?_append_right (by show 11 ≤ 11 + k; omega)]; show (ruL C)[11 + k - 11]? = some v; rw [Nat.add_sub_cancel_left]; exact e)
    rw [show 0 + (11 + k) = 0 + 1 * 11 + k from by omega] at this
    exact this⟩
set_option maxRecDepth 100000 in
set_option maxHeartbeats 16000000 in
theorem apart_a (A C : Ru) (ia : RuW A) (ic : RuW C) (ha : A.nm.size ≤ maxLen) (hc : C.nm.size ≤ maxLen) (ma : mayB A = false) (l : Value) (w : World) : Calls Try.prog 6 #[ruV A, ruV C, l] w fun e w' => e = .returned (.bool true) ∧ Below w.heap.size w w' := by
  have kA := rmay_spec A ia
  rw [ma] at kA
  have RA := hide (Row.new w (ruL A) 53 _ rfl)
  have RC := hide (Row.new' (w.alloc (.cells (ruL A).toArray 53)) (ruL C) 53 (w.heap.size + 1) (by simp))
  have BA : Below w.heap.size w (w.alloc (.cells (ruL A).toArray 53)) := (Below.refl _ _).alloc (Nat.le_refl _) _
  have BX : Below (w.heap.size + 1) (w.alloc (.cells (ruL A).toArray 53)) ((w.alloc (.cells (ruL A).toArray 53)).alloc (.cells (ruL C).toArray 53)) := (Below.refl _ _).alloc (by simp) _
  have BW : Below w.heap.size w ((w.alloc (.cells (ruL A).toArray 53)).alloc (.cells (ruL C).toArray 53)) := BA.trans (BX.mono (by omega))
  have RA2 := hide (RA.out.later (by simpa using BX))
  clear BX BA RA
  clear ia ic ha hc ma
  unfold ruV at *
  go_enter Try.func6, Try.ntmps6
  go_wp2_with fail
  refine Calls.mono (kA _) ?_
  rintro e w2 ⟨rfl, k2⟩
  have RA3 := hide (RA2.out.later k2)
  have RC3 := hide (RC.out.later k2)
  have BE := hide (BW.trans (k2.mono BW.size))
  clear k2 RA2 RC BW kA
  clear RA3 RC3
  go_wp2_with fail
  refine (alive_spec _).mono ?_
  rintro e w9 ⟨rfl, k9⟩
  have B9 : Hid (Below w.heap.size w w9) := BE.out.trans (k9.mono BE.out.size)
  clear k9
  go_wp2_with fail
  go_returns
  exact ⟨rfl, B9.out⟩
set_option maxRecDepth 100000 in
set_option maxHeartbeats 16000000 in
theorem apart_c (A C : Ru) (ia : RuW A) (ic : RuW C) (ha : A.nm.size ≤ maxLen) (hc : C.nm.size ≤ maxLen) (ma : mayB A = true) (mc : mayB C = false) (l : Value) (w : World) : Calls Try.prog 6 #[ruV A, ruV C, l] w fun e w' => e = .returned (.bool true) ∧ Below w.heap.size w w' := by
  have kA := rmay_spec A ia
  have kC := rmay_spec C ic
  rw [ma] at kA
  rw [mc] at kC
  have RA := hide (Row.new w (ruL A) 53 _ rfl)
  have RC := hide (Row.new' (w.alloc (.cells (ruL A).toArray 53)) (ruL C) 53 (w.heap.size + 1) (by simp))
  have BA : Below w.heap.size w (w.alloc (.cells (ruL A).toArray 53)) := (Below.refl _ _).alloc (Nat.le_refl _) _
  have BX : Below (w.heap.size + 1) (w.alloc (.cells (ruL A).toArray 53)) ((w.alloc (.cells (ruL A).toArray 53)).alloc (.cells (ruL C).toArray 53)) := (Below.refl _ _).alloc (by simp) _
  have BW : Below w.heap.size w ((w.alloc (.cells (ruL A).toArray 53)).alloc (.cells (ruL C).toArray 53)) := BA.trans (BX.mono (by omega))
  have RA2 := hide (RA.out.later (by simpa using BX))
  clear BX BA RA
  clear ia ic ha hc ma mc
  unfold ruV at *
  go_enter Try.func6, Try.ntmps6
  go_wp2_with fail
  refine Calls.mono (kA _) ?_
  rintro e w2 ⟨rfl, k2⟩
  have RA3 := hide (RA2.out.later k2)
  have RC3 := hide (RC.out.later k2)
  have BE := hide (BW.trans (k2.mono BW.size))
  clear k2 RA2 RC BW kA
  have d0 := RC3.out.at0 0 _ rfl
  have d1 := RC3.out.at0 1 _ rfl
  have d2 := RC3.out.at0 2 _ rfl
  have d3 := RC3.out.at0 3 _ rfl
  have d4 := RC3.out.at0 4 _ rfl
  have d5 := RC3.out.at0 5 _ rfl
  have d6 := RC3.out.at0 6 _ rfl
  have d7 := RC3.out.at0 7 _ rfl
  have d8 := RC3.out.at0 8 _ rfl
  have d9 := RC3.out.at0 9 _ rfl
  have d10 := RC3.out.at0 10 _ rfl
  have lr := RC3.out.lt
  go_wp2_with fail
  refine Calls.mono (kC _) ?_
  rintro e w3 ⟨rfl, k3⟩
  have RA4 := hide (RA3.out.later k3)
  have RC4 := hide (RC3.out.later k3)
  have BE2 := hide (BE.out.trans (k3.mono BE.out.size))
  clear k3 RA3 RC3 BE kC d0 d1 d2 d3 d4 d5 d6 d7 d8 d9 d10 lr
  have BE := BE2
  clear RA4 RC4 BE2
  go_wp2_with fail
  refine (alive_spec _).mono ?_
  rintro e w9 ⟨rfl, k9⟩
  have B9 : Hid (Below w.heap.size w w9) := BE.out.trans (k9.mono BE.out.size)
  clear k9
  go_wp2_with fail
  go_returns
  exact ⟨rfl, B9.out⟩
set_option maxRecDepth 100000 in
set_option maxHeartbeats 16000000 in
theorem apart_n (A C : Ru) (ia : RuW A) (ic : RuW C) (ha : A.nm.size ≤ maxLen) (hc : C.nm.size ≤ maxLen) (ma : mayB A = true) (mc : mayB C = true) (en : A.nm = C.nm) (l : Value) (w : World) : Calls Try.prog 6 #[ruV A, ruV C, l] w fun e w' => e = .returned (.bool true) ∧ Below w.heap.size w w' := by
  have kA := rmay_spec A ia
  have kC := rmay_spec C ic
  rw [ma] at kA
  rw [mc] at kC
  have ES := str_eql_same A.nm
  have RA := hide (Row.new w (ruL A) 53 _ rfl)
  have RC := hide (Row.new' (w.alloc (.cells (ruL A).toArray 53)) (ruL C) 53 (w.heap.size + 1) (by simp))
  have BA : Below w.heap.size w (w.alloc (.cells (ruL A).toArray 53)) := (Below.refl _ _).alloc (Nat.le_refl _) _
  have BX : Below (w.heap.size + 1) (w.alloc (.cells (ruL A).toArray 53)) ((w.alloc (.cells (ruL A).toArray 53)).alloc (.cells (ruL C).toArray 53)) := (Below.refl _ _).alloc (by simp) _
  have BW : Below w.heap.size w ((w.alloc (.cells (ruL A).toArray 53)).alloc (.cells (ruL C).toArray 53)) := BA.trans (BX.mono (by omega))
  have RA2 := hide (RA.out.later (by simpa using BX))
  clear BX BA RA
  have EN := hide en
  clear ia ic ha hc ma mc en
  unfold ruV at *
  go_enter Try.func6, Try.ntmps6
  go_wp2_with fail
  refine Calls.mono (kA _) ?_
  rintro e w2 ⟨rfl, k2⟩
  have RA3 := hide (RA2.out.later k2)
  have RC3 := hide (RC.out.later k2)
  have BE := hide (BW.trans (k2.mono BW.size))
  clear k2 RA2 RC BW kA
  have d0 := RC3.out.at0 0 _ rfl
  have d1 := RC3.out.at0 1 _ rfl
  have d2 := RC3.out.at0 2 _ rfl
  have d3 := RC3.out.at0 3 _ rfl
  have d4 := RC3.out.at0 4 _ rfl
  have d5 := RC3.out.at0 5 _ rfl
  have d6 := RC3.out.at0 6 _ rfl
  have d7 := RC3.out.at0 7 _ rfl
  have d8 := RC3.out.at0 8 _ rfl
  have d9 := RC3.out.at0 9 _ rfl
  have d10 := RC3.out.at0 10 _ rfl
  have lr := RC3.out.lt
  go_wp2_with fail
  refine Calls.mono (kC _) ?_
  rintro e w3 ⟨rfl, k3⟩
  have RA4 := hide (RA3.out.later k3)
  have RC4 := hide (RC3.out.later k3)
  have BE2 := hide (BE.out.trans (k3.mono BE.out.size))
  clear k3 RA3 RC3 BE kC d0 d1 d2 d3 d4 d5 d6 d7 d8 d9 d10 lr
  have BE := BE2
  have a0 := RA4.out.at0 0 _ rfl
  have c0 : w3.cell? ⟨w.heap.size + 1, 0, none⟩ = some (.string A.nm) := by rw [EN.out]; exact RC4.out.at0 0 _ rfl
  have la := RA4.out.lt
  have lc := RC4.out.lt
  clear RA4 RC4 BE2
  go_wp2_with fail
  refine (alive_spec _).mono ?_
  rintro e w9 ⟨rfl, k9⟩
  have B9 : Hid (Below w.heap.size w w9) := BE.out.trans (k9.mono BE.out.size)
  clear k9
  go_wp2_with fail
  go_returns
  exact ⟨rfl, B9.out⟩
set_option maxRecDepth 100000 in
set_option maxHeartbeats 16000000 in
theorem apart_y (A C : Ru) (ia : RuW A) (ic : RuW C) (ha : A.nm.size ≤ maxLen) (hc : C.nm.size ≤ maxLen) (ma : mayB A = true) (mc : mayB C = true) (en : A.nm ≠ C.nm) (a : Option Addr) (n cap : Nat) (L : List Op6) (hn : L.length = n) (hn8 : n ≤ 140737488355328) (w : World) (hL : IsSc w a L) : Calls Try.prog 6 #[ruV A, ruV C, .slice a n cap] w fun e w' => e = .returned (.bool true) ∧ Below w.heap.size w w' := by
  have kA := rmay_spec A ia
  have kC := rmay_spec C ic
  rw [ma] at kA
  rw [mc] at kC
  have ES : (A.nm.toList == C.nm.toList) = false := by simpa using toL_ne en
  have k2 := new_two A C ia ic ha hc ma mc en
  have kx := fun (W : World) (g : Nat) (ra : RulesAt W g 0 [A]) => new_one A ia ha ma W g 1 ra
  have ky := fun (W : World) (g : Nat) (ra : RulesAt W g 0 [C]) => new_one C ic hc mc W g 1 ra
  have HL := hide hL
  have HN := hide hn
  have HA := hide ha
  have HC := hide hc
  have NQ := hide en
  have RA := hide (Row.new w (ruL A) 53 _ rfl)
  have RC := hide (Row.new' (w.alloc (.cells (ruL A).toArray 53)) (ruL C) 53 (w.heap.size + 1) (by simp))
  have BA : Below w.heap.size w (w.alloc (.cells (ruL A).toArray 53)) := (Below.refl _ _).alloc (Nat.le_refl _) _
  have BX : Below (w.heap.size + 1) (w.alloc (.cells (ruL A).toArray 53)) ((w.alloc (.cells (ruL A).toArray 53)).alloc (.cells (ruL C).toArray 53)) := (Below.refl _ _).alloc (by simp) _
  have BW : Below w.heap.size w ((w.alloc (.cells (ruL A).toArray 53)).alloc (.cells (ruL C).toArray 53)) := BA.trans (BX.mono (by omega))
  have RA2 := hide (RA.out.later (by simpa using BX))
  clear BX BA RA
  clear ia ic ha hc ma mc hL hn en
  unfold ruV at *
  go_enter Try.func6, Try.ntmps6
  go_wp2_with fail
  refine Calls.mono (kA _) ?_
  rintro e w2 ⟨rfl, k2⟩
  have RA3 := hide (RA2.out.later k2)
  have RC3 := hide (RC.out.later k2)
  have BE := hide (BW.trans (k2.mono BW.size))
  clear k2 RA2 RC BW kA
  have d0 := RC3.out.at0 0 _ rfl
  have d1 := RC3.out.at0 1 _ rfl
  have d2 := RC3.out.at0 2 _ rfl
  have d3 := RC3.out.at0 3 _ rfl
  have d4 := RC3.out.at0 4 _ rfl
  have d5 := RC3.out.at0 5 _ rfl
  have d6 := RC3.out.at0 6 _ rfl
  have d7 := RC3.out.at0 7 _ rfl
  have d8 := RC3.out.at0 8 _ rfl
  have d9 := RC3.out.at0 9 _ rfl
  have d10 := RC3.out.at0 10 _ rfl
  have lr := RC3.out.lt
  go_wp2_with fail
  refine Calls.mono (kC _) ?_
  rintro e w3 ⟨rfl, k3⟩
  have RA4 := hide (RA3.out.later k3)
  have RC4 := hide (RC3.out.later k3)
  have BE2 := hide (BE.out.trans (k3.mono BE.out.size))
  clear k3 RA3 RC3 BE kC d0 d1 d2 d3 d4 d5 d6 d7 d8 d9 d10 lr
  have a0 := RA4.out.at0 0 _ rfl
  have a1 := RA4.out.at0 1 _ rfl
  have a2 := RA4.out.at0 2 _ rfl
  have a3 := RA4.out.at0 3 _ rfl
  have a4 := RA4.out.at0 4 _ rfl
  have a5 := RA4.out.at0 5 _ rfl
  have a6 := RA4.out.at0 6 _ rfl
  have a7 := RA4.out.at0 7 _ rfl
  have a8 := RA4.out.at0 8 _ rfl
  have a9 := RA4.out.at0 9 _ rfl
  have a10 := RA4.out.at0 10 _ rfl
  have c0 := RC4.out.at0 0 _ rfl
  have c1 := RC4.out.at0 1 _ rfl
  have c2 := RC4.out.at0 2 _ rfl
  have c3 := RC4.out.at0 3 _ rfl
  have c4 := RC4.out.at0 4 _ rfl
  have c5 := RC4.out.at0 5 _ rfl
  have c6 := RC4.out.at0 6 _ rfl
  have c7 := RC4.out.at0 7 _ rfl
  have c8 := RC4.out.at0 8 _ rfl
  have c9 := RC4.out.at0 9 _ rfl
  have c10 := RC4.out.at0 10 _ rfl
  have la := RA4.out.lt
  have lc := RC4.out.lt
  go_wp2_with fail
  refine Calls.mono (k2 _ _ _ (rules_two (Row.new' _ (ruL A ++ ruL C) _ _ rfl))) ?_
  rintro e w5 ⟨bb, mb, b1, b2, rfl, bk, p1, p2, p3, p4, k5⟩
  have kk5 := ((Below.refl w3.heap.size w3).alloc (Nat.le_refl _) (.cells (ruL A ++ ruL C).toArray 53)).trans (k5.mono (by simp))
  have RA5 := hide (RA4.out.later kk5)
  have RC5 := hide (RC4.out.later kk5)
  have BE5 := hide (BE2.out.trans (kk5.mono BE2.out.size))
  have BK5 := hide bk
  have Z3 := BE2.out.size
  have l3 : w.heap.size + 1 < w3.heap.size := lc
  have q1 : w3.heap.size ≤ bb := by have := p1; simp at this; omega
  have q2 : w3.heap.size ≤ mb := by have := p2; simp at this; omega
  have q3 : w3.heap.size ≤ b1 := by have := p3; simp at this; omega
  have q4 : w3.heap.size ≤ b2 := by have := p4; simp at this; omega
  have r1 := bk.lt
  have r2 := bk.map.lt
  have r3 := (bk.wat _ List.mem_cons_self).lt
  have r4 := (bk.wat _ (List.mem_cons_of_mem _ List.mem_cons_self)).lt
  have ne12 : b1 ≠ b2 := by
    have := bk.names
    rw [List.pairwise_cons] at this
    exact (this.1 _ List.mem_cons_self).2
  simp only at r3 r4
  clear k5 kk5 bk p1 p2 p3 p4 RA4 RC4 BE2 k2 a0 a1 a2 a3 a4 a5 a6 a7 a8 a9 a10 c0 c1 c2 c3 c4 c5 c6 c7 c8 c9 c10 la lc
  have a0 := RA5.out.at0 0 _ rfl
  have a1 := RA5.out.at0 1 _ rfl
  have a2 := RA5.out.at0 2 _ rfl
  have a3 := RA5.out.at0 3 _ rfl
  have a4 := RA5.out.at0 4 _ rfl
  have a5 := RA5.out.at0 5 _ rfl
  have a6 := RA5.out.at0 6 _ rfl
  have a7 := RA5.out.at0 7 _ rfl
  have a8 := RA5.out.at0 8 _ rfl
  have a9 := RA5.out.at0 9 _ rfl
  have a10 := RA5.out.at0 10 _ rfl
  have la := RA5.out.lt
  have NE := hide ne12
  clear ne12
  go_wp2_with fail
  refine Calls.mono (kx _ _ (rules_one (Row.new' _ (ruL A) _ _ rfl))) ?_
  rintro e w6 ⟨xb, xm, bx, rfl, bk, p1, p2, p3, k6⟩
  have kk6 := ((Below.refl w5.heap.size w5).alloc (Nat.le_refl _) (.cells (ruL A).toArray 53)).trans (k6.mono (by simp))
  have RA6 := hide (RA5.out.later kk6)
  have RC6 := hide (RC5.out.later kk6)
  have BE6 := hide (BE5.out.trans (kk6.mono BE5.out.size))
  have BK6 := hide (BK5.out.later kk6)
  have BX6 := hide bk
  have x1 : w5.heap.size ≤ xb := by have := p1; simp at this; omega
  have x2 : w5.heap.size ≤ xm := by have := p2; simp at this; omega
  have x3 : w5.heap.size ≤ bx := by have := p3; simp at this; omega
  have y1 := bk.lt
  have y2 := bk.map.lt
  have y3 := (bk.wat _ List.mem_cons_self).lt
  simp only at y3
  clear k6 kk6 bk p1 p2 p3 RA5 RC5 BE5 BK5 kx a0 a1 a2 a3 a4 a5 a6 a7 a8 a9 a10 la
  have c0 := RC6.out.at0 0 _ rfl
  have c1 := RC6.out.at0 1 _ rfl
  have c2 := RC6.out.at0 2 _ rfl
  have c3 := RC6.out.at0 3 _ rfl
  have c4 := RC6.out.at0 4 _ rfl
  have c5 := RC6.out.at0 5 _ rfl
  have c6 := RC6.out.at0 6 _ rfl
  have c7 := RC6.out.at0 7 _ rfl
  have c8 := RC6.out.at0 8 _ rfl
  have c9 := RC6.out.at0 9 _ rfl
  have c10 := RC6.out.at0 10 _ rfl
  have lc := RC6.out.lt
  go_wp2_with fail
  refine Calls.mono (ky _ _ (rules_one (Row.new' _ (ruL C) _ _ rfl))) ?_
  rintro e w7 ⟨yb, ym, bY, rfl, bk, p1, p2, p3, k7⟩
  have kk7 := ((Below.refl w6.heap.size w6).alloc (Nat.le_refl _) (.cells (ruL C).toArray 53)).trans (k7.mono (by simp))
  have z1 : w6.heap.size ≤ yb := by have := p1; simp at this; omega
  have z2 : w6.heap.size ≤ ym := by have := p2; simp at this; omega
  have z3 : w6.heap.size ≤ bY := by have := p3; simp at this; omega
  have CH : Hid (Ap w w7 (ruL A) (ruL C) bb mb b1 b2 xb xm bx yb ym bY A C st0 st0 st0 st0) :=
    hide ⟨⟨_, BK6.out.later kk7, List.mem_cons_self, List.mem_cons_of_mem _ List.mem_cons_self, by intro x hx; simp at hx; rcases hx with rfl | rfl; exact .inl rfl; exact .inr rfl⟩, BX6.out.later kk7, bk, RA6.out.later kk7, RC6.out.later kk7, BE6.out.trans (kk7.mono BE6.out.size), ⟨by omega, by omega, by omega, by omega⟩, NE.out, ⟨by omega, by omega, by omega, by omega, by omega, by omega⟩, ⟨by omega, by omega, by omega, by omega, by omega, by omega⟩, ⟨by omega, by omega, by omega, by omega, by omega⟩, ⟨by omega, by omega, by omega, by omega⟩, ⟨⟨by decide, by decide⟩, ⟨by decide, by decide⟩⟩, ⟨⟨by decide, by decide⟩, ⟨by decide, by decide⟩⟩⟩
  clear k7 kk7 bk p1 p2 p3 RA6 RC6 BE6 BK6 BX6 ky c0 c1 c2 c3 c4 c5 c6 c7 c8 c9 c10 lc x1 x2 x3 y1 y2 y3 z1 z2 z3 q1 q2 q3 q4 r1 r2 r3 r4 NE Z3 l3
  go_wp2_with fail
  go_loopw [16] (fun i wr => ∃ (k : Nat) (s u : St), k ≤ n ∧ i = .int .i64 k ∧ Hid (Ap w wr (ruL A) (ruL C) bb mb b1 b2 xb xm bx yb ym bY A C s s u u)) (fun i _ => n - (intOf i).toNat)
  case atStart => exact ⟨0, st0, st0, by omega, rfl, CH⟩
  case round =>
    obtain ⟨k, s, u, hk, rfl, CR⟩ := hrel
    by_cases hlt : k < n
    · have kL : k < L.length := by have := HN.out; omega
      obtain ⟨g, o, rfl, SA⟩ := HL.out.2.resolve_left (by intro e; rw [e] at kL; simp at kL)
      have SC := SA.later CR.out.below
      obtain ⟨q, hq⟩ : ∃ q, q = L[k] := ⟨_, rfl⟩
      have IV := hide (HL.out.1 q (by rw [hq]; exact List.getElem_mem _)).1
      have RCC := fun j v => SC.cell k kL j v
      rw [← hq] at RCC
      obtain ⟨kd, nm, t, is, v1, v0⟩ := q
      simp only at IV
      have r0 : wr.cell? ⟨g, o + k * 6, none⟩ = some (.int .i64 kd) := RCC 0 _ rfl
      have r1 := RCC 1 _ rfl
      have r2 := RCC 2 _ rfl
      have r3 := RCC 3 _ rfl
      have r4 := RCC 4 _ rfl
      have r5 := RCC 5 _ rfl
      simp only at r1 r2 r3 r4 r5
      have hlt' : (k : Int) < (n : Int) := by omega
      have RO := hide (Row.new wr [.int .i64 kd, .string nm, .int .i64 t, .bool is, .int .i64 v1, .int .u64 v0] 40 _ rfl)
      have BO : Below wr.heap.size wr (wr.alloc (.cells [.int .i64 kd, .string nm, .int .i64 t, .bool is, .int .i64 v1, .int .u64 v0].toArray 40)) := (Below.refl _ _).alloc (Nat.le_refl _) _
      have d0 := CR.out.ra.at0 0 _ rfl
      have e0 := CR.out.rc.at0 0 _ rfl
      have ld := CR.out.ra.lt
      have le := CR.out.rc.lt
      have ltb := CR.out.lt
      have ltc := CR.out.swap.lt
      clear RCC SC SA hq kL
      by_cases en : nm = A.nm
      · have q1 : (nm.toList == A.nm.toList) = true := by rw [en]; simp
        have q2 : (nm.toList != A.nm.toList) = false := by rw [en]; simp
        clear en
        by_cases kd2 : kd = 2
        · subst kd2
          as_aux_lemma =>
          go_upto_region 18 with (fail)
          refine abs_wp (fun W => Hid (Ap w W (ruL A) (ruL C) bb mb b1 b2 xb xm bx yb ym bY A C s s u u) ∧ Hid (Row W wr.heap.size 0 [.int .i64 2, .string nm, .int .i64 t, .bool is, .int .i64 v1, .int .u64 v0])) ?_ ?_
          · exact ⟨hide (CR.out.later BO), RO⟩
          rintro W ⟨AW, OW⟩
          have AD := hide (AW.out.later ((Below.refl W.heap.size W).drew))
          have kM := ap_mute AD.out HA.out t
          have kN := ap_muteO AD.out HA.out t
          have o2 := OW.out.at0 2 _ rfl
          have lo := OW.out.lt
          have nb1 : wr.heap.size ∉ [b1] := by have := ltb.1; simp; omega
          have nb2 : wr.heap.size ∉ [bx] := by have := ltb.2; simp; omega
          obtain ⟨mr, hmr⟩ : ∃ mr, mr = muR t := ⟨_, rfl⟩
          rw [← hmr] at kM kN
          have HMR := hide hmr
          clear hmr AW BO RO
          go_region_with (go_at_call 15; first
            | ((with_reducible refine Calls.mono kM ?_); rintro e w5 ⟨rfl, c5, m5⟩; have kN5 := ap_muteO c5 HA.out t; rw [← HMR.out] at kN5; have y2 := (m5.cell (o := 2) lo nb1).trans o2; have ly := Nat.lt_of_lt_of_le lo m5.size; clear c5 m5 kM kN)
            | ((with_reducible refine Calls.mono kN ?_); rintro e w5 ⟨rfl, c5, m5⟩; have kM5 := ap_mute c5 HA.out t; rw [← HMR.out] at kM5; have y2 := (m5.cell (o := 2) lo nb2).trans o2; have ly := Nat.lt_of_lt_of_le lo m5.size; clear c5 m5 kM kN)
            | ((with_reducible refine Calls.mono kN5 ?_); rintro e w6 ⟨rfl, c6, m6⟩; have C6 := hide c6; clear c6 m6)
            | ((with_reducible refine Calls.mono kM5 ?_); rintro e w6 ⟨rfl, c6, m6⟩; have C6 := hide c6; clear c6 m6))
          all_goals
            go_wp2_with fail
            go_roundw
            case rel => exact ⟨k + 1, _, u, by omega, by go_num, C6⟩
            case measure => simp [intOf]; omega
        · have kd2' : (kd == 2) = false := by simpa using kd2
          clear kd2
          as_aux_lemma =>
          go_wp2_with fail
          clear r0 r1 r2 r3 r4 r5
          have AW := hide (CR.out.later BO)
          have kF := ap_feed AW.out HA.out t v1 v0 is IV.out
          go_wp2_with fail
          refine Calls.mono kF ?_
          rintro e w5 ⟨vA, rfl, oA, fA, c5, m5⟩
          have C5 := hide c5
          have lt5 := AW.out.lt
          have RO5 := hide (RO.out.mod m5 (by simp; omega))
          have FA := hide fA
          have OA := hide oA
          have kG := ap_feedO c5 HA.out t v1 v0 is IV.out
          have lk := hide lt5.2
          have ll5 := c5.lt.2
          clear c5 m5 fA oA kF AW lt5
          have z2 := RO5.out.at0 2 _ rfl
          have z3 := RO5.out.at0 3 _ rfl
          have z4 := RO5.out.at0 4 _ rfl
          have z5 := RO5.out.at0 5 _ rfl
          have lz := RO5.out.lt
          obtain ⟨er, her⟩ : ∃ er, er = feE s t := ⟨_, rfl⟩
          rw [← her] at kG ⊢
          clear her
          go_wp2_with fail
          refine Calls.mono kG ?_
          rintro e w6 ⟨vB, rfl, oB, fB, c6, m6⟩
          have C6 := hide c6
          have TW := al_two OA.out FA.out lk.out m6 oB
          have kS := same_al TW
          clear c6 m6 oB fB TW OA FA kG z2 z3 z4 z5 lz
          go_wp2_with fail
          refine Calls.mono kS ?_
          rintro e w7 ⟨rfl, k7⟩
          have C7 := hide (C6.out.later k7)
          clear k7 C6 kS
          go_wp2_with fail
          go_roundw
          case rel => exact ⟨k + 1, _, u, by omega, by go_num, C7⟩
          case measure => simp [intOf]; omega
      · have q1 : (nm.toList == A.nm.toList) = false := by simpa using toL_ne en
        have q2 : (nm.toList != A.nm.toList) = true := by simpa using toL_ne en
        clear en
        by_cases kd2 : kd = 2
        · subst kd2
          as_aux_lemma =>
          go_upto_region 18 with (fail)
          refine abs_wp (fun W => Hid (Ap w W (ruL A) (ruL C) bb mb b2 b1 yb ym bY xb xm bx C A u u s s) ∧ Hid (Row W wr.heap.size 0 [.int .i64 2, .string nm, .int .i64 t, .bool is, .int .i64 v1, .int .u64 v0])) ?_ ?_
          · exact ⟨hide (CR.out.swap.later BO), RO⟩
          rintro W ⟨AW, OW⟩
          have AD := hide (AW.out.later ((Below.refl W.heap.size W).drew))
          have kM := ap_mute AD.out HC.out t
          have kN := ap_muteO AD.out HC.out t
          have o2 := OW.out.at0 2 _ rfl
          have lo := OW.out.lt
          have nb1 : wr.heap.size ∉ [b2] := by have := ltc.1; simp; omega
          have nb2 : wr.heap.size ∉ [bY] := by have := ltc.2; simp; omega
          obtain ⟨mr, hmr⟩ : ∃ mr, mr = muR t := ⟨_, rfl⟩
          rw [← hmr] at kM kN
          have HMR := hide hmr
          clear hmr AW BO RO
          go_region_with (go_at_call 15; first
            | ((with_reducible refine Calls.mono kM ?_); rintro e w5 ⟨rfl, c5, m5⟩; have kN5 := ap_muteO c5 HC.out t; rw [← HMR.out] at kN5; have y2 := (m5.cell (o := 2) lo nb1).trans o2; have ly := Nat.lt_of_lt_of_le lo m5.size; clear c5 m5 kM kN)
            | ((with_reducible refine Calls.mono kN ?_); rintro e w5 ⟨rfl, c5, m5⟩; have kM5 := ap_mute c5 HC.out t; rw [← HMR.out] at kM5; have y2 := (m5.cell (o := 2) lo nb2).trans o2; have ly := Nat.lt_of_lt_of_le lo m5.size; clear c5 m5 kM kN)
            | ((with_reducible refine Calls.mono kN5 ?_); rintro e w6 ⟨rfl, c6, m6⟩; have C6 := hide c6; clear c6 m6)
            | ((with_reducible refine Calls.mono kM5 ?_); rintro e w6 ⟨rfl, c6, m6⟩; have C6 := hide c6; clear c6 m6))
          all_goals
            go_wp2_with fail
            go_roundw
            case rel => exact ⟨k + 1, s, _, by omega, by go_num, hide C6.out.swap⟩
            case measure => simp [intOf]; omega
        · have kd2' : (kd == 2) = false := by simpa using kd2
          clear kd2
          as_aux_lemma =>
          go_wp2_with fail
          clear r0 r1 r2 r3 r4 r5
          have AW := hide (CR.out.swap.later BO)
          have kF := ap_feed AW.out HC.out t v1 v0 is IV.out
          go_wp2_with fail
          refine Calls.mono kF ?_
          rintro e w5 ⟨vA, rfl, oA, fA, c5, m5⟩
          have C5 := hide c5
          have lt5 := AW.out.lt
          have RO5 := hide (RO.out.mod m5 (by simp; omega))
          have FA := hide fA
          have OA := hide oA
          have kG := ap_feedO c5 HC.out t v1 v0 is IV.out
          have lk := hide lt5.2
          have ll5 := c5.lt.2
          clear c5 m5 fA oA kF AW lt5
          have z2 := RO5.out.at0 2 _ rfl
          have z3 := RO5.out.at0 3 _ rfl
          have z4 := RO5.out.at0 4 _ rfl
          have z5 := RO5.out.at0 5 _ rfl
          have lz := RO5.out.lt
          obtain ⟨er, her⟩ : ∃ er, er = feE u t := ⟨_, rfl⟩
          rw [← her] at kG ⊢
          clear her
          go_wp2_with fail
          refine Calls.mono kG ?_
          rintro e w6 ⟨vB, rfl, oB, fB, c6, m6⟩
          have C6 := hide c6
          have TW := al_two OA.out FA.out lk.out m6 oB
          have kS := same_al TW
          clear c6 m6 oB fB TW OA FA kG z2 z3 z4 z5 lz
          go_wp2_with fail
          refine Calls.mono kS ?_
          rintro e w7 ⟨rfl, k7⟩
          have C7 := hide (C6.out.later k7)
          clear k7 C6 kS
          go_wp2_with fail
          go_roundw
          case rel => exact ⟨k + 1, s, _, by omega, by go_num, hide C7.out.swap⟩
          case measure => simp [intOf]; omega
    · obtain rfl : k = n := by omega
      have k1 := ap_state CR.out HA.out
      have k2 := ap_stateO CR.out HA.out
      have k3 := ap_state CR.out.swap HC.out
      have k4 := ap_stateO CR.out.swap HC.out
      have d0 := CR.out.ra.at0 0 _ rfl
      have e0 := CR.out.rc.at0 0 _ rfl
      have ld := CR.out.ra.lt
      have le := CR.out.rc.lt
      have g1 : 1 ≤ s.st := CR.out.st.1.1.1
      have g2 : 1 ≤ u.st := CR.out.st.2.1.1
      have BE := hide CR.out.below
      clear CR HL
      go_wp2_with fail
      refine Calls.mono k1 ?_
      rintro e w' ⟨rfl, rfl⟩
      go_wp2_with fail
      refine Calls.mono k2 ?_
      rintro e w' ⟨rfl, rfl⟩
      go_wp2_with fail
      refine Calls.mono k3 ?_
      rintro e w' ⟨rfl, rfl⟩
      go_wp2_with fail
      refine Calls.mono k4 ?_
      rintro e w' ⟨rfl, rfl⟩
      go_wp2_with fail
      refine (alive_spec _).mono ?_
      rintro e w9 ⟨rfl, k9⟩
      have B9 : Hid (Below w.heap.size w w9) := BE.out.trans (k9.mono BE.out.size)
      clear k9
      go_wp2_with fail
      go_returns
      exact ⟨rfl, B9.out⟩
theorem law_AlarmApart (A C : Ru) (a : Option Addr) (n cap : Nat) (L : List Op6) (ia : RuW A) (ha : A.nm.size ≤ maxLen) (ic : RuW C) (hc : C.nm.size ≤ maxLen) (hn : L.length = n ∧ n ≤ 140737488355328) (w : World) (hL : IsSc w a L) :
    Calls Try.prog 6 #[ruV A, ruV C, .slice a n cap] w fun e w' => e = .returned (.bool true) ∧ Below w.heap.size w w' := by
  cases ma : mayB A
  · exact apart_a A C ia ic ha hc ma _ w
  · cases mc : mayB C
    · exact apart_c A C ia ic ha hc ma mc _ w
    · by_cases en : A.nm = C.nm
      · exact apart_n A C ia ic ha hc ma mc en _ w
      · exact apart_y A C ia ic ha hc ma mc en a n cap L hn.1 hn.2 w hL
end Go.Proofs.Ytnlefakicjojdaa
/-
  AlarmApart: for every input the law returns true, and each argument reads afterwards as it read before. No condition on the input.
-/
namespace Go.Proofs.Ytnlefakicjojdaa.alarmApart
open Go.ChangeShapes Go.WideShapes Go.ChangeAt Go.RowKit Go.Deep W
set_option linter.unusedVariables false
theorem own : ownKnob Try.prog.godebug = none := by kernel_rfl
theorem laidOut : laidOutB Try.prog = true := by kernel_rfl
set_option maxRecDepth 100000 in
theorem lifted (os : Os) (started : os.Started) (H : Type) (enc : TypeId × Value → H) :
    ReturnsInHanded {} Try.checked os 6 .any (Rows.alarmApartSpec.pre6 enc Try.prog Try.f6 Rows.alarmApartRow.domain false) (Rows.alarmApartSpec.post enc Try.prog Try.f6 false true false false) := by
  refine returnsInHanded_of_change_sized (C := Try.checked) own started (by kernel_rfl) Try.func6
    (ChangeSpec.witness6 (enc := enc) (C := Try.checked) false ⟨#[], #[.agg #[.string ByteArray.empty, .bool false, .int .i64 0, .int .u64 0, .int .i64 0, .int .u64 0, .int .i64 0, .int .u64 0, .int .i64 0, .int .i64 0, .int .i64 0], .agg #[.string ByteArray.empty, .bool false, .int .i64 0, .int .u64 0, .int .i64 0, .int .u64 0, .int .i64 0, .int .u64 0, .int .i64 0, .int .i64 0, .int .i64 0], .slice none 0 0], []⟩ 8 (by kernel_rfl) (by kernel_rfl) (by kernel_rfl) (by kernel_rfl)) ?_
  intro W base args ds gs before hval0 hW hcnd hsz0 _
  have hsz : (DataW.weightsEach Try.prog (Try.f6.params.toList ++ Rows.alarmApartSpec.plain.varTypes Try.prog) (ds ++ gs)).all (· ≤ reachBytes) = true := hsz0
  clear hsz0
  have hval : ∀ (j : Nat) t v, Try.f6.params[j]? = some t → args[j]? = some v → Value.okWide Try.prog W .any base t v := hval0
  have hW' := hW
  obtain ⟨p, q, hA0, hV, rfl, hfz, hnd⟩ := hW
  have hA : DataW.TrodAll enc Try.prog W 0 (fun _ => true) true Try.f6.params.toList args.toList ds p := hA0
  rw [Try.params6] at hA hval hsz
  obtain ⟨v0, vs0, d0, ds0, p0, q0, hargs, rfl, rfl, h0, r0⟩ := trodAll_cons hA
  obtain ⟨v1, vs1, d1, ds1, p1, q1, rfl, rfl, rfl, h1, r1⟩ := trodAll_cons r0
  obtain ⟨v2, vs2, d2, ds2, p2, q2, rfl, rfl, rfl, h2, r2⟩ := trodAll_cons r1
  obtain ⟨rfl, rfl, rfl⟩ := trodAll_nil r2
  obtain rfl : args = #[v0, v1, v2] := by cases args; simp_all
  obtain ⟨rfl, rfl⟩ := trodVars_none hV
  have k0 := h0
  have lt0 : ∀ x ∈ p0, x.block < W.heap.size := by obtain ⟨m, hm⟩ := k0; exact DataW.trod_lt m _ _ _ hm
  obtain ⟨cs0, rfl, hz0⟩ := okWide_struct Try.underlying53 (hval 0 53 v0 rfl rfl)
  obtain ⟨fuel0, hf0⟩ := h0
  obtain ⟨R0, e0, iw0, ws0⟩ := Go.Proofs.Ytnlefakicjojdaa.rd_rule hf0
  obtain rfl : cs0 = (Go.Proofs.Ytnlefakicjojdaa.ruL R0).toArray := by cases cs0; simpa [Value.cells] using e0
  have k1 := h1
  have lt1 : ∀ x ∈ p1, x.block < W.heap.size := by obtain ⟨m, hm⟩ := k1; exact DataW.trod_lt m _ _ _ hm
  obtain ⟨cs1, rfl, hz1⟩ := okWide_struct Try.underlying53 (hval 1 53 v1 rfl rfl)
  obtain ⟨fuel1, hf1⟩ := h1
  obtain ⟨R1, e1, iw1, ws1⟩ := Go.Proofs.Ytnlefakicjojdaa.rd_rule hf1
  obtain rfl : cs1 = (Go.Proofs.Ytnlefakicjojdaa.ruL R1).toArray := by cases cs1; simpa [Value.cells] using e1
  have k2 := h2
  have lt2 : ∀ x ∈ p2, x.block < W.heap.size := by obtain ⟨m, hm⟩ := k2; exact DataW.trod_lt m _ _ _ hm
  obtain ⟨s2, n2, c2, rfl⟩ := okWide_slice Try.underlying23 (hval 2 23 v2 rfl rfl)
  obtain ⟨fuel2, hf2⟩ := h2
  obtain ⟨L2, hl2, hL2, hd2⟩ := Go.Proofs.Ytnlefakicjojdaa.rd_script (by simpa [Value.cells] using hf2)
  have hn2 : L2.length = n2 ∧ n2 ≤ 140737488355328 := by
    refine ⟨hl2, ?_⟩
    rcases hd2 with e | ⟨el, spd, e, el2⟩
    · omega
    · have h1 := sized_slice hsz (j := 2) (t := 23) (e := 40) (elems := el) (spare := spd) rfl (by simp; exact e) Try.underlying23
      have rl := reachBytes_lt
      rw [(by kernel_rfl : Try.prog.bytesOf 40 = 56)] at h1
      omega
  clear hA0 hval0
  refine (Go.Proofs.Ytnlefakicjojdaa.law_AlarmApart R0 R1 s2 n2 c2 L2 iw0 ws0 iw1 ws1 hn2 W hL2).mono fun e W' ⟨he, bel⟩ => ?_
  subst he
  exact ⟨_, rfl, _, _, _, [], _, [], hW', trodAll_mk1 (shut_bool Try.underlying4 _), (trodAll_cons_mk (Below.trod laidOut (by kernel_rfl) (of_decide_eq_true (by kernel_rfl)) k0 bel lt0) (trodAll_cons_mk (Below.trod laidOut (by kernel_rfl) (of_decide_eq_true (by kernel_rfl)) k1 bel lt1) (trodAll_cons_mk (Below.trod laidOut (by kernel_rfl) (of_decide_eq_true (by kernel_rfl)) k2 bel lt2) trodAll_mk0))), rfl, bel.frame _, fun h => by cases h⟩
theorem over : Rows.alarmApartRow.holds Try.pinned (OpenSpec.ofChange Rows.alarmApartSpec) :=
  OpenClaim.holds_of_wide 6 Try.f6 rfl rfl rfl rfl rfl rfl rfl ⟨rfl, rfl, rfl, rfl, rfl⟩ rfl rfl rfl rfl rfl (by kernel_rfl) Try.func6 (by kernel_rfl)
    (of_decide_eq_true (by kernel_rfl)) (by unfold Func.isWrapper; first | (rw [if_pos (by decide +kernel)]; kernel_rfl) | (rw [if_neg (by decide +kernel)]; exact ⟨rfl, rfl⟩))
    (fun os started H enc _ => lifted os started H enc)
end Go.Proofs.Ytnlefakicjojdaa.alarmApart
namespace Go.Proofs.Ytnlefakicjojdaa
theorem alarmApart_holds : Rows.AlarmApartSaid := alarmApart.over
#print axioms alarmApart_holds
end Go.Proofs.Ytnlefakicjojdaa
