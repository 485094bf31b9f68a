/- alarm: gap, move, due. -/
import Derived.Test.YtnlefakicjojdaaAlw
namespace Go.Proofs.Ytnlefakicjojdaa
set_option linter.unusedVariables false
set_option linter.unusedSimpArgs false
open Go.RowKit W Go.Maps
theorem WPost.more {w w1 w2 : World} {b : Nat} {R : Ru} {s : St} {e : Ending} (h : WPost w1 b R s e w2) (m : Mod [b] w w1) : WPost w b R s e w2 := ⟨h.1, h.2.1, m.trans h.2.2⟩
theorem Mod.drewN {l : List Nat} {a b : World} (h : Mod l a b) (n : Nat) : Mod l a (b.drewN n) := ⟨h.os, h.tape, h.output, h.size, h.block⟩
set_option maxRecDepth 100000 in
set_option maxHeartbeats 4000000 in
theorem gap_spec {w : World} {b : Nat} {R : Ru} {s : St} (h : WatchAt w b R s) :
    Calls Try.prog 30 #[.pointer (some ⟨b, 0, none⟩)] w (WPost w b R (gapS R s)) := by
  have H := hide h
  have lt := h.lt
  have c9 := h.at0 9 _ rfl
  have c15 := h.at0 15 _ rfl
  have c16 := h.at0 16 _ rfl
  have c17 := h.at0 17 _ rfl
  have f15 := h.fr0 15 (by simp [wlx])
  have f16 := h.fr0 16 (by simp [wlx])
  have f17 := h.fr0 17 (by simp [wlx])
  obtain ⟨g, hg⟩ : ∃ g, IntKind.i64.wrap (s.gaps + 1) = g := ⟨_, rfl⟩
  have R1 : Hid (∀ n, WatchAt ((((w.setCell ⟨b, 15, none⟩ (.int .i64 0)).setCell ⟨b, 16, none⟩ (.int .i64 0)).setCell ⟨b, 17, none⟩ (.int .i64 g)).drewN n) b R (gap1 s)) := by
    intro n
    have r := (((h.set0 15 (by simp [wlx]) (.int .i64 0)).set0 16 (by simp [wlx]) (.int .i64 0)).set0 17 (by simp [wlx]) (.int .i64 g)).drewN n
    rw [← hg] at r ⊢
    exact r
  have M1 : Hid (∀ n, Mod [b] w ((((w.setCell ⟨b, 15, none⟩ (.int .i64 0)).setCell ⟨b, 16, none⟩ (.int .i64 0)).setCell ⟨b, 17, none⟩ (.int .i64 g)).drewN n)) :=
    fun n => ((((Mod.refl [b] w).setCell (by simp) _).setCell (by simp) _).setCell (by simp) _).drewN n
  have KE := fun (W : World) (k : WatchAt W b R (gap1 s)) => enter_spec k 4
  have GG : Hid ((gap1 s).gaps = g) := hg
  obtain ⟨an, an0⟩ : ∃ an, an = R.an := ⟨_, rfl⟩
  rw [← an0] at c9
  clear h
  by_cases p : 0 < an
  · by_cases q : an ≤ g
    · have e : Hid (gapS R s = entS (gap1 s) 4) := by show _ = _; unfold gapS; rw [if_pos]; rw [GG.out, ← an0]; exact ⟨p, q⟩
      have p' : decide (0 < an) = true := decide_eq_true p
      have q' : decide (an ≤ g) = true := decide_eq_true q
      clear an0
      go_enter Try.func30, Try.ntmps30
      go_wp2_with fail
      go_quiet (fail)
      go_wp2_with fail
      refine (KE _ (R1.out _)).mono ?_
      rintro e w2 k
      have P := hide (k.more (M1.out _))
      obtain ⟨rfl, _, _⟩ := k
      go_wp2_with fail
      go_end0
      rw [e.out]
      exact P.out
    · have e : Hid (gapS R s = gap1 s) := by show _ = _; unfold gapS; rw [if_neg]; rw [GG.out, ← an0]; exact fun z => q z.2
      have q' : decide (an ≤ g) = false := decide_eq_false q
      clear an0
      go_enter Try.func30, Try.ntmps30
      go_wp2_with fail
      go_quiet (fail)
      go_wp2_with fail
      go_end0
      rw [e.out]
      exact ⟨rfl, R1.out _, M1.out _⟩
  · have e : Hid (gapS R s = gap1 s) := by show _ = _; unfold gapS; rw [if_neg]; rw [← an0]; exact fun z => p z.1
    have p' : decide (0 < an) = false := decide_eq_false p
    clear an0
    go_enter Try.func30, Try.ntmps30
    go_wp2_with fail
    go_quiet (fail)
    go_wp2_with fail
    go_end0
    rw [e.out]
    exact ⟨rfl, R1.out _, M1.out _⟩
set_option maxRecDepth 100000 in
set_option maxHeartbeats 4000000 in
theorem move_spec {w : World} {b : Nat} {R : Ru} {s : St} (h : WatchAt w b R s) (l : Int) :
    Calls Try.prog 31 #[.pointer (some ⟨b, 0, none⟩), .int .i64 l] w (WPost w b R (movS R s l)) := by
  have H := hide h
  have lt := h.lt
  have c8 := h.at0 8 _ rfl
  have c11 := h.at0 11 _ rfl
  have c15 := h.at0 15 _ rfl
  have c16 := h.at0 16 _ rfl
  have f15 := h.fr0 15 (by simp [wlx])
  have f16 := h.fr0 16 (by simp [wlx])
  have KE := fun (W : World) (k : WatchAt W b R (mov1 s l)) => enter_spec k l
  have K0 := enter_spec h l
  clear h
  by_cases p : l = s.st
  · have e : Hid (movS R s l = { s with cand := 0, runs := 0 }) := by show _ = _; unfold movS; rw [if_pos p]
    rw [← p] at c11
    clear p KE K0
    go_enter Try.func31, Try.ntmps31
    go_wp2_with fail
    go_end0
    rw [e.out]
    exact ⟨rfl, (H.out.set0 15 (by simp [wlx]) (.int .i64 0)).set0 16 (by simp [wlx]) (.int .i64 0), ((Mod.refl [b] w).setCell (by simp) _).setCell (by simp) _⟩
  · have p' : (l == s.st) = false := by simpa using p
    by_cases q : s.st = 4 ∨ l < s.st
    · have e : Hid (movS R s l = entS s l) := by show _ = _; unfold movS; rw [if_neg p, if_pos q]
      clear KE
      by_cases q4 : s.st = 4
      · rw [q4] at c11 p'
        go_enter Try.func31, Try.ntmps31
        clear p q q4
        go_wp2_with fail
        refine K0.mono ?_
        rintro e2 w2 k
        have P := hide k
        obtain ⟨rfl, _, _⟩ := k
        go_wp2_with fail
        go_end0
        rw [e.out]
        exact P.out
      · have q5 : (s.st == 4) = false := by simpa using q4
        have q6 : l < s.st := q.resolve_left q4
        clear p q q4
        go_enter Try.func31, Try.ntmps31
        go_wp2_with fail
        refine K0.mono ?_
        rintro e2 w2 k
        have P := hide k
        obtain ⟨rfl, _, _⟩ := k
        go_wp2_with fail
        go_end0
        rw [e.out]
        exact P.out
    · have q5 : (s.st == 4) = false := by simp only [beq_eq_false_iff_ne, ne_eq]; exact fun z => q (.inl z)
      have q6 : ¬ l < s.st := fun z => q (.inr z)
      have E : Hid (movS R s l = if R.fr ≤ (mov1 s l).runs then entS (mov1 s l) l else mov1 s l) := by show _ = _; unfold movS; rw [if_neg p, if_neg q]
      clear K0 p q
      by_cases r : s.cand = l
      · obtain ⟨g, hg⟩ : ∃ g, IntKind.i64.wrap (s.runs + 1) = g := ⟨_, rfl⟩
        have em : mov1 s l = { s with runs := g } := by unfold mov1 pl1; rw [if_pos r, hg]
        rw [em] at KE E
        have E2 : Hid (movS R s l = if R.fr ≤ g then entS { s with runs := g } l else { s with runs := g }) := E.out
        clear E em
        have r' : (l != s.cand) = false := by simp [r]
        have R1 : Hid (∀ n, WatchAt ((w.setCell ⟨b, 16, none⟩ (.int .i64 g)).drewN n) b R { s with runs := g }) := fun n => (H.out.set0 16 (by simp [wlx]) (.int .i64 g)).drewN n
        have M1 : Hid (∀ n, Mod [b] w ((w.setCell ⟨b, 16, none⟩ (.int .i64 g)).drewN n)) := fun n => ((Mod.refl [b] w).setCell (by simp) _).drewN n
        clear r
        by_cases z : R.fr ≤ g
        · rw [if_pos z] at E2
          have z' : decide (R.fr ≤ g) = true := decide_eq_true z
          go_enter Try.func31, Try.ntmps31
          go_wp2_with fail
          go_quiet (fail)
          go_wp2_with fail
          refine (KE _ (R1.out _)).mono ?_
          rintro e2 w2 k
          have P := hide (k.more (M1.out _))
          obtain ⟨rfl, _, _⟩ := k
          go_wp2_with fail
          go_end0
          rw [E2.out]
          exact P.out
        · rw [if_neg z] at E2
          have z' : decide (R.fr ≤ g) = false := decide_eq_false z
          go_enter Try.func31, Try.ntmps31
          go_wp2_with fail
          go_quiet (fail)
          go_wp2_with fail
          go_end0
          rw [E2.out]
          exact ⟨rfl, R1.out _, M1.out _⟩
      · have em : mov1 s l = { s with cand := l, runs := 1 } := by unfold mov1; rw [if_neg r]; rfl
        rw [em] at KE E
        have E2 : Hid (movS R s l = if R.fr ≤ 1 then entS { s with cand := l, runs := 1 } l else { s with cand := l, runs := 1 }) := E.out
        clear E em
        have r' : (l != s.cand) = true := by simpa using fun z => r z.symm
        have R1 : Hid (∀ n, WatchAt ((((w.setCell ⟨b, 15, none⟩ (.int .i64 l)).setCell ⟨b, 16, none⟩ (.int .i64 0)).setCell ⟨b, 16, none⟩ (.int .i64 1)).drewN n) b R { s with cand := l, runs := 1 }) := fun n => (((H.out.set0 15 (by simp [wlx]) (.int .i64 l)).set0 16 (by simp [wlx]) (.int .i64 0)).set0 16 (by simp [wlx]) (.int .i64 1)).drewN n
        have M1 : Hid (∀ n, Mod [b] w ((((w.setCell ⟨b, 15, none⟩ (.int .i64 l)).setCell ⟨b, 16, none⟩ (.int .i64 0)).setCell ⟨b, 16, none⟩ (.int .i64 1)).drewN n)) := fun n => ((((Mod.refl [b] w).setCell (by simp) _).setCell (by simp) _).setCell (by simp) _).drewN n
        clear r
        by_cases z : R.fr ≤ 1
        · rw [if_pos z] at E2
          have z' : decide (R.fr ≤ 1) = true := decide_eq_true z
          go_enter Try.func31, Try.ntmps31
          go_wp2_with fail
          refine abs_wp (fun W => Hid (W = (((w.setCell ⟨b, 15, none⟩ (.int .i64 l)).setCell ⟨b, 16, none⟩ (.int .i64 0)).setCell ⟨b, 16, none⟩ (.int .i64 1))) ∧ W.cell? ⟨b, 16, none⟩ = some (.int .i64 1) ∧ W.cell? ⟨b, 8, none⟩ = some (.int .i64 R.fr) ∧ b < W.heap.size) ⟨rfl, (R1.out 0).at0 16 _ rfl, (R1.out 0).at0 8 _ rfl, (R1.out 0).lt⟩ ?_
          rintro W ⟨hW, d16, d8, lW⟩
          rw [← hW.out] at R1 M1
          go_quiet (fail)
          go_wp2_with fail
          refine (KE _ (R1.out _)).mono ?_
          rintro e2 w2 k
          have P := hide (k.more (M1.out _))
          obtain ⟨rfl, _, _⟩ := k
          go_wp2_with fail
          go_end0
          rw [E2.out]
          exact P.out
        · rw [if_neg z] at E2
          have z' : decide (R.fr ≤ 1) = false := decide_eq_false z
          go_enter Try.func31, Try.ntmps31
          go_wp2_with fail
          refine abs_wp (fun W => Hid (W = (((w.setCell ⟨b, 15, none⟩ (.int .i64 l)).setCell ⟨b, 16, none⟩ (.int .i64 0)).setCell ⟨b, 16, none⟩ (.int .i64 1))) ∧ W.cell? ⟨b, 16, none⟩ = some (.int .i64 1) ∧ W.cell? ⟨b, 8, none⟩ = some (.int .i64 R.fr) ∧ b < W.heap.size) ⟨rfl, (R1.out 0).at0 16 _ rfl, (R1.out 0).at0 8 _ rfl, (R1.out 0).lt⟩ ?_
          rintro W ⟨hW, d16, d8, lW⟩
          rw [← hW.out] at R1 M1
          go_quiet (fail)
          go_wp2_with fail
          go_end0
          rw [E2.out]
          exact ⟨rfl, R1.out _, M1.out _⟩
set_option maxRecDepth 100000 in
set_option maxHeartbeats 4000000 in
theorem due_spec {w : World} {b : Nat} {R : Ru} {s : St} (h : WatchAt w b R s) (at' : Int) :
    Calls Try.prog 48 #[.pointer (some ⟨b, 0, none⟩), .int .i64 at'] w fun e w' => e = .returned (.bool (dueB R s at')) ∧ ∃ n, w' = w.drewN n := by
  have lt := h.lt
  have c10 := h.at0 10 _ rfl
  have c11 := h.at0 11 _ rfl
  have c14 := h.at0 14 _ rfl
  clear h
  obtain ⟨g, hg⟩ : ∃ g, IntKind.i64.wrap (at' - s.when) = g := ⟨_, rfl⟩
  have E : Hid (dueB R s at' = ((s.st != 1) && (decide (0 < R.ag) && decide (R.ag ≤ g)))) := by
    show _ = _
    unfold dueB
    rw [hg, Bool.eq_iff_iff]
    simp
  by_cases p : s.st = 1
  · rw [p] at c11 E
    go_enter Try.func48, Try.ntmps48
    clear p
    go_wp2_with fail
    go_quiet (fail)
    go_wp2_with fail
    go_returns
    exact ⟨by rw [E.out]; rfl, _, rfl⟩
  · have p' : (s.st != 1) = true := by simpa using p
    rw [p'] at E
    by_cases q : 0 < R.ag
    · rw [decide_eq_true q] at E
      have q' : decide (0 < R.ag) = true := decide_eq_true q
      go_enter Try.func48, Try.ntmps48
      clear p q
      go_wp2_with fail
      go_quiet (fail)
      go_wp2_with fail
      go_returns
      exact ⟨by rw [E.out]; simp, _, rfl⟩
    · rw [decide_eq_false q] at E
      have q' : decide (0 < R.ag) = false := decide_eq_false q
      go_enter Try.func48, Try.ntmps48
      clear p q
      go_wp2_with fail
      go_quiet (fail)
      go_wp2_with fail
      go_returns
      exact ⟨by rw [E.out]; rfl, _, rfl⟩
end Go.Proofs.Ytnlefakicjojdaa
