/- admit: New; AdmitChecks. -/
import Derived.Test.YtobcjpgcafdjkaaAchk
import Derived.Maps.OwnOps
namespace Go.Proofs.Ytobcjpgcafdjkaa
set_option linter.unusedVariables false
set_option linter.unusedSimpArgs false
open Go.RowKit W
theorem bet_spec (n l m : Int) (w : World) :
    Calls Try.prog 44 #[.int .i64 n, .int .i64 l, .int .i64 m] w fun e w' => e = .returned (.bool (decide (l ≤ n) && decide (n ≤ m))) ∧ w = w' := by
  by_cases h : l ≤ n
  · by_cases g : n ≤ m
    · rw [decide_eq_true h, decide_eq_true g]
      go_enter Try.func44, Try.ntmps44
      go_wp2_with fail
      go_returns
      exact ⟨rfl, rfl⟩
    · rw [decide_eq_true h, decide_eq_false g]
      go_enter Try.func44, Try.ntmps44
      go_wp2_with fail
      go_returns
      exact ⟨rfl, rfl⟩
  · rw [decide_eq_false h]
    go_enter Try.func44, Try.ntmps44
    go_wp2_with fail
    go_returns
    exact ⟨rfl, rfl⟩
set_option maxRecDepth 100000 in
set_option maxHeartbeats 8000000 in
theorem acheck_spec (a b c d e f g h i : Int) (w : World) :
    Calls Try.prog 31 #[cfgV a b c d e f g h i] w fun x w' => x = .returned (.int .i64 (cfgE a b c d e f g h i)) ∧ Below w.heap.size w w' := by
  go_enter Try.func31, Try.ntmps31
  go_wp2_with (go_at_call 44; refine (bet_spec _ _ _ _).mono ?_; rintro e w' ⟨rfl, rfl⟩)
  all_goals
    go_returns
    refine ⟨ret_int ?_, by go_grown⟩
    first
    | exact (cfgE_yes (by simp_all)).symm
    | exact (cfgE_yes (by omega)).symm
    | exact (cfgE_no (by simp_all; try omega)).symm
    | exact (cfgE_no (by omega)).symm
theorem second_yes (t : Int) (a : 0 ≤ t) (b : t ≤ 1099511627775) (w : World) :
    Calls Try.prog 51 #[.int .i64 t] w fun e w' => e = .returned (.bool true) ∧ w = w' := by
  go_enter Try.func51, Try.ntmps51
  go_wp2_with fail
  go_returns
  exact ⟨rfl, rfl⟩
def SomeP (w : World) (e : Ending) (w' : World) : Prop := ∃ a : Addr, e = .returned (.tuple #[.pointer (some a), .int .i64 0]) ∧ Below w.heap.size w w'
theorem dnew_spec (n : Int) (a : 1 ≤ n) (b : n ≤ 65536) (w : World) :
    Calls Try.prog 52 #[.int .i64 n] w (SomeP w) := by
  have hmm := @run_makeMap Try.prog
  go_enter Try.func52, Try.ntmps52
  go_wp2_with fail
  clear hmm
  go_returns
  exact ⟨_, rfl, by go_grown⟩
theorem snew_spec (n l i : Int) (a : 1 ≤ n) (b : n ≤ 1024) (l0 : 0 ≤ l) (l1 : l ≤ 1099511627775) (i0 : 1 ≤ i) (i1 : i ≤ 1099511627775) (w : World) :
    Calls Try.prog 43 #[.int .i64 n, .int .i64 l, .int .i64 i] w (SomeP w) := by
  have k1 := second_yes l l0 l1
  have k2 := second_yes i (by omega) i1
  have k3 := dnew_spec n a (by omega)
  have iz : (i == 0) = false := by rw [beq_eq_false_iff_ne]; omega
  have hmm := @run_makeMap Try.prog
  go_enter Try.func43, Try.ntmps43
  go_wp2_with fail
  refine (k1 _).mono ?_
  rintro e w1 ⟨rfl, rfl⟩
  go_wp2_with fail
  refine (k2 _).mono ?_
  rintro e w2 ⟨rfl, rfl⟩
  clear k1 k2
  go_wp2_with fail
  refine (k3 _).mono ?_
  rintro e w3 ⟨p, rfl, h3⟩
  have B3 : Below w.heap.size w w3 := Below.trans (by go_grown) (h3.mono (by first | exact Nat.le_refl _ | (simp; done) | omega | (simp; omega)))
  have y3 := B3.size
  clear h3
  go_wp2_with fail
  refine (k3 _).mono ?_
  rintro e w4 ⟨q, rfl, h4⟩
  have B4 : Below w.heap.size w w4 := B3.trans (h4.mono y3)
  have y4 := B4.size
  clear h4 k3 B3
  go_wp2_with fail
  clear hmm
  go_returns
  exact ⟨_, rfl, by go_grown⟩
set_option maxRecDepth 100000 in
set_option maxHeartbeats 4000000 in
theorem anew_no (a b c d e f g h i er : Int) (n : (er != 0) = true)
    (k1 : ∀ w, Calls Try.prog 31 #[cfgV a b c d e f g h i] w fun x w' => x = .returned (.int .i64 er) ∧ Below w.heap.size w w') (w : World) :
    Calls Try.prog 29 #[cfgV a b c d e f g h i] w fun x w' => x = .returned (.tuple #[.pointer none, .int .i64 er]) ∧ Below w.heap.size w w' := by
  go_enter Try.func29, Try.ntmps29
  go_wp2_with fail
  refine (k1 _).mono ?_
  rintro x w1 ⟨rfl, h1⟩
  have B1 : Below w.heap.size w w1 := Below.trans (by go_grown) (h1.mono (by first | exact Nat.le_refl _ | (simp; done) | omega | (simp; omega)))
  go_wp2_with fail
  go_returns
  exact ⟨rfl, B1⟩
structure CBox (w : World) (n : Nat) (a b c d e f g h i : Int) : Prop where
  c0 : w.cell? ⟨n, 0, none⟩ = some (.int .i64 a)
  c1 : w.cell? ⟨n, 1, none⟩ = some (.int .i64 b)
  c2 : w.cell? ⟨n, 2, none⟩ = some (.int .i64 c)
  c3 : w.cell? ⟨n, 3, none⟩ = some (.int .i64 d)
  c4 : w.cell? ⟨n, 4, none⟩ = some (.int .i64 e)
  c5 : w.cell? ⟨n, 5, none⟩ = some (.int .i64 f)
  c6 : w.cell? ⟨n, 6, none⟩ = some (.int .i64 g)
  c7 : w.cell? ⟨n, 7, none⟩ = some (.int .i64 h)
  c8 : w.cell? ⟨n, 8, none⟩ = some (.int .i64 i)
  lt : n < w.heap.size
theorem CBox.later {w w' : World} {n : Nat} {a b c d e f g h i : Int} (q : CBox w n a b c d e f g h i) (k : Below w.heap.size w w') : CBox w' n a b c d e f g h i :=
  ⟨(k.cell (p := ⟨n, 0, none⟩) q.lt).trans q.c0, (k.cell (p := ⟨n, 1, none⟩) q.lt).trans q.c1, (k.cell (p := ⟨n, 2, none⟩) q.lt).trans q.c2, (k.cell (p := ⟨n, 3, none⟩) q.lt).trans q.c3, (k.cell (p := ⟨n, 4, none⟩) q.lt).trans q.c4, (k.cell (p := ⟨n, 5, none⟩) q.lt).trans q.c5, (k.cell (p := ⟨n, 6, none⟩) q.lt).trans q.c6, (k.cell (p := ⟨n, 7, none⟩) q.lt).trans q.c7, (k.cell (p := ⟨n, 8, none⟩) q.lt).trans q.c8, Nat.lt_of_lt_of_le q.lt k.size⟩
theorem cbox_new (w : World) (a b c d e f g h i : Int) (t : TypeId) : CBox (w.alloc (.cells #[.int .i64 a, .int .i64 b, .int .i64 c, .int .i64 d, .int .i64 e, .int .i64 f, .int .i64 g, .int .i64 h, .int .i64 i] t)) w.heap.size a b c d e f g h i := by
  refine ⟨?_, ?_, ?_, ?_, ?_, ?_, ?_, ?_, ?_, ?_⟩
  all_goals simp [go_sem]
set_option maxRecDepth 100000 in
set_option maxHeartbeats 4000000 in
theorem anew_yes (a b c d e f g h i : Int)
    (k1 : ∀ w, Calls Try.prog 31 #[cfgV a b c d e f g h i] w fun x w' => x = .returned (.int .i64 0) ∧ Below w.heap.size w w')
    (k2 : ∀ w, Calls Try.prog 43 #[.int .i64 e, .int .i64 b, .int .i64 d] w (SomeP w)) (w : World) :
    Calls Try.prog 29 #[cfgV a b c d e f g h i] w (SomeP w) := by
  have hmm := @run_makeMap Try.prog
  go_enter Try.func29, Try.ntmps29
  go_wp2_with fail
  refine (k1 _).mono ?_
  rintro x w1 ⟨rfl, h1⟩
  have B1 : Below w.heap.size w w1 := Below.trans (by go_grown) (h1.mono (by first | exact Nat.le_refl _ | (simp; done) | omega | (simp; omega)))
  have y1 := B1.size
  obtain ⟨c0, c1, c2, c3, c4, c5, c6, c7, c8, lt⟩ := (cbox_new w a b c d e f g h i 48).later h1
  clear h1 k1
  go_wp2_with fail
  refine (k2 _).mono ?_
  rintro x w2 ⟨p, rfl, h2⟩
  have B2 : Below w.heap.size w w2 := Below.trans (by first | exact B1 | go_grown) (h2.mono (by first | exact y1 | (simp; done) | omega | (simp; omega)))
  obtain ⟨d0, d1, d2, d3, d4, d5, d6, d7, d8, lt2⟩ := CBox.later ⟨c0, c1, c2, c3, c4, c5, c6, c7, c8, lt⟩ h2
  have y2 := B2.size
  clear h2 k2 c0 c1 c2 c3 c4 c5 c6 c7 c8 B1
  go_wp2_with fail
  clear hmm
  go_returns
  exact ⟨_, rfl, by go_grown⟩
theorem small_spec (w : World) : Calls Try.prog 32 #[] w fun x w' => x = .returned (cfgV 10 5 100 60 2 2 1 1 1) ∧ Below w.heap.size w w' := by
  go_enter Try.func32, Try.ntmps32
  go_wp2_with fail
  refine bodyPost_ret (by simp [results, Try.results32, go_sem]; try rfl) rfl ?_
  exact ⟨rfl, by go_grown⟩
set_option maxRecDepth 100000 in
set_option maxHeartbeats 8000000 in
theorem achecks_yes (a b c d e f g h i : Int)
    (k1 : ∀ w, Calls Try.prog 29 #[cfgV a b c d e f g h i] w (SomeP w))
    (k2 : ∀ w, Calls Try.prog 30 #[cfgV a b c d e f g h i] w fun x w' => x = .returned (.int .i64 0) ∧ Below w.heap.size w w')
    (k3 : ∀ w, Calls Try.prog 31 #[cfgV a b c d e f g h i] w fun x w' => x = .returned (.int .i64 0) ∧ Below w.heap.size w w')
    (k4 : ∀ w, Calls Try.prog 32 #[] w fun x w' => x = .returned (cfgV 10 5 100 60 2 2 1 1 1) ∧ Below w.heap.size w w')
    (k5 : ∀ w, Calls Try.prog 31 #[cfgV 10 5 100 60 2 2 1 1 1] w fun x w' => x = .returned (.int .i64 0) ∧ Below w.heap.size w w')
    (k6 : ∀ w, Calls Try.prog 31 #[cfgV 0 0 0 0 0 0 0 0 0] w fun x w' => x = .returned (.int .i64 120) ∧ Below w.heap.size w w')
    (w : World) : Calls Try.prog 12 #[cfgV a b c d e f g h i] w fun x w' => x = .returned (.bool true) ∧ Below w.heap.size w w' := by
  go_enter Try.func12, Try.ntmps12
  go_wp2_with fail
  refine (k1 _).mono ?_
  rintro x w1 ⟨p, rfl, h1⟩
  have B1 : Below w.heap.size w w1 := Below.trans (by go_grown) (h1.mono (by first | exact Nat.le_refl _ | (simp; done) | omega | (simp; omega)))
  have y1 := B1.size
  obtain ⟨c0, c1, c2, c3, c4, c5, c6, c7, c8, lt⟩ := (cbox_new w a b c d e f g h i 48).later h1
  clear h1 k1
  go_wp2_with fail
  refine (k2 _).mono ?_
  rintro x w2 ⟨rfl, h2⟩
  have B2 : Below w.heap.size w w2 := B1.trans (h2.mono y1)
  obtain ⟨d0, d1, d2, d3, d4, d5, d6, d7, d8, lt2⟩ := CBox.later ⟨c0, c1, c2, c3, c4, c5, c6, c7, c8, lt⟩ h2
  have y2 := B2.size
  clear h2 k2 c0 c1 c2 c3 c4 c5 c6 c7 c8 B1
  go_wp2_with fail
  refine (k3 _).mono ?_
  rintro x w3 ⟨rfl, h3⟩
  have B3 : Below w.heap.size w w3 := B2.trans (h3.mono y2)
  have y3 := B3.size
  clear h3 k3 B2 d0 d1 d2 d3 d4 d5 d6 d7 d8
  go_wp2_with fail
  refine (k4 _).mono ?_
  rintro x w4 ⟨rfl, h4⟩
  have B4 : Below w.heap.size w w4 := B3.trans (h4.mono y3)
  have y4 := B4.size
  clear h4 k4 B3
  go_wp2_with fail
  refine (k5 _).mono ?_
  rintro x w5 ⟨rfl, h5⟩
  have B5 : Below w.heap.size w w5 := B4.trans (h5.mono y4)
  have y5 := B5.size
  clear h5 k5 B4
  go_wp2_with fail
  refine (k6 _).mono ?_
  rintro x w6 ⟨rfl, h6⟩
  have B6 : Below w.heap.size w w6 := B5.trans (h6.mono y5)
  clear h6 k6 B5
  go_wp2_with fail
  go_returns
  exact ⟨rfl, B6⟩
set_option maxRecDepth 100000 in
set_option maxHeartbeats 8000000 in
theorem achecks_no (a b c d e f g h i er : Int) (n : (er == 0) = false)
    (k1 : ∀ w, Calls Try.prog 29 #[cfgV a b c d e f g h i] w fun x w' => x = .returned (.tuple #[.pointer none, .int .i64 er]) ∧ Below w.heap.size w w')
    (k2 : ∀ w, Calls Try.prog 30 #[cfgV a b c d e f g h i] w fun x w' => x = .returned (.int .i64 er) ∧ Below w.heap.size w w')
    (k3 : ∀ w, Calls Try.prog 31 #[cfgV a b c d e f g h i] w fun x w' => x = .returned (.int .i64 er) ∧ Below w.heap.size w w')
    (k4 : ∀ w, Calls Try.prog 32 #[] w fun x w' => x = .returned (cfgV 10 5 100 60 2 2 1 1 1) ∧ Below w.heap.size w w')
    (k5 : ∀ w, Calls Try.prog 31 #[cfgV 10 5 100 60 2 2 1 1 1] w fun x w' => x = .returned (.int .i64 0) ∧ Below w.heap.size w w')
    (k6 : ∀ w, Calls Try.prog 31 #[cfgV 0 0 0 0 0 0 0 0 0] w fun x w' => x = .returned (.int .i64 120) ∧ Below w.heap.size w w')
    (w : World) : Calls Try.prog 12 #[cfgV a b c d e f g h i] w fun x w' => x = .returned (.bool true) ∧ Below w.heap.size w w' := by
  go_enter Try.func12, Try.ntmps12
  go_wp2_with fail
  refine (k1 _).mono ?_
  rintro x w1 ⟨rfl, h1⟩
  have B1 : Below w.heap.size w w1 := Below.trans (by go_grown) (h1.mono (by first | exact Nat.le_refl _ | (simp; done) | omega | (simp; omega)))
  have y1 := B1.size
  obtain ⟨c0, c1, c2, c3, c4, c5, c6, c7, c8, lt⟩ := (cbox_new w a b c d e f g h i 48).later h1
  clear h1 k1
  go_wp2_with fail
  refine (k2 _).mono ?_
  rintro x w2 ⟨rfl, h2⟩
  have B2 : Below w.heap.size w w2 := B1.trans (h2.mono y1)
  obtain ⟨d0, d1, d2, d3, d4, d5, d6, d7, d8, lt2⟩ := CBox.later ⟨c0, c1, c2, c3, c4, c5, c6, c7, c8, lt⟩ h2
  have y2 := B2.size
  clear h2 k2 c0 c1 c2 c3 c4 c5 c6 c7 c8 B1
  go_wp2_with fail
  refine (k3 _).mono ?_
  rintro x w3 ⟨rfl, h3⟩
  have B3 : Below w.heap.size w w3 := B2.trans (h3.mono y2)
  have y3 := B3.size
  clear h3 k3 B2 d0 d1 d2 d3 d4 d5 d6 d7 d8
  go_wp2_with fail
  refine (k4 _).mono ?_
  rintro x w4 ⟨rfl, h4⟩
  have B4 : Below w.heap.size w w4 := B3.trans (h4.mono y3)
  have y4 := B4.size
  clear h4 k4 B3
  go_wp2_with fail
  refine (k5 _).mono ?_
  rintro x w5 ⟨rfl, h5⟩
  have B5 : Below w.heap.size w w5 := B4.trans (h5.mono y4)
  have y5 := B5.size
  clear h5 k5 B4
  go_wp2_with fail
  refine (k6 _).mono ?_
  rintro x w6 ⟨rfl, h6⟩
  have B6 : Below w.heap.size w w6 := B5.trans (h6.mono y5)
  clear h6 k6 B5
  go_wp2_with fail
  go_returns
  exact ⟨rfl, B6⟩
theorem law_AdmitChecks (a b c d e f g h i : Int) (w : World) :
    Calls Try.prog 12 #[cfgV a b c d e f g h i] w fun x w' => x = .returned (.bool true) ∧ Below w.heap.size w w' := by
  have k2 := rcheck_spec a b c d e f g h i
  have k3 := acheck_spec a b c d e f g h i
  have k5 := acheck_spec 10 5 100 60 2 2 1 1 1
  have k6 := acheck_spec 0 0 0 0 0 0 0 0 0
  rw [show cfgE 10 5 100 60 2 2 1 1 1 = 0 by decide] at k5
  rw [show cfgE 0 0 0 0 0 0 0 0 0 = 120 by decide] at k6
  by_cases q : 1 ≤ a ∧ a ≤ 1048576 ∧ 0 ≤ b ∧ b ≤ 1099511627775 ∧ 0 ≤ c ∧ c ≤ 1099511627775 ∧ 1 ≤ d ∧ d ≤ 1099511627775 ∧ 1 ≤ e ∧ e ≤ 1024 ∧ 1 ≤ f ∧ f ≤ 65536 ∧ 1 ≤ g ∧ g ≤ 65536 ∧ 1 ≤ h ∧ h ≤ 16 ∧ 1 ≤ i ∧ i ≤ 1024
  · rw [cfgE_yes q] at k2 k3
    exact achecks_yes a b c d e f g h i (anew_yes a b c d e f g h i k3 (snew_spec e b d (by omega) (by omega) (by omega) (by omega) (by omega) (by omega))) k2 k3 small_spec k5 k6 w
  · rw [cfgE_no q] at k2 k3
    exact achecks_no a b c d e f g h i 120 rfl (anew_no a b c d e f g h i 120 rfl k3) k2 k3 small_spec k5 k6 w
end Go.Proofs.Ytobcjpgcafdjkaa
