/- micro: Print, usual, Parse. (gen_mlawt.py) -/
import Derived.Test.YtdjehbagnkfkpaaDoorMback
import Derived.Test.YtdjehbagnkfkpaaDoorWsmall
namespace Go.Proofs.YtdjehbagnkfkpaaDoor
set_option linter.unusedVariables false
set_option linter.unusedSimpArgs false
open Go.RowKit W
theorem usual_yes (v : Int) (h1 : -1000000000000000 ≤ v) (h2 : v ≤ 1000000000000000) (w : World) : Calc 27 #[.int .i64 v] w (.bool true) := by
  go_enter Tryd.func27, Tryd.ntmps27
  go_wp2
  go_returns
  exact ⟨rfl, rfl⟩
theorem usual_low (v : Int) (h1 : ¬ -1000000000000000 ≤ v) (w : World) : Calc 27 #[.int .i64 v] w (.bool false) := by
  go_enter Tryd.func27, Tryd.ntmps27
  go_wp2
  go_returns
  exact ⟨rfl, rfl⟩
theorem usual_high (v : Int) (h1 : -1000000000000000 ≤ v) (h2 : ¬ v ≤ 1000000000000000) (w : World) : Calc 27 #[.int .i64 v] w (.bool false) := by
  go_enter Tryd.func27, Tryd.ntmps27
  go_wp2
  go_returns
  exact ⟨rfl, rfl⟩
theorem usual_no (v : Int) (h : ¬ (-1000000000000000 ≤ v ∧ v ≤ 1000000000000000)) (w : World) : Calc 27 #[.int .i64 v] w (.bool false) := by
  by_cases h1 : -1000000000000000 ≤ v
  · exact usual_high v h1 (by omega) w
  · exact usual_low v h1 w
theorem mprint_spec (v : Int) (j : IsHi v) (w : World) :
    Calls Tryd.prog 16 #[.int .i64 v] w fun e w' => e = .returned (.string ⟨(showT v).toArray⟩) ∧ Below w.heap.size w w' := by
  have k1 := wof_spec v j
  have k2 := show_spec (hi v) (lo v) ⟨by obtain ⟨_, _⟩ := j; exact ⟨by unfold hi; omega, by unfold hi; omega⟩, isLo_lo v⟩
  rw [V_hi_lo] at k2
  unfold wideRes at k1
  generalize hi v = a at *
  generalize lo v = b at *
  go_enter Tryd.func16, Tryd.ntmps16
  go_wp2_with fail
  refine (k1 _).mono ?_
  rintro e w1 ⟨rfl, h1⟩
  have s1 := h1.size
  go_wp2_with fail
  refine (k2 _).mono ?_
  rintro e w2 ⟨rfl, h2⟩
  have B2 : Below w.heap.size w w2 := Below.trans (by go_grown) (h2.mono (by first | exact s1 | (simp; omega)))
  go_wp2_with fail
  go_returns
  exact ⟨rfl, B2⟩
def parseE (l : List UInt8) : Ending :=
  if (digB (cutW (amt l)) && (!cutP (amt l) || digB (cutF (amt l)))) = true then
    if 6 < (cutF (amt l)).length then .returned (.tuple #[.int .i64 0, .int .i64 21])
    else if -1000000000000000 ≤ sg (sgnB l) (worthOf (cutW (amt l)) (cutF (amt l)) : Nat) ∧ sg (sgnB l) (worthOf (cutW (amt l)) (cutF (amt l)) : Nat) ≤ 1000000000000000 then .returned (.tuple #[.int .i64 (sg (sgnB l) (worthOf (cutW (amt l)) (cutF (amt l)) : Nat)), .int .i64 0])
    else .returned (.tuple #[.int .i64 0, .int .i64 22])
  else .returned (.tuple #[.int .i64 0, .int .i64 20])
set_option maxRecDepth 100000 in
set_option maxHeartbeats 2000000 in
theorem parse_err (s : ByteArray) (er : Int) (h1 : (er == 10) = false) (h2 : (er != 0) = true)
    (k1 : ∀ w, Calls Tryd.prog 18 #[.string s] w fun e w' => e = .returned (.tuple #[.agg #[.int .i64 0, .int .u64 0], .int .i64 er]) ∧ Below w.heap.size w w')
    (w : World) : Calls Tryd.prog 13 #[.string s] w fun e w' => e = .returned (.tuple #[.int .i64 0, .int .i64 er]) ∧ Below w.heap.size w w' := by
  go_enter Tryd.func13, Tryd.ntmps13
  go_wp2_with fail
  refine (k1 _).mono ?_
  rintro e w1 ⟨rfl, h1⟩
  have B1 : Below w.heap.size w w1 := Below.trans (by go_grown) (h1.mono (by first | (simp; done) | omega | (simp; omega)))
  have y1 := B1.size
  clear h1 k1
  go_wp2_with fail
  go_returns
  exact ⟨rfl, by go_grown⟩
set_option maxRecDepth 100000 in
set_option maxHeartbeats 2000000 in
theorem parse_over (s : ByteArray)
    (k1 : ∀ w, Calls Tryd.prog 18 #[.string s] w fun e w' => e = .returned (.tuple #[.agg #[.int .i64 0, .int .u64 0], .int .i64 10]) ∧ Below w.heap.size w w')
    (w : World) : Calls Tryd.prog 13 #[.string s] w fun e w' => e = .returned (.tuple #[.int .i64 0, .int .i64 22]) ∧ Below w.heap.size w w' := by
  go_enter Tryd.func13, Tryd.ntmps13
  go_wp2_with fail
  refine (k1 _).mono ?_
  rintro e w1 ⟨rfl, h1⟩
  have B1 : Below w.heap.size w w1 := Below.trans (by go_grown) (h1.mono (by first | (simp; done) | omega | (simp; omega)))
  have y1 := B1.size
  clear h1 k1
  go_wp2_with fail
  go_returns
  exact ⟨rfl, by go_grown⟩
set_option maxRecDepth 100000 in
set_option maxHeartbeats 2000000 in
theorem parse_big (s : ByteArray) (x1 x0 n : Int)
    (k1 : ∀ w, Calls Tryd.prog 18 #[.string s] w fun e w' => e = .returned (.tuple #[.agg #[.int .i64 x1, .int .u64 x0], .int .i64 0]) ∧ Below w.heap.size w w')
    (k2 : ∀ w, Calls Tryd.prog 26 #[.agg #[.int .i64 x1, .int .u64 x0]] w fun e w' => e = .returned (.tuple #[.int .i64 n, .bool false]) ∧ Below w.heap.size w w')
    (w : World) : Calls Tryd.prog 13 #[.string s] w fun e w' => e = .returned (.tuple #[.int .i64 0, .int .i64 22]) ∧ Below w.heap.size w w' := by
  go_enter Tryd.func13, Tryd.ntmps13
  go_wp2_with fail
  refine (k1 _).mono ?_
  rintro e w1 ⟨rfl, h1⟩
  have B1 : Below w.heap.size w w1 := Below.trans (by go_grown) (h1.mono (by first | (simp; done) | omega | (simp; omega)))
  have y1 := B1.size
  clear h1 k1
  go_wp2_with fail
  refine (k2 _).mono ?_
  rintro e w2 ⟨rfl, h2⟩
  have B2 : Below w.heap.size w w2 := Below.trans (by go_grown) (h2.mono (by first | (simp; done) | omega | (simp; omega)))
  have y2 := B2.size
  clear h2 k2 B1
  go_wp2_with fail
  go_returns
  exact ⟨rfl, by go_grown⟩
set_option maxRecDepth 100000 in
set_option maxHeartbeats 2000000 in
theorem parse_far (s : ByteArray) (x1 x0 n : Int)
    (k1 : ∀ w, Calls Tryd.prog 18 #[.string s] w fun e w' => e = .returned (.tuple #[.agg #[.int .i64 x1, .int .u64 x0], .int .i64 0]) ∧ Below w.heap.size w w')
    (k2 : ∀ w, Calls Tryd.prog 26 #[.agg #[.int .i64 x1, .int .u64 x0]] w fun e w' => e = .returned (.tuple #[.int .i64 n, .bool true]) ∧ Below w.heap.size w w')
    (k3 : ∀ w, Calc 27 #[.int .i64 n] w (.bool false))
    (w : World) : Calls Tryd.prog 13 #[.string s] w fun e w' => e = .returned (.tuple #[.int .i64 0, .int .i64 22]) ∧ Below w.heap.size w w' := by
  go_enter Tryd.func13, Tryd.ntmps13
  go_wp2_with fail
  refine (k1 _).mono ?_
  rintro e w1 ⟨rfl, h1⟩
  have B1 : Below w.heap.size w w1 := Below.trans (by go_grown) (h1.mono (by first | (simp; done) | omega | (simp; omega)))
  have y1 := B1.size
  clear h1 k1
  go_wp2_with fail
  refine (k2 _).mono ?_
  rintro e w2 ⟨rfl, h2⟩
  have B2 : Below w.heap.size w w2 := Below.trans (by go_grown) (h2.mono (by first | (simp; done) | omega | (simp; omega)))
  have y2 := B2.size
  clear h2 k2 B1
  go_wp2_with fail
  refine (k3 _).mono ?_
  rintro e w3 ⟨rfl, rfl⟩
  clear k3
  go_wp2_with fail
  go_returns
  exact ⟨rfl, by go_grown⟩
set_option maxRecDepth 100000 in
set_option maxHeartbeats 2000000 in
theorem parse_fit (s : ByteArray) (x1 x0 n : Int)
    (k1 : ∀ w, Calls Tryd.prog 18 #[.string s] w fun e w' => e = .returned (.tuple #[.agg #[.int .i64 x1, .int .u64 x0], .int .i64 0]) ∧ Below w.heap.size w w')
    (k2 : ∀ w, Calls Tryd.prog 26 #[.agg #[.int .i64 x1, .int .u64 x0]] w fun e w' => e = .returned (.tuple #[.int .i64 n, .bool true]) ∧ Below w.heap.size w w')
    (k3 : ∀ w, Calc 27 #[.int .i64 n] w (.bool true))
    (w : World) : Calls Tryd.prog 13 #[.string s] w fun e w' => e = .returned (.tuple #[.int .i64 n, .int .i64 0]) ∧ Below w.heap.size w w' := by
  go_enter Tryd.func13, Tryd.ntmps13
  go_wp2_with fail
  refine (k1 _).mono ?_
  rintro e w1 ⟨rfl, h1⟩
  have B1 : Below w.heap.size w w1 := Below.trans (by go_grown) (h1.mono (by first | (simp; done) | omega | (simp; omega)))
  have y1 := B1.size
  clear h1 k1
  go_wp2_with fail
  refine (k2 _).mono ?_
  rintro e w2 ⟨rfl, h2⟩
  have B2 : Below w.heap.size w w2 := Below.trans (by go_grown) (h2.mono (by first | (simp; done) | omega | (simp; omega)))
  have y2 := B2.size
  clear h2 k2 B1
  go_wp2_with fail
  refine (k3 _).mono ?_
  rintro e w3 ⟨rfl, rfl⟩
  clear k3
  go_wp2_with fail
  go_returns
  exact ⟨rfl, by go_grown⟩
theorem mparse_spec (s : ByteArray) (w : World) (hs : s.size ≤ 140737488351232) :
    Calls Tryd.prog 13 #[.string s] w fun e w' => e = parseE s.data.toList ∧ Below w.heap.size w w' := by
  have k1 := fun w => mread_spec s w hs
  unfold readE readQ badE fineE at k1
  unfold parseE
  by_cases g : (digB (cutW (amt s.data.toList)) && (!cutP (amt s.data.toList) || digB (cutF (amt s.data.toList)))) = true
  · simp only [if_pos g] at k1
    rw [if_pos g]
    by_cases h6 : 6 < (cutF (amt s.data.toList)).length
    · simp only [if_pos h6] at k1
      rw [if_pos h6]
      exact parse_err s 21 rfl rfl k1 w
    · simp only [if_neg h6] at k1
      rw [if_neg h6]
      obtain ⟨n, hn⟩ : ∃ n, n = sg (sgnB s.data.toList) (worthOf (cutW (amt s.data.toList)) (cutF (amt s.data.toList)) : Nat) := ⟨_, rfl⟩
      rw [← hn] at k1 ⊢
      by_cases f : Fits n
      · unfold sumRes at k1
        rw [resV_fits f, resE_fits f] at k1
        have k2 := small_spec (hi n) (lo n) ⟨isHi_hi f, isLo_lo n⟩
        rw [V_hi_lo] at k2
        unfold smallV smallB at k2
        by_cases j : IsHi n
        · rw [if_pos j, decide_eq_true j] at k2
          by_cases u : -1000000000000000 ≤ n ∧ n ≤ 1000000000000000
          · rw [if_pos u]
            exact parse_fit s _ _ n k1 k2 (usual_yes n u.1 u.2) w
          · rw [if_neg u]
            exact parse_far s _ _ n k1 k2 (usual_no n u) w
        · rw [if_neg j, decide_eq_false j] at k2
          rw [if_neg (fun u => j ⟨by omega, by omega⟩)]
          exact parse_big s _ _ 0 k1 k2 w
      · unfold sumRes at k1
        rw [resV_not f, resE_not f] at k1
        rw [if_neg (fun u => f ⟨by omega, by omega⟩)]
        exact parse_over s k1 w
  · simp only [if_neg g] at k1
    rw [if_neg g]
    exact parse_err s 20 rfl rfl k1 w
theorem parse_show (v : Int) : parseE (showT v) = if -1000000000000000 ≤ v ∧ v ≤ 1000000000000000 then .returned (.tuple #[.int .i64 v, .int .i64 0]) else .returned (.tuple #[.int .i64 0, .int .i64 22]) := by
  obtain ⟨a, b⟩ := show_sign v
  obtain ⟨c, d, e⟩ := showA_cut v.natAbs
  unfold parseE
  rw [a, b, if_pos e, c, d, if_neg (by have := behind_len v.natAbs; omega), worth_show, sg_abs]
end Go.Proofs.YtdjehbagnkfkpaaDoor
