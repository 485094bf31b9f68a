/- The laws of layer 2: MicroSame, MicroShort. (gen_mlawr.py) -/
import Derived.Test.YtdjehbagnkfkpaaDoorMlawr
import Derived.Test.YtdjehbagnkfkpaaDoorMtextb
namespace Go.Proofs.YtdjehbagnkfkpaaDoor
set_option linter.unusedVariables false
set_option linter.unusedSimpArgs false
open Go.RowKit W
set_option maxRecDepth 100000 in
set_option maxHeartbeats 4000000 in
theorem same_bad (s : ByteArray) (x1 x0 er : Int) (h : (er == 0) = false) (h2 : (er == 22) = false)
    (k0 : ∀ w, Calls Tryd.prog 15 #[] w fun e w' => e = .returned (.bool true) ∧ Below w.heap.size w w')
    (k1 : ∀ w, Calls Tryd.prog 13 #[.string s] w fun e w' => e = .returned (.tuple #[.int .i64 0, .int .i64 er]) ∧ Below w.heap.size w w')
    (k2 : ∀ w, Calls Tryd.prog 18 #[.string s] w fun e w' => e = .returned (.tuple #[.agg #[.int .i64 x1, .int .u64 x0], .int .i64 er]) ∧ Below w.heap.size w w')
    (w : World) : Calls Tryd.prog 10 #[.string s] w fun e w' => e = .returned (.bool true) ∧ Below w.heap.size w w' := by
  go_enter Tryd.func10, Tryd.ntmps10
  go_wp2_with fail
  refine (k0 _).mono ?_
  rintro e w1 ⟨rfl, h1⟩
  have B1 : Below w.heap.size w w1 := Below.trans (by go_grown) (h1.mono (by first | (simp; done) | omega | (simp; omega)))
  have y1 := B1.size
  clear h1 k0
  go_wp2_with fail
  refine (k1 _).mono ?_
  rintro e w2 ⟨rfl, h2⟩
  have B2 : Below w.heap.size w w2 := Below.trans (by go_grown) (h2.mono (by first | (simp; done) | omega | (simp; omega)))
  have y2 := B2.size
  clear h2 k1 B1
  go_wp2_with fail
  refine (k2 _).mono ?_
  rintro e w3 ⟨rfl, h3⟩
  have B3 : Below w.heap.size w w3 := Below.trans (by go_grown) (h3.mono (by first | (simp; done) | omega | (simp; omega)))
  have y3 := B3.size
  clear h3 k2 B2
  go_wp2_with fail
  go_returns
  exact ⟨rfl, by go_grown⟩
set_option maxRecDepth 100000 in
set_option maxHeartbeats 4000000 in
theorem same_far (s : ByteArray) (x1 x0 er : Int) (h1 : (er != 20) = true) (h2 : (er != 21) = true)
    (k0 : ∀ w, Calls Tryd.prog 15 #[] w fun e w' => e = .returned (.bool true) ∧ Below w.heap.size w w')
    (k1 : ∀ w, Calls Tryd.prog 13 #[.string s] w fun e w' => e = .returned (.tuple #[.int .i64 0, .int .i64 22]) ∧ Below w.heap.size w w')
    (k2 : ∀ w, Calls Tryd.prog 18 #[.string s] w fun e w' => e = .returned (.tuple #[.agg #[.int .i64 x1, .int .u64 x0], .int .i64 er]) ∧ Below w.heap.size w w')
    (w : World) : Calls Tryd.prog 10 #[.string s] w fun e w' => e = .returned (.bool true) ∧ Below w.heap.size w w' := by
  go_enter Tryd.func10, Tryd.ntmps10
  go_wp2_with fail
  refine (k0 _).mono ?_
  rintro e w1 ⟨rfl, h1⟩
  have B1 : Below w.heap.size w w1 := Below.trans (by go_grown) (h1.mono (by first | (simp; done) | omega | (simp; omega)))
  have y1 := B1.size
  clear h1 k0
  go_wp2_with fail
  refine (k1 _).mono ?_
  rintro e w2 ⟨rfl, h2⟩
  have B2 : Below w.heap.size w w2 := Below.trans (by go_grown) (h2.mono (by first | (simp; done) | omega | (simp; omega)))
  have y2 := B2.size
  clear h2 k1 B1
  go_wp2_with fail
  refine (k2 _).mono ?_
  rintro e w3 ⟨rfl, h3⟩
  have B3 : Below w.heap.size w w3 := Below.trans (by go_grown) (h3.mono (by first | (simp; done) | omega | (simp; omega)))
  have y3 := B3.size
  clear h3 k2 B2
  go_wp2_with fail
  go_returns
  exact ⟨rfl, by go_grown⟩
set_option maxRecDepth 100000 in
set_option maxHeartbeats 4000000 in
theorem same_ok (s : ByteArray) (x1 x0 n : Int) (t : List UInt8)
    (k0 : ∀ w, Calls Tryd.prog 15 #[] w fun e w' => e = .returned (.bool true) ∧ Below w.heap.size w w')
    (k1 : ∀ w, Calls Tryd.prog 13 #[.string s] w fun e w' => e = .returned (.tuple #[.int .i64 n, .int .i64 0]) ∧ Below w.heap.size w w')
    (k2 : ∀ w, Calls Tryd.prog 18 #[.string s] w fun e w' => e = .returned (.tuple #[.agg #[.int .i64 x1, .int .u64 x0], .int .i64 0]) ∧ Below w.heap.size w w')
    (k3 : ∀ w, Calls Tryd.prog 22 #[.agg #[.int .i64 x1, .int .u64 x0]] w fun e w' => e = .returned (.tuple #[.int .i64 n, .bool true]) ∧ Below w.heap.size w w')
    (k4 : ∀ w, Calls Tryd.prog 20 #[.agg #[.int .i64 x1, .int .u64 x0]] w fun e w' => e = .returned (.string ⟨t.toArray⟩) ∧ Below w.heap.size w w')
    (k5 : ∀ w, Calls Tryd.prog 16 #[.int .i64 n] w fun e w' => e = .returned (.string ⟨t.toArray⟩) ∧ Below w.heap.size w w')
    (w : World) : Calls Tryd.prog 10 #[.string s] w fun e w' => e = .returned (.bool true) ∧ Below w.heap.size w w' := by
  go_enter Tryd.func10, Tryd.ntmps10
  go_wp2_with fail
  refine (k0 _).mono ?_
  rintro e w1 ⟨rfl, h1⟩
  have B1 : Below w.heap.size w w1 := Below.trans (by go_grown) (h1.mono (by first | (simp; done) | omega | (simp; omega)))
  have y1 := B1.size
  clear h1 k0
  go_wp2_with fail
  refine (k1 _).mono ?_
  rintro e w2 ⟨rfl, h2⟩
  have B2 : Below w.heap.size w w2 := Below.trans (by go_grown) (h2.mono (by first | (simp; done) | omega | (simp; omega)))
  have y2 := B2.size
  clear h2 k1 B1
  go_wp2_with fail
  refine (k2 _).mono ?_
  rintro e w3 ⟨rfl, h3⟩
  have B3 : Below w.heap.size w w3 := Below.trans (by go_grown) (h3.mono (by first | (simp; done) | omega | (simp; omega)))
  have y3 := B3.size
  clear h3 k2 B2
  go_wp2_with fail
  refine (k3 _).mono ?_
  rintro e w4 ⟨rfl, h4⟩
  have B4 : Below w.heap.size w w4 := Below.trans (by go_grown) (h4.mono (by first | (simp; done) | omega | (simp; omega)))
  have y4 := B4.size
  have D0 := box2 h4 (w3.heap.size) (.int .i64 x1) (.int .u64 x0) (by first | assumption | (simp [go_sem]; done) | (simp [go_sem]; done)) (by first | assumption | (simp [go_sem]; done) | (simp [go_sem]; done)) (by first | assumption | (simp [go_sem]; done) | (simp [go_sem]; done)) (by first | assumption | (simp [go_sem]; done) | (simp [go_sem]; done)) (by first | assumption | omega | (simp; done) | (simp; omega))
  obtain ⟨D0c0, D0c1, D0f0, D0f1, D0z⟩ := D0
  clear h4 k3 B3
  go_wp2_with fail
  refine (k4 _).mono ?_
  rintro e w5 ⟨rfl, h5⟩
  have B5 : Below w.heap.size w w5 := Below.trans (by go_grown) (h5.mono (by first | (simp; done) | omega | (simp; omega)))
  have y5 := B5.size
  have E0 := box2 h5 (w3.heap.size) (.int .i64 x1) (.int .u64 x0) (by first | assumption | (refine (Below.cell ?_ D0z).trans D0c0; go_grown; done) | (simp [go_sem, D0c0]; done) | (simp [go_sem, D0c0, D0z]; done) | (simp [go_sem, D0c0, D0c1, D0f0, D0f1, D0z]; done)) (by first | assumption | (refine (Below.cell ?_ D0z).trans D0c1; go_grown; done) | (simp [go_sem, D0c1]; done) | (simp [go_sem, D0c1, D0z]; done) | (simp [go_sem, D0c0, D0c1, D0f0, D0f1, D0z]; done)) (by first | assumption | (refine (Below.frozen ?_ D0z).trans D0f0; go_grown; done) | (simp [go_sem, D0f0]; done) | (simp [go_sem, D0f0, D0z]; done) | (simp [go_sem, D0c0, D0c1, D0f0, D0f1, D0z]; done)) (by first | assumption | (refine (Below.frozen ?_ D0z).trans D0f1; go_grown; done) | (simp [go_sem, D0f1]; done) | (simp [go_sem, D0f1, D0z]; done) | (simp [go_sem, D0c0, D0c1, D0f0, D0f1, D0z]; done)) (by first | assumption | omega | (simp; done) | (simp; omega))
  clear D0c0 D0c1 D0f0 D0f1 D0z
  obtain ⟨E0c0, E0c1, E0f0, E0f1, E0z⟩ := E0
  clear h5 k4 B4
  go_wp2_with fail
  refine (k5 _).mono ?_
  rintro e w6 ⟨rfl, h6⟩
  have B6 : Below w.heap.size w w6 := Below.trans (by go_grown) (h6.mono (by first | (simp; done) | omega | (simp; omega)))
  have y6 := B6.size
  clear E0c0 E0c1 E0f0 E0f1 E0z
  clear h6 k5 B5
  go_wp2_with fail
  go_returns
  exact ⟨rfl, by go_grown⟩
set_option maxRecDepth 100000 in
set_option maxHeartbeats 4000000 in
theorem short_err (s : ByteArray) (er : Int) (h : (er != 0) = true)
    (k0 : ∀ w, Calls Tryd.prog 15 #[] w fun e w' => e = .returned (.bool true) ∧ Below w.heap.size w w')
    (k1 : ∀ w, Calls Tryd.prog 13 #[.string s] w fun e w' => e = .returned (.tuple #[.int .i64 0, .int .i64 er]) ∧ Below w.heap.size w w')
    (w : World) : Calls Tryd.prog 9 #[.string s] w fun e w' => e = .returned (.bool true) ∧ Below w.heap.size w w' := by
  go_enter Tryd.func9, Tryd.ntmps9
  go_wp2_with fail
  refine (k0 _).mono ?_
  rintro e w1 ⟨rfl, h1⟩
  have B1 : Below w.heap.size w w1 := Below.trans (by go_grown) (h1.mono (by first | (simp; done) | omega | (simp; omega)))
  have y1 := B1.size
  clear h1 k0
  go_wp2_with fail
  refine (k1 _).mono ?_
  rintro e w2 ⟨rfl, h2⟩
  have B2 : Below w.heap.size w w2 := Below.trans (by go_grown) (h2.mono (by first | (simp; done) | omega | (simp; omega)))
  have y2 := B2.size
  clear h2 k1 B1
  go_wp2_with fail
  go_returns
  exact ⟨rfl, by go_grown⟩
set_option maxRecDepth 100000 in
set_option maxHeartbeats 4000000 in
theorem short_ok (s : ByteArray) (n : Int) (t : List UInt8) (h0 : 0 < t.length) (h1 : t.length ≤ s.size) (h2 : t.length ≤ 1000)
    (k0 : ∀ w, Calls Tryd.prog 15 #[] w fun e w' => e = .returned (.bool true) ∧ Below w.heap.size w w')
    (k1 : ∀ w, Calls Tryd.prog 13 #[.string s] w fun e w' => e = .returned (.tuple #[.int .i64 n, .int .i64 0]) ∧ Below w.heap.size w w')
    (k2 : ∀ w, Calls Tryd.prog 16 #[.int .i64 n] w fun e w' => e = .returned (.string ⟨t.toArray⟩) ∧ Below w.heap.size w w')
    (k3 : ∀ w, Calls Tryd.prog 13 #[.string ⟨t.toArray⟩] w fun e w' => e = .returned (.tuple #[.int .i64 n, .int .i64 0]) ∧ Below w.heap.size w w')
    (w : World) : Calls Tryd.prog 9 #[.string s] w fun e w' => e = .returned (.bool true) ∧ Below w.heap.size w w' := by
  go_enter Tryd.func9, Tryd.ntmps9
  go_wp2_with fail
  refine (k0 _).mono ?_
  rintro e w1 ⟨rfl, h1⟩
  have B1 : Below w.heap.size w w1 := Below.trans (by go_grown) (h1.mono (by first | (simp; done) | omega | (simp; omega)))
  have y1 := B1.size
  clear h1 k0
  go_wp2_with fail
  refine (k1 _).mono ?_
  rintro e w2 ⟨rfl, h2⟩
  have B2 : Below w.heap.size w w2 := Below.trans (by go_grown) (h2.mono (by first | (simp; done) | omega | (simp; omega)))
  have y2 := B2.size
  clear h2 k1 B1
  go_wp2_with fail
  refine (k2 _).mono ?_
  rintro e w3 ⟨rfl, h3⟩
  have B3 : Below w.heap.size w w3 := Below.trans (by go_grown) (h3.mono (by first | (simp; done) | omega | (simp; omega)))
  have y3 := B3.size
  clear h3 k2 B2
  go_wp2_with fail
  refine (k3 _).mono ?_
  rintro e w4 ⟨rfl, h4⟩
  have B4 : Below w.heap.size w w4 := Below.trans (by go_grown) (h4.mono (by first | (simp; done) | omega | (simp; omega)))
  have y4 := B4.size
  clear h4 k3 B3
  go_wp2_with fail
  go_returns
  exact ⟨rfl, by go_grown⟩
theorem law_MicroSame (s : ByteArray) (hs : s.size ≤ 140737488351232) (w : World) :
    Calls Tryd.prog 10 #[.string s] w fun e w' => e = .returned (.bool true) ∧ Below w.heap.size w w' := by
  have k1 := fun w => mparse_spec s w hs
  have k2 := fun w => mread_spec s w hs
  unfold parseE at k1
  unfold readE readQ badE fineE at k2
  by_cases g : (digB (cutW (amt s.data.toList)) && (!cutP (amt s.data.toList) || digB (cutF (amt s.data.toList)))) = true
  · simp only [if_pos g] at k1 k2
    by_cases h6 : 6 < (cutF (amt s.data.toList)).length
    · simp only [if_pos h6] at k1 k2
      exact same_bad s 0 0 21 rfl rfl awake_ok k1 k2 w
    · simp only [if_neg h6] at k1 k2
      obtain ⟨n, hn⟩ : ∃ n, n = sg (sgnB s.data.toList) (worthOf (cutW (amt s.data.toList)) (cutF (amt s.data.toList)) : Nat) := ⟨_, rfl⟩
      rw [← hn] at k1 k2
      by_cases r : -1000000000000000 ≤ n ∧ n ≤ 1000000000000000
      · simp only [if_pos r] at k1
        have j : IsHi n := ⟨by omega, by omega⟩
        have f : Fits n := ⟨by omega, by omega⟩
        unfold sumRes at k2
        rw [resV_fits f, resE_fits f] at k2
        have k3 := small_spec (hi n) (lo n) ⟨isHi_hi f, isLo_lo n⟩
        rw [V_hi_lo] at k3
        unfold smallV smallB at k3
        rw [if_pos j, decide_eq_true j] at k3
        have k4 := show_spec (hi n) (lo n) ⟨isHi_hi f, isLo_lo n⟩
        rw [V_hi_lo] at k4
        exact same_ok s _ _ n _ awake_ok k1 k2 (mfits_walk _ _ n true k3) k4 (mprint_spec n j) w
      · simp only [if_neg r] at k1
        by_cases f : Fits n
        · unfold sumRes at k2
          rw [resE_fits f] at k2
          exact same_far s _ _ 0 rfl rfl awake_ok k1 k2 w
        · unfold sumRes at k2
          rw [resE_not f] at k2
          exact same_far s _ _ 10 rfl rfl awake_ok k1 k2 w
  · simp only [if_neg g] at k1 k2
    exact same_bad s 0 0 20 rfl rfl awake_ok k1 k2 w
/- What is printed is not longer. -/
theorem trimL_snoc_some {l : List UInt8} (c : UInt8) (h : Lib.trimLeftB l 48 ≠ []) : Lib.trimLeftB (l ++ [c]) 48 = Lib.trimLeftB l 48 ++ [c] := by
  unfold Lib.trimLeftB at *
  induction l with
  | nil => exact absurd rfl h
  | cons x l ih =>
    by_cases g : x = 48
    · subst g
      rw [List.dropWhile_cons_of_pos (by simp)] at h
      rw [List.cons_append, List.dropWhile_cons_of_pos (by simp), List.dropWhile_cons_of_pos (by simp)]
      exact ih h
    · rw [List.cons_append, List.dropWhile_cons_of_neg (by simpa using g), List.dropWhile_cons_of_neg (by simpa using g)]; rfl
theorem trimL_snoc_none {l : List UInt8} (c : UInt8) (h : Lib.trimLeftB l 48 = []) : Lib.trimLeftB (l ++ [c]) 48 = if c = 48 then [] else [c] := by
  unfold Lib.trimLeftB at *
  induction l with
  | nil =>
    by_cases g : c = 48
    · rw [if_pos g]; subst g; rfl
    · rw [if_neg g, List.nil_append, List.dropWhile_cons_of_neg (by simpa using g)]
  | cons x l ih =>
    by_cases g : x = 48
    · subst g
      rw [List.dropWhile_cons_of_pos (by simp)] at h
      rw [List.cons_append, List.dropWhile_cons_of_pos (by simp)]
      exact ih h
    · rw [List.dropWhile_cons_of_neg (by simpa using g)] at h; cases h
theorem pre_worth (k : Nat) : ∀ l : List UInt8, l.length = k → (∀ c ∈ l, Dc.isD c = true) → Dc.pre (Dc.worth l) = Lib.trimLeftB l 48 := by
  induction k with
  | zero => intro l h _; rw [List.eq_nil_of_length_eq_zero h]; rw [show Dc.worth [] = 0 from rfl, Dc.pre_zero]; rfl
  | succ k ih =>
    intro l h hd
    obtain ⟨m, c, rfl⟩ : ∃ m c, l = m ++ [c] := by
      rcases List.eq_nil_or_concat l with rfl | ⟨m, c, rfl⟩
      · simp at h
      · exact ⟨m, c, by simp⟩
    have hm := ih m (by simpa using h) (fun x hx => hd x (by simp [hx]))
    have cd := hd c (by simp)
    have c48 : 48 ≤ c.toNat ∧ c.toNat ≤ 57 := by unfold Dc.isD at cd; simpa using cd
    have chc : Dc.ch (c.toNat - 48) = c := by
      apply UInt8.toNat_inj.1; rw [Dc.ch_toNat (by omega)]; omega
    rw [Dc.worth_snoc]
    by_cases z : Dc.worth m = 0
    · rw [z, Dc.pre_zero] at hm
      rw [trimL_snoc_none c hm.symm, z]
      by_cases g : c = 48
      · rw [if_pos g]; subst g; exact Dc.pre_zero
      · rw [if_neg g]
        have n0 : c.toNat - 48 ≠ 0 := fun e => g (UInt8.toNat_inj.1 (by show c.toNat = 48; omega))
        rw [Nat.zero_mul, Nat.zero_add, Dc.pre_pos n0, show (c.toNat - 48) / 10 = 0 by omega, Dc.pre_zero, show (c.toNat - 48) % 10 = c.toNat - 48 by omega, chc]; rfl
    · have ne : Lib.trimLeftB m 48 ≠ [] := by
        rw [← hm, Dc.pre_pos z]; simp
      rw [trimL_snoc_some c ne, Dc.pre_pos (by omega), show (Dc.worth m * 10 + (c.toNat - 48)) / 10 = Dc.worth m by omega, show (Dc.worth m * 10 + (c.toNat - 48)) % 10 = c.toNat - 48 by omega, hm, chc]
theorem trimL_split (l : List UInt8) : ∃ z, l = List.replicate z 48 ++ Lib.trimLeftB l 48 := by
  refine ⟨(l.takeWhile (· == 48)).length, ?_⟩
  rw [← take_rep]
  exact List.takeWhile_append_dropWhile.symm
theorem last_same {a b : Nat} {D : List UInt8} (h1 : 6 ≤ a + D.length) (h2 : 6 ≤ b + D.length) : (List.replicate a (48 : UInt8) ++ D).drop ((a + D.length) - 6) = (List.replicate b 48 ++ D).drop ((b + D.length) - 6) := by
  by_cases h : 6 ≤ D.length
  · rw [List.drop_append, List.drop_append]
    rw [List.drop_of_length_le (by simp; omega), List.drop_of_length_le (l := List.replicate b 48) (by simp; omega)]
    simp only [List.length_replicate, List.nil_append]
    congr 1; omega
  · rw [List.drop_append_of_le_length (by simp; omega), List.drop_append_of_le_length (by simp; omega)]
    congr 1
    simp only [List.drop_replicate]
    congr 1; omega
theorem trimR_rep (F : List UInt8) (k : Nat) : Lib.trimRightB (F ++ List.replicate k 48) 48 = Lib.trimRightB F 48 := by
  induction k with
  | zero => simp
  | succ k ih => rw [List.replicate_succ', ← List.append_assoc, trim_last, ih]
theorem show_short_len {V F : List UInt8} (hv : V ≠ []) (dv : ∀ c ∈ V, Dc.isD c = true) (df : ∀ c ∈ F, Dc.isD c = true) (h6 : F.length ≤ 6) :
    (whole (worthOf V F)).length ≤ V.length ∧ (behind (worthOf V F)).length ≤ F.length := by
  obtain ⟨X, hX⟩ : ∃ X, X = V ++ F ++ List.replicate (6 - F.length) 48 := ⟨_, rfl⟩
  have hw : worthOf V F = Dc.worth X := by rw [hX]; rfl
  have xd : ∀ c ∈ X, Dc.isD c = true := by
    intro c hc
    rw [hX, List.mem_append, List.mem_append] at hc
    rcases hc with (h | h) | h
    · exact dv c h
    · exact df c h
    · rw [List.eq_of_mem_replicate h]; decide
  have vl : 1 ≤ V.length := List.length_pos_iff.2 hv
  have xl : X.length = V.length + 6 := by rw [hX]; simp; omega
  have pw := pre_worth X.length X rfl xd
  obtain ⟨z, hz⟩ := trimL_split X
  obtain ⟨D, hD⟩ : ∃ D, D = Lib.trimLeftB X 48 := ⟨_, rfl⟩
  rw [← hD] at pw hz
  have zl : z + D.length = V.length + 6 := by rw [← xl]; conv => rhs; rw [hz]; 
                                              simp
  have p7 : pad7 (Dc.dec (worthOf V F)) = List.replicate (7 - D.length) 48 ++ D := by rw [hw, ← pad_pre, pw]; rfl
  have p7l : (pad7 (Dc.dec (worthOf V F))).length = (7 - D.length) + D.length := by rw [p7]; simp
  refine ⟨?_, ?_⟩
  · have := (whole_len (worthOf V F)).1
    rw [p7l] at this
    omega
  · have e : (pad7 (Dc.dec (worthOf V F))).drop ((pad7 (Dc.dec (worthOf V F))).length - 6) = X.drop (X.length - 6) := by
      rw [p7l, p7]
      have h := last_same (a := 7 - D.length) (b := z) (D := D) (by omega) (by omega)
      rw [h, ← hz, zl, xl]
    have tl : X.drop (X.length - 6) = F ++ List.replicate (6 - F.length) 48 := by
      rw [xl, hX, List.append_assoc, Nat.add_sub_cancel, List.drop_left]
    unfold behind
    rw [e, tl]
    have r := trimR_rep F (6 - F.length)
    rw [r]
    exact trimR_len F 48
theorem short_len {l : List UInt8} (h : okB (amt l) = true) (h6 : ¬ 6 < (cutF (amt l)).length) : (showT (sg (sgnB l) (worthOf (cutW (amt l)) (cutF (amt l)) : Nat))).length ≤ l.length := by
  have hq := h
  unfold okB at hq
  simp only [Bool.and_eq_true] at hq
  have hv : cutW (amt l) ≠ [] := fun e => by rw [e] at hq; exact absurd hq.1 (by decide)
  obtain ⟨a, b⟩ := show_short_len hv (fun c hc => List.all_eq_true.1 (okB_V h) c hc) (fun c hc => List.all_eq_true.1 (okB_F h) c hc) (by omega)
  obtain ⟨n, hn⟩ : ∃ n, n = worthOf (cutW (amt l)) (cutF (amt l)) := ⟨_, rfl⟩
  rw [← hn] at a b ⊢
  have cl : (cutW (amt l)).length + (cutF (amt l)).length + (if cutP (amt l) = true then 1 else 0) ≤ (amt l).length := by
    unfold cutW cutF cutP
    by_cases g : Lib.indexByte (amt l) 46 = -1
    · rw [if_pos g, if_pos g, decide_eq_true g]; simp
    · have g0 := Lib.indexByte_ge (amt l) 46
      obtain ⟨o, ho⟩ : ∃ o : Nat, Lib.indexByte (amt l) 46 = o := ⟨(Lib.indexByte (amt l) 46).toNat, by omega⟩
      have lt : o < (amt l).length := by
        have := (Lib.indexByte_some ho).1
        apply Decidable.byContradiction; intro q
        rw [List.getElem?_eq_none (by omega)] at this; cases this
      rw [if_neg g, if_neg g, decide_eq_false g, ho]
      simp; omega
  have al : (amt l).length + (if sgnB l = true then 1 else 0) ≤ l.length := by
    unfold amt Lib.trimPrefix sgnB
    by_cases g : Lib.hasPrefix l [45] = true
    · rw [if_pos g, if_pos g]
      have : 1 ≤ l.length := by
        rcases l with _ | ⟨c, r⟩
        · exact absurd g (by decide)
        · simp
      simp; omega
    · rw [if_neg g, if_neg g]; omega
  have sa : (showA n).length ≤ (amt l).length := by
    unfold showA
    by_cases g : behind n = []
    · rw [if_pos g]; omega
    · rw [if_neg g, List.length_append, List.length_cons]
      have bp : 1 ≤ (behind n).length := List.length_pos_iff.2 g
      have p : cutP (amt l) = true := by
        apply Decidable.byContradiction; intro q
        have q : cutP (amt l) = false := by simpa using q
        rw [cutF_none q, List.length_nil] at b; omega
      rw [p, if_pos rfl] at cl
      omega
  have e : (sg (sgnB l) (n : Int)).natAbs = n := by cases sgnB l <;> simp [sg]
  unfold showT
  rw [e]
  by_cases g : sg (sgnB l) (n : Int) < 0
  · rw [if_pos g, List.length_cons]
    have : sgnB l = true := by
      apply Decidable.byContradiction; intro q
      have q : sgnB l = false := by simpa using q
      rw [q, sg_f] at g; omega
    rw [this, if_pos rfl] at al
    omega
  · rw [if_neg g]; omega
theorem law_MicroShort (s : ByteArray) (hs : s.size ≤ 140737488351232) (w : World) :
    Calls Tryd.prog 9 #[.string s] w fun e w' => e = .returned (.bool true) ∧ Below w.heap.size w w' := by
  have k1 := fun w => mparse_spec s w hs
  unfold parseE at k1
  by_cases g : (digB (cutW (amt s.data.toList)) && (!cutP (amt s.data.toList) || digB (cutF (amt s.data.toList)))) = true
  · simp only [if_pos g] at k1
    by_cases h6 : 6 < (cutF (amt s.data.toList)).length
    · simp only [if_pos h6] at k1
      exact short_err s 21 rfl awake_ok k1 w
    · simp only [if_neg h6] at k1
      have sl := short_len g h6
      obtain ⟨n, hn⟩ : ∃ n, n = sg (sgnB s.data.toList) (worthOf (cutW (amt s.data.toList)) (cutF (amt s.data.toList)) : Nat) := ⟨_, rfl⟩
      rw [← hn] at k1 sl
      by_cases r : -1000000000000000 ≤ n ∧ n ≤ 1000000000000000
      · simp only [if_pos r] at k1
        have j : IsHi n := ⟨by omega, by omega⟩
        have f : Fits n := ⟨by omega, by omega⟩
        obtain ⟨l1, l2⟩ := showT_len f
        have k3 := fun w => mparse_spec ⟨(showT n).toArray⟩ w (by simp [ByteArray.size]; omega)
        simp only [show (⟨(showT n).toArray⟩ : ByteArray).data.toList = showT n from rfl, parse_show, if_pos r] at k3
        have e : s.data.toList.length = s.size := by simp
        exact short_ok s n _ (by omega) (by omega) (by omega) awake_ok k1 (mprint_spec n j) k3 w
      · simp only [if_neg r] at k1
        exact short_err s 22 rfl awake_ok k1 w
  · simp only [if_neg g] at k1
    exact short_err s 20 rfl awake_ok k1 w
end Go.Proofs.YtdjehbagnkfkpaaDoor
