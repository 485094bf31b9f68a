/- The reference of layer 1: To, over. -/
import Derived.Test.YthcgkpmlfbjagaaLword
import Derived.Test.YthcgkpmlfbjagaaLaddn
namespace Go.Proofs.Ythcgkpmlfbjagaa
set_option linter.unusedVariables false
open Go.RowKit W Lb
/-- To's answer. -/
abbrev toRes (z : Int) : Ending := .returned (.tuple #[.agg #[.int .i64 (hi (resV z)), .int .u64 (lo (resV z))], .bool (decide (Fits z))])
theorem to_long (s : Bool) (p : Option Addr) (c n : Nat) (w : World) (h : 8 < n) (hn : n ≤ 1000) :
    Calls Try.prog 54 #[.agg #[.bool s, .slice p n c]] w fun e w' => e = .returned (.tuple #[.agg #[.int .i64 0, .int .u64 0], .bool false]) ∧ Below w.heap.size w w' := by
  go_enter Try.func54, Try.ntmps54
  go_wp2
  go_returns
  exact ⟨rfl, by go_grown⟩
def WordIs (p : Option Addr) (c n : Nat) (w : World) (g : Int → Int) : Prop := ∀ f w', Below w.heap.size w w' → (f = 0 ∨ f = 4) → Same 74 #[.slice p n c, .int .i64 f] w' (.int .u64 (g f))
set_option maxHeartbeats 2000000 in
theorem to_pos (p : Option Addr) (c n : Nat) (g : Int → Int) (h l x1 x0 : Int) (t : Bool) (w : World) (hn : n ≤ 8) (k0 : WordIs p c n w g) (g0 : g 0 = l) (g4 : g 4 = h) (ht : decide (h < 9223372036854775808) = t)
    (kf : ∀ w, Calls Try.prog 75 #[.int .u64 h, .int .u64 l, .bool t] w fun e w' => e = .returned (.tuple #[.agg #[.int .i64 x1, .int .u64 x0], .bool t]) ∧ Below w.heap.size w w') :
    Calls Try.prog 54 #[.agg #[.bool false, .slice p n c]] w fun e w' => e = .returned (.tuple #[.agg #[.int .i64 x1, .int .u64 x0], .bool t]) ∧ Below w.heap.size w w' := by
  go_enter Try.func54, Try.ntmps54
  go_wp2_with fail
  go_quiet ((go_at_call 74; exact still (k0 _ _ (by first | (go_grown; done) | exact below_drewN (by go_grown) _) (by decide))))
  clear k0
  go_wp2_with fail
  refine (kf _).mono ?_
  rintro e w1 ⟨rfl, hb⟩
  obtain ⟨bc, bf, bs⟩ := bcell hb
  simp only [World.size_alloc, World.size_drew, World.heap_drewN] at bc bf bs
  have B : Below w.heap.size w w1 := Below.trans (by first | (go_grown; done) | exact below_drewN (by go_grown) _) (hb.mono (by first | (simp; done) | omega | (simp; omega)))
  have zz : w.heap.size + 1 < w1.heap.size := by omega
  go_wp2_with fail
  refine bodyPost_ret (by simp [results, Try.results54, go_sem, bc, bf, zz]; try rfl) rfl ?_
  exact ⟨rfl, by go_grown⟩
set_option maxHeartbeats 2000000 in
theorem to_neg_a (p : Option Addr) (c n : Nat) (g : Int → Int) (h l : Int) (w : World) (hn : n ≤ 8) (k0 : WordIs p c n w g) (g0 : g 0 = l) (g4 : g 4 = h) (h1 : 9223372036854775808 < h) :
    Calls Try.prog 54 #[.agg #[.bool true, .slice p n c]] w fun e w' => e = .returned (.tuple #[.agg #[.int .i64 0, .int .u64 0], .bool false]) ∧ Below w.heap.size w w' := by
  go_enter Try.func54, Try.ntmps54
  go_wp2_with fail
  go_quiet ((go_at_call 74; exact still (k0 _ _ (by first | (go_grown; done) | exact below_drewN (by go_grown) _) (by decide))))
  clear k0
  go_wp2_with fail
  go_returns
  refine ⟨rfl, ?_⟩
  repeat (first | exact Below.refl _ _ | refine Below.setCell ?_ (by first | (simp; done) | omega | (simp; omega)) _ | refine below_drewN ?_ _ | refine Below.alloc ?_ (by first | (simp; done) | omega | (simp; omega)) _)
set_option maxHeartbeats 2000000 in
theorem to_neg_b (p : Option Addr) (c n : Nat) (g : Int → Int) (l : Int) (w : World) (hn : n ≤ 8) (k0 : WordIs p c n w g) (g0 : g 0 = l) (g4 : g 4 = 9223372036854775808) (h2 : 0 < l) :
    Calls Try.prog 54 #[.agg #[.bool true, .slice p n c]] w fun e w' => e = .returned (.tuple #[.agg #[.int .i64 0, .int .u64 0], .bool false]) ∧ Below w.heap.size w w' := by
  go_enter Try.func54, Try.ntmps54
  go_wp2_with fail
  go_quiet ((go_at_call 74; exact still (k0 _ _ (by first | (go_grown; done) | exact below_drewN (by go_grown) _) (by decide))))
  clear k0
  go_wp2_with fail
  go_returns
  refine ⟨rfl, ?_⟩
  repeat (first | exact Below.refl _ _ | refine Below.setCell ?_ (by first | (simp; done) | omega | (simp; omega)) _ | refine below_drewN ?_ _ | refine Below.alloc ?_ (by first | (simp; done) | omega | (simp; omega)) _)
set_option maxHeartbeats 2000000 in
theorem to_neg_c (p : Option Addr) (c n : Nat) (g : Int → Int) (h q r x : Int) (w : World) (hn : n ≤ 8) (k0 : WordIs p c n w g) (g0 : g 0 = 0) (g4 : g 4 = h) (h1 : ¬ 9223372036854775808 < h) (h2 : (h == 9223372036854775808) = true) (e3 : bits .xor .u64 IntKind.u64.max 0 = 18446744073709551615) (e6 : IntKind.u64.wrap 18446744073709551616 = 0) (e5 : bits .xor .u64 IntKind.u64.max h = q) (e4 : IntKind.u64.wrap (q + 1) = r) (e7 : IntKind.i64.wrap r = x) :
    Calls Try.prog 54 #[.agg #[.bool true, .slice p n c]] w fun e w' => e = .returned (.tuple #[.agg #[.int .i64 x, .int .u64 0], .bool true]) ∧ Below w.heap.size w w' := by
  have e3' : bits .xor .u64 (if IntKind.u64.signed = true then -1 else IntKind.u64.max) 0 = 18446744073709551615 := e3
  have e5' : bits .xor .u64 (if IntKind.u64.signed = true then -1 else IntKind.u64.max) h = q := e5
  go_enter Try.func54, Try.ntmps54
  go_wp2_with fail
  go_quiet ((go_at_call 74; exact still (k0 _ _ (by first | (go_grown; done) | exact below_drewN (by go_grown) _) (by decide))))
  clear k0
  go_wp2_with fail
  go_returns
  refine ⟨rfl, ?_⟩
  repeat (first | exact Below.refl _ _ | refine Below.setCell ?_ (by first | (simp; done) | omega | (simp; omega)) _ | refine below_drewN ?_ _ | refine Below.alloc ?_ (by first | (simp; done) | omega | (simp; omega)) _)
set_option maxHeartbeats 2000000 in
theorem to_neg_d (p : Option Addr) (c n : Nat) (g : Int → Int) (h q r x : Int) (w : World) (hn : n ≤ 8) (k0 : WordIs p c n w g) (g0 : g 0 = 0) (g4 : g 4 = h) (h1 : ¬ 9223372036854775808 < h) (h2 : (h == 9223372036854775808) = false) (e3 : bits .xor .u64 IntKind.u64.max 0 = 18446744073709551615) (e6 : IntKind.u64.wrap 18446744073709551616 = 0) (e5 : bits .xor .u64 IntKind.u64.max h = q) (e4 : IntKind.u64.wrap (q + 1) = r) (e7 : IntKind.i64.wrap r = x) :
    Calls Try.prog 54 #[.agg #[.bool true, .slice p n c]] w fun e w' => e = .returned (.tuple #[.agg #[.int .i64 x, .int .u64 0], .bool true]) ∧ Below w.heap.size w w' := by
  have e3' : bits .xor .u64 (if IntKind.u64.signed = true then -1 else IntKind.u64.max) 0 = 18446744073709551615 := e3
  have e5' : bits .xor .u64 (if IntKind.u64.signed = true then -1 else IntKind.u64.max) h = q := e5
  go_enter Try.func54, Try.ntmps54
  go_wp2_with fail
  go_quiet ((go_at_call 74; exact still (k0 _ _ (by first | (go_grown; done) | exact below_drewN (by go_grown) _) (by decide))))
  clear k0
  go_wp2_with fail
  go_returns
  refine ⟨rfl, ?_⟩
  repeat (first | exact Below.refl _ _ | refine Below.setCell ?_ (by first | (simp; done) | omega | (simp; omega)) _ | refine below_drewN ?_ _ | refine Below.alloc ?_ (by first | (simp; done) | omega | (simp; omega)) _)
set_option maxHeartbeats 2000000 in
theorem to_neg_e (p : Option Addr) (c n : Nat) (g : Int → Int) (h l q p' l' x : Int) (w : World) (hn : n ≤ 8) (k0 : WordIs p c n w g) (g0 : g 0 = l) (g4 : g 4 = h) (h1 : ¬ 9223372036854775808 < h) (h2 : (h == 9223372036854775808) = false) (e3 : bits .xor .u64 IntKind.u64.max l = p') (e6 : IntKind.u64.wrap (p' + 1) = l') (hl : (l' == 0) = false) (e5 : bits .xor .u64 IntKind.u64.max h = q) (e7 : IntKind.i64.wrap q = x) :
    Calls Try.prog 54 #[.agg #[.bool true, .slice p n c]] w fun e w' => e = .returned (.tuple #[.agg #[.int .i64 x, .int .u64 l'], .bool true]) ∧ Below w.heap.size w w' := by
  have e3' : bits .xor .u64 (if IntKind.u64.signed = true then -1 else IntKind.u64.max) l = p' := e3
  have e5' : bits .xor .u64 (if IntKind.u64.signed = true then -1 else IntKind.u64.max) h = q := e5
  go_enter Try.func54, Try.ntmps54
  go_wp2_with fail
  go_quiet ((go_at_call 74; exact still (k0 _ _ (by first | (go_grown; done) | exact below_drewN (by go_grown) _) (by decide))))
  clear k0
  go_wp2_with fail
  go_returns
  refine ⟨rfl, ?_⟩
  repeat (first | exact Below.refl _ _ | refine Below.setCell ?_ (by first | (simp; done) | omega | (simp; omega)) _ | refine below_drewN ?_ _ | refine Below.alloc ?_ (by first | (simp; done) | omega | (simp; omega)) _)
theorem to_res {z x1 x0 : Int} {t : Bool} {w w' : World} {e : Ending} (h : e = .returned (.tuple #[.agg #[.int .i64 x1, .int .u64 x0], .bool t]) ∧ Below w.heap.size w w') (f : decide (Fits z) = t) (h1 : x1 = hi (resV z)) (h0 : x0 = lo (resV z)) : e = toRes z ∧ Below w.heap.size w w' := by
  obtain ⟨rfl, hb⟩ := h
  subst f h1 h0
  exact ⟨rfl, hb⟩
theorem not_over {z x1 x0 : Int} {w w' : World} {e : Ending} (h : e = .returned (.tuple #[.agg #[.int .i64 0, .int .u64 0], .bool false]) ∧ Below w.heap.size w w') (f : ¬ Fits z) : e = toRes z ∧ Below w.heap.size w w' :=
  to_res h (decide_eq_false f) (by rw [resV_not f]; rfl) (by rw [resV_not f]; rfl)
theorem wordV_split {l : List Int} (h : l.length ≤ 8) : val l = wordV l 0 4 + 18446744073709551616 * wordV l 4 4 := by
  have e := val_append (l.take 4) (l.drop 4)
  rw [List.take_append_drop] at e
  unfold wordV
  rw [List.drop_zero, List.take_of_length_le (show (l.drop 4).length ≤ 4 by simp; omega), e]
  by_cases q : 4 ≤ l.length
  · rw [List.length_take_of_le q]; simp [pw]
  · rw [List.drop_eq_nil_of_le (by omega)]; simp [val]
theorem to_spec (s : Bool) (p : Option Addr) (c : Nat) (l : List Int) (z : Int) (w : World) (H : IsNum w s p c l z) (hl : l.length ≤ 1000) :
    Calls Try.prog 54 #[.agg #[.bool s, .slice p l.length c]] w fun e w' => e = toRes z ∧ Below w.heap.size w w' := by
  have ok := H.mag.ok
  have vz := H.mag.val
  have sg := H.neg
  by_cases q : 8 < l.length
  · refine (to_long s p c _ w q hl).mono fun e w' h => not_over (x1 := 0) (x0 := 0) h ?_
    obtain ⟨n, hn⟩ : ∃ n, l.length = n + 1 := ⟨l.length - 1, by omega⟩
    have g := val_ge ok H.mag.top n hn
    have m := pw_mono (show 8 ≤ n by omega)
    have m8 : pw 8 = 340282366920938463463374607431768211456 := by decide
    rw [vz] at g
    rintro ⟨f1, f2⟩
    unfold Lb.ab at g; split at g <;> omega
  · have sp := wordV_split (l := l) (by omega)
    obtain ⟨a0, a1⟩ := wordV_lt ok 0 4
    obtain ⟨b0, b1⟩ := wordV_lt ok 4 4
    have p4 : pw 4 = 18446744073709551616 := by decide
    rw [p4] at a1 b1
    have kw : WordIs p c l.length w (fun f => wordV l f.toNat 4) := by
      intro f w' hb hf
      rcases hf with rfl | rfl
      · exact word_spec p c 0 l w' (H.lim.later hb) hl (by omega) ok
      · exact word_spec p c 4 l w' (H.lim.later hb) hl (by omega) ok
    have q8 : l.length ≤ 8 := by omega
    rw [vz] at sp
    have g0 : (fun f : Int => wordV l f.toNat 4) 0 = wordV l 0 4 := rfl
    have g4 : (fun f : Int => wordV l f.toNat 4) 4 = wordV l 4 4 := rfl
    generalize (fun f : Int => wordV l f.toNat 4) = g at *
    generalize wordV l 0 4 = x at *
    generalize wordV l 4 4 = y at *
    have iy : IsLo y := ⟨b0, b1⟩
    have ix : IsLo x := ⟨a0, a1⟩
    by_cases n : z < 0
    · have s1 : s = true := by rw [sg]; simpa using n
      subst s1
      have hz : z = -(x + 18446744073709551616 * y) := by unfold Lb.ab at sp; rw [if_pos n] at sp; omega
      by_cases h1 : 9223372036854775808 < y
      · refine (to_neg_a p c _ g y x w q8 kw g0 g4 h1).mono fun e w' h => not_over (x1 := 0) (x0 := 0) h ?_
        rintro ⟨f1, f2⟩; omega
      · by_cases x0 : x = 0
        · subst x0
          have fz : Fits z := ⟨by omega, by omega⟩
          have e5 := xor_u64 y iy
          have ew : IntKind.i64.wrap (IntKind.u64.wrap (-y - 1 + 18446744073709551616 + 1)) = hi (resV z) := by rw [resV_fits fz, IntKind.wrap_u64, IntKind.wrap_i64]; unfold hi; omega
          have el : (0 : Int) = lo (resV z) := by rw [resV_fits fz]; unfold lo; omega
          by_cases h2 : y = 9223372036854775808
          · exact (to_neg_c p c _ g y _ _ _ w q8 kw g0 g4 h1 (by rw [h2]; rfl) (by rw [xor_u64 0 isLo_0]; rfl) (by decide) e5 rfl rfl).mono fun e w' h => to_res h (decide_eq_true fz) ew el
          · exact (to_neg_d p c _ g y _ _ _ w q8 kw g0 g4 h1 (by simpa using h2) (by rw [xor_u64 0 isLo_0]; rfl) (by decide) e5 rfl rfl).mono fun e w' h => to_res h (decide_eq_true fz) ew el
        · by_cases h2 : y = 9223372036854775808
          · subst h2
            refine (to_neg_b p c _ g x w q8 kw g0 g4 (by omega)).mono fun e w' h => not_over (x1 := 0) (x0 := 0) h ?_
            rintro ⟨f1, f2⟩; omega
          · have fz : Fits z := ⟨by omega, by omega⟩
            have e5 := xor_u64 y iy
            have e3 := xor_u64 x ix
            have ew : IntKind.i64.wrap (-y - 1 + 18446744073709551616) = hi (resV z) := by rw [resV_fits fz, IntKind.wrap_i64]; unfold hi; omega
            have el : IntKind.u64.wrap (-x - 1 + 18446744073709551616 + 1) = lo (resV z) := by rw [resV_fits fz, IntKind.wrap_u64]; unfold lo; omega
            exact (to_neg_e p c _ g y x _ _ _ _ w q8 kw g0 g4 h1 (by simpa using h2) e3 rfl (by rw [IntKind.wrap_u64]; simp; omega) e5 rfl).mono fun e w' h => to_res h (decide_eq_true fz) ew el
    · have s1 : s = false := by rw [sg]; simpa using n
      subst s1
      have hz : z = x + 18446744073709551616 * y := by unfold Lb.ab at sp; rw [if_neg n] at sp; omega
      by_cases h1 : y < 9223372036854775808
      · have fz : Fits z := ⟨by omega, by omega⟩
        refine (to_pos p c _ g y x _ x true w q8 kw g0 g4 (decide_eq_true h1) (fun w => fits_yes y x w _ rfl)).mono fun e w' h => to_res h (decide_eq_true fz) ?_ ?_
        · rw [resV_fits fz, IntKind.wrap_i64]; unfold hi; omega
        · rw [resV_fits fz]; unfold lo; omega
      · refine (to_pos p c _ g y x 0 0 false w q8 kw g0 g4 (decide_eq_false h1) (fun w => fits_no y x w)).mono fun e w' h => not_over (x1 := 0) (x0 := 0) h ?_
        rintro ⟨f1, f2⟩; omega
end Go.Proofs.Ythcgkpmlfbjagaa
