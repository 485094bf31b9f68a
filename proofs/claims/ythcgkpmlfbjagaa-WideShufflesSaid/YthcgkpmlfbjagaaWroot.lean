/- wide: Root. -/
import Derived.Test.YthcgkpmlfbjagaaWrootm
import Derived.Test.YthcgkpmlfbjagaaWcmp
import Derived.Test.YthcgkpmlfbjagaaWabs
import Derived.Test.YthcgkpmlfbjagaaWbelow
namespace Go.Proofs.Ythcgkpmlfbjagaa
set_option linter.unusedVariables false
open Go.RowKit W
structure RootInv (w wr : World) (N : Nat) (m1 m0 : Int) : Prop where
  c0 : wr.cell? ⟨N, 0, none⟩ = some (.int .u64 m0)
  c1 : wr.cell? ⟨N, 1, none⟩ = some (.int .u64 m1)
  z : N < wr.heap.size
  r0 : wr.cell? ⟨w.heap.size + 1, 0, none⟩ = some (.int .i64 0)
  r1 : wr.cell? ⟨w.heap.size + 1, 1, none⟩ = some (.int .u64 0)
  g0 : wr.frozen? ⟨w.heap.size + 1, 0, none⟩ = false
  g1 : wr.frozen? ⟨w.heap.size + 1, 1, none⟩ = false
  y : w.heap.size + 1 < wr.heap.size
  below : Below w.heap.size w wr
theorem RootInv.later {w wr w' : World} {N : Nat} {m1 m0 : Int} (h : RootInv w wr N m1 m0) (b : Below wr.heap.size wr w') : RootInv w w' N m1 m0 :=
  ⟨(b.cell (p := ⟨N, 0, none⟩) h.z).trans h.c0, (b.cell (p := ⟨N, 1, none⟩) h.z).trans h.c1, Nat.lt_of_lt_of_le h.z b.size,
   (b.cell (p := ⟨w.heap.size + 1, 0, none⟩) h.y).trans h.r0, (b.cell (p := ⟨w.heap.size + 1, 1, none⟩) h.y).trans h.r1,
   (b.frozen (p := ⟨w.heap.size + 1, 0, none⟩) h.y).trans h.g0, (b.frozen (p := ⟨w.heap.size + 1, 1, none⟩) h.y).trans h.g1, Nat.lt_of_lt_of_le h.y b.size,
   h.below.trans (b.mono h.below.size)⟩
set_option maxHeartbeats 1600000 in
theorem root_pos (a b m1 m0 c : Int) (n : Bool) (c0 : ¬ c < 0) (j1 : IsLo m1) (j0 : IsLo m0)
    (ks : ∀ w, Calls Try.prog 23 #[.agg #[.int .i64 a, .int .u64 b]] w fun e w' => e = .returned (.int .i64 c) ∧ Below w.heap.size w w')
    (ka : ∀ w, Calls Try.prog 48 #[.agg #[.int .i64 a, .int .u64 b]] w fun e w' => e = .returned (.tuple #[.bool n, .agg #[.int .u64 m0, .int .u64 m1]]) ∧ Below w.heap.size w w') (w : World) :
    Calls Try.prog 36 #[.agg #[.int .i64 a, .int .u64 b]] w fun e w' => (∃ r, e = .returned (.tuple #[.agg #[.int .i64 0, .int .u64 r], .int .i64 0]) ∧ RootAt (V m1 m0) r 0) ∧ Below w.heap.size w w' := by
  go_enter Try.func36, Try.ntmps36
  go_wp2_with fail
  refine (ks _).mono ?_
  rintro e w1 ⟨rfl, hb⟩
  obtain ⟨khb0, fhb0, zhb0⟩ := live (.int .i64 a) hb (w.heap.size) 0 (by simp; try omega) (by simp [go_sem]) (by simp [go_sem]); obtain ⟨khb1, fhb1, zhb1⟩ := live (.int .u64 b) hb (w.heap.size) 1 (by simp; try omega) (by simp [go_sem]) (by simp [go_sem]); obtain ⟨khb2, fhb2, zhb2⟩ := live (.int .i64 0) hb (w.heap.size + 1) 0 (by simp; try omega) (by simp [go_sem]) (by simp [go_sem]); obtain ⟨khb3, fhb3, zhb3⟩ := live (.int .u64 0) hb (w.heap.size + 1) 1 (by simp; try omega) (by simp [go_sem]) (by simp [go_sem])
  have B1 : Below w.heap.size w w1 := Below.trans (by go_grown) (hb.mono (by simp; omega))
  clear hb
  go_wp2_with fail
  refine (ka _).mono ?_
  rintro e w2 ⟨rfl, hc⟩
  obtain ⟨k2, f2, z2⟩ := live _ hc (w.heap.size + 1) 0 zhb2 khb2 fhb2
  obtain ⟨k3, f3, z3⟩ := live _ hc (w.heap.size + 1) 1 zhb3 khb3 fhb3
  have B2 := B1.trans (hc.mono B1.size)
  clear hc B1 khb0 khb1 khb2 khb3 fhb0 fhb1 fhb2 fhb3
  go_wp2_with fail
  go_loopw [6, 7] (fun r i wr => ∃ (k : Nat) (x : Int), i = .int .i64 ((k : Int) - 1) ∧ r = .int .u64 x ∧ RootAt (V m1 m0) x k ∧ RootInv w wr w2.heap.size m1 m0) (fun _ i _ => (intOf i + 1).toNat)
  case atStart =>
    refine ⟨64, 0, rfl, rfl, RootAt.start _ (by obtain ⟨_, _⟩ := j1; obtain ⟨_, _⟩ := j0; unfold V; omega) (by obtain ⟨_, _⟩ := j1; obtain ⟨_, _⟩ := j0; unfold V; omega), ⟨?_, ?_, ?_, ?_, ?_, ?_, ?_, ?_, ?_⟩⟩
    all_goals first | (go_grown; done) | (simp [go_sem, k2, k3, f2, f3, z2]; done) | (simp; omega)
  case round =>
    obtain ⟨k, x, rfl, rfl, ra, inv⟩ := hrel
    rcases k with _ | k
    · have r0 := inv.r0
      have r1 := inv.r1
      have g0 := inv.g0
      have g1 := inv.g1
      have yy := inv.y
      have bl := inv.below
      have RA : Hid (RootAt (V m1 m0) x 0) := ra
      have e0 : ((0 : Nat) : Int) - 1 = -1 := by omega
      rw [e0]
      clear ra inv
      go_wp2_with fail
      refine bodyPost_ret (by simp [results, Try.results36, go_sem, r0, r1]; try rfl) rfl ?_
      exact ⟨⟨x, rfl, RA.out⟩, by go_grown⟩
    · have ei : ((k + 1 : Nat) : Int) - 1 = k := by omega
      rw [ei]
      clear ei
      have kk := ra.kk
      have hp : (0 : Int) < 2 ^ k := Int.pow_pos (by omega)
      have fit := ra.fit
      rw [pow2] at fit
      have lo0 := ra.lo
      have hor : bits .or .u64 x (IntKind.u64.wrap (2 ^ k)) = x + 2 ^ k := by
        rw [show IntKind.u64.wrap (2 ^ k) = 2 ^ k by rw [IntKind.wrap_u64]; exact Int.emod_eq_of_lt (by omega) (by omega)]
        exact root_or x k (by omega) lo0 (by omega) ra.mul
      obtain ⟨t, ht⟩ : ∃ t, t = x + 2 ^ k := ⟨_, rfl⟩
      rw [← ht] at hor
      have it : IsLo t := ⟨by omega, by omega⟩
      have km := mul64_spec t t it it
      have kb := below_spec m1 m0 (hi (t * t)) (lo (t * t)) j0 (isLo_lo _)
      rw [V_hi_lo] at kb
      have Y : Hid (t * t ≤ V m1 m0 → RootAt (V m1 m0) t k) := fun h => by rw [ht] at h ⊢; exact ra.yes h
      have N : Hid (V m1 m0 < t * t → RootAt (V m1 m0) x k) := fun h => by rw [ht] at h; exact ra.no h
      have c5 := inv.c0
      have c6 := inv.c1
      have z := inv.z
      have kl : (k : Int) < 64 := by omega
      have I : Hid (RootInv w wr w2.heap.size m1 m0) := inv
      clear ra inv hp fit lo0 it ht
      by_cases q : V m1 m0 < t * t
      · have d : decide (V m1 m0 < t * t) = true := decide_eq_true q
        rw [d] at kb
        have RR : Hid (RootAt (V m1 m0) x k) := N.out q
        clear Y N d q
        generalize hi (t * t) = s1 at *
        generalize lo (t * t) = s0 at *
        go_wp2_with fail
        refine (km _).mono ?_
        rintro e w3 ⟨rfl, rfl⟩
        go_wp2_with fail
        refine (kb _).mono ?_
        rintro e w4 ⟨rfl, hd⟩
        have BW : Below wr.heap.size wr w4 := Below.trans (by go_grown) (hd.mono (by simp))
        have I4 : RootInv w w4 w2.heap.size m1 m0 := I.out.later BW
        have J : Hid (RootInv w w4 w2.heap.size m1 m0) := I4
        clear hd BW I4
        go_wp2_with fail
        go_roundw
        case rel => exact ⟨k, x, by go_num, rfl, RR.out, J.out⟩
        case measure => simp [intOf]
      · have d : decide (V m1 m0 < t * t) = false := decide_eq_false q
        rw [d] at kb
        have RR : Hid (RootAt (V m1 m0) t k) := Y.out (by omega)
        clear Y N d q
        generalize hi (t * t) = s1 at *
        generalize lo (t * t) = s0 at *
        go_wp2_with fail
        refine (km _).mono ?_
        rintro e w3 ⟨rfl, rfl⟩
        go_wp2_with fail
        refine (kb _).mono ?_
        rintro e w4 ⟨rfl, hd⟩
        have BW : Below wr.heap.size wr w4 := Below.trans (by go_grown) (hd.mono (by simp))
        have I4 : RootInv w w4 w2.heap.size m1 m0 := I.out.later BW
        have J : Hid (RootInv w w4 w2.heap.size m1 m0) := I4
        clear hd BW I4
        go_wp2_with fail
        go_roundw
        case rel => exact ⟨k, t, by go_num, rfl, RR.out, J.out⟩
        case measure => simp [intOf]
set_option maxHeartbeats 1000000 in
theorem root_neg (a b c : Int) (c0 : c < 0)
    (ks : ∀ w, Calls Try.prog 23 #[.agg #[.int .i64 a, .int .u64 b]] w fun e w' => e = .returned (.int .i64 c) ∧ Below w.heap.size w w') (w : World) :
    Calls Try.prog 36 #[.agg #[.int .i64 a, .int .u64 b]] w fun e w' => e = .returned (.tuple #[.agg #[.int .i64 0, .int .u64 0], .int .i64 13]) ∧ Below w.heap.size w w' := by
  go_enter Try.func36, Try.ntmps36
  go_wp2_with fail
  refine (ks _).mono ?_
  rintro e w1 ⟨rfl, hb⟩
  obtain ⟨khb0, fhb0, zhb0⟩ := live (.int .i64 0) hb (w.heap.size + 1) 0 (by simp; try omega) (by simp [go_sem]) (by simp [go_sem]); obtain ⟨khb1, fhb1, zhb1⟩ := live (.int .u64 0) hb (w.heap.size + 1) 1 (by simp; try omega) (by simp [go_sem]) (by simp [go_sem])
  have B1 : Below w.heap.size w w1 := Below.trans (by go_grown) (hb.mono (by simp; omega))
  clear hb
  go_wp2_with fail
  refine bodyPost_ret (by simp [results, Try.results36, go_sem, khb0, khb1]; try rfl) rfl ?_
  exact ⟨rfl, by go_grown⟩
end Go.Proofs.Ythcgkpmlfbjagaa
