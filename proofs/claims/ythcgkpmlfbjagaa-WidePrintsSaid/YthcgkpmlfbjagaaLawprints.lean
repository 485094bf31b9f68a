/- The reference of layer 1: its faces: Print; WidePrints. -/
import Derived.Test.YthcgkpmlfbjagaaLprint
import Derived.Test.YthcgkpmlfbjagaaLwrap
namespace Go.Proofs.Ythcgkpmlfbjagaa
set_option linter.unusedVariables false
open Go.RowKit W Lb
set_option maxRecDepth 100000 in
theorem printN_none (s : Bool) (p : Option Addr) (c : Nat) (w : World) :
    Calls Try.prog 60 #[.agg #[.bool s, .slice p 0 c]] w fun e w' => e = .returned (.string ⟨#[48]⟩) ∧ Below w.heap.size w w' := by
  go_enter Try.func60, Try.ntmps60
  go_wp2_with fail
  go_returns
  exact ⟨rfl, by go_grown⟩
theorem printN_spec (s : Bool) (p : Option Addr) (c : Nat) (l : List Int) (z : Int) (w : World) (H : IsNum w s p c l z) (hl : l.length ≤ 100) (hz : z.natAbs < 10 ^ 39) :
    Calls Try.prog 60 #[.agg #[.bool s, .slice p l.length c]] w fun e w' => e = .returned (.string ⟨(txt z).toArray⟩) ∧ Below w.heap.size w w' := by
  have ea : Lb.ab z = (z.natAbs : Int) := by unfold Lb.ab; split <;> omega
  by_cases q : z.natAbs = 0
  · have e : z = 0 := by omega
    subst e
    have m := H.mag
    have : l = [] := m.nil_iff.2 (by unfold Lb.ab; simp)
    subst this
    have t : txt 0 = [48] := by unfold txt Dc.dec; simp
    rw [t]
    exact printN_none s p c w
  · have m := H.mag
    rw [ea] at m
    have := printN_some s p c l z.natAbs w H.lim m q hz hl
    have t : txt z = if s = true then 45 :: Dc.dec z.natAbs else Dc.dec z.natAbs := by unfold txt; rw [H.neg]; simp
    rw [t]; exact this
set_option maxRecDepth 100000 in
set_option maxHeartbeats 4000000 in
theorem rprint_spec (a b : Int) (ia : IsW (a, b)) (w : World) :
    Calls Try.prog 39 #[.agg #[.int .i64 a, .int .u64 b]] w fun e w' => e = .returned (.string ⟨(txt (V a b)).toArray⟩) ∧ Below w.heap.size w w' := by
  have kfa := from_spec a b ia
  have fa := isW_fits ia
  have nb : (V a b).natAbs < 10 ^ 39 := by obtain ⟨_, _⟩ := fa; omega
  go_enter Try.func39, Try.ntmps39
  go_wp2_with fail
  refine (kfa _).mono ?_
  rintro e w1 ⟨s0, p0, q0, l0, rfl, N0, hb1⟩
  have B1 : Below w.heap.size w w1 := Below.trans (by repeat (first | exact Below.refl _ _ | assumption | refine Below.setCell ?_ (by first | (simp; done) | omega | (simp; omega)) _ | refine Below.drew ?_ | refine below_drewN ?_ _ | refine Below.alloc ?_ (by first | (simp; done) | omega | (simp; omega)) _)) (hb1.mono (by first | (simp; done) | omega | (simp; omega)))
  have zr : w.heap.size ≤ w1.heap.size := B1.size
  skip
  have K1 := Keeps.start (Nat.le_refl w1.heap.size)
  have L0 := N0.few 9 (few_fits fa)
  go_wp2_with fail
  refine (printN_spec _ _ _ _ _ _ N0 (by omega) nb).mono ?_
  rintro e w2 ⟨rfl, hb2⟩
  have K2 := Keeps.call (B := w1.heap.size) (W := w1) (by repeat (first | assumption | refine Keeps.alloc ?_ _ | refine Keeps.drew ?_ | refine Keeps.setCell ?_ (by first | (simp; done) | omega | (simp; omega)) _)) hb2
  have BE : Below w.heap.size w w2 := B1.trans (K2.below.mono B1.size)
  clear hb1 hb2
  go_wp2_with fail
  go_returns
  refine ⟨rfl, ?_⟩
  repeat (first | exact Below.refl _ _ | assumption | refine Below.setCell ?_ (by first | (simp; done) | omega | (simp; omega)) _ | refine Below.drew ?_ | refine below_drewN ?_ _ | refine Below.alloc ?_ (by first | (simp; done) | omega | (simp; omega)) _)
set_option maxRecDepth 100000 in
set_option maxHeartbeats 4000000 in
theorem prints_walk (a b : Int) (t : List UInt8)
    (k1 : ∀ w, Calls Try.prog 38 #[.agg #[.int .i64 a, .int .u64 b]] w fun e w' => e = .returned (.string ⟨t.toArray⟩) ∧ Below w.heap.size w w')
    (k2 : ∀ w, Calls Try.prog 39 #[.agg #[.int .i64 a, .int .u64 b]] w fun e w' => e = .returned (.string ⟨t.toArray⟩) ∧ Below w.heap.size w w') (w : World) :
    Calls Try.prog 9 #[.agg #[.int .i64 a, .int .u64 b]] w fun e w' => e = .returned (.bool true) ∧ Below w.heap.size w w' := by
  go_enter Try.func9, Try.ntmps9
  go_wp2_with fail
  refine abs_wp (fun W => W.cell? ⟨w.heap.size, 0, none⟩ = some (.int .i64 a) ∧ W.cell? ⟨w.heap.size, 1, none⟩ = some (.int .u64 b) ∧ w.heap.size < W.heap.size ∧ Below w.heap.size w W) ?_ ?_
  · refine ⟨?_, ?_, ?_, ?_⟩
    all_goals first | assumption | (go_grown; done) | (simp [go_sem]; done) | (simp; done) | (simp; omega)
  rintro W ⟨c0, c1, zW, BW⟩
  have K0 := Keeps.start (Nat.le_refl W.heap.size)
  have K1 := K0.drew
  have J0 : Keeps (W.heap.size) W W := Keeps.start (by omega)
  have J1 := J0.drew
  go_region_held3 (fun w' => w'.cell? ⟨w.heap.size, 0, none⟩ = some (.int .i64 a) ∧ w'.cell? ⟨w.heap.size, 1, none⟩ = some (.int .u64 b) ∧ Keeps (W.heap.size) W w') ((refine (fun K => ⟨Keeps.cell K c0 (by omega), Keeps.cell K c1 (by omega), K⟩) (?_ : Keeps (W.heap.size) W _); (repeat (first | assumption | refine Keeps.alloc ?_ _ | refine Keeps.drew ?_ | refine Keeps.setCell ?_ (by first | (simp; done) | omega | (simp; omega)) _))))
    (first
    | (go_at_call 38; (with_reducible refine (k1 _).mono ?_); rintro e v20 ⟨rfl, hb20⟩; have K20 := Keeps.call (B := W.heap.size) (W := W) (by repeat (first | assumption | refine Keeps.alloc ?_ _ | refine Keeps.drew ?_ | refine Keeps.setCell ?_ (by first | (simp; done) | omega | (simp; omega)) _)) hb20; have J20 : Keeps (W.heap.size) W v20 := ⟨K20.below.mono (by omega), by omega⟩)
    | (go_at_call 39; (with_reducible refine (k2 _).mono ?_); rintro e v21 ⟨rfl, hb21⟩; have K21 := Keeps.call (B := W.heap.size) (W := W) (by repeat (first | assumption | refine Keeps.alloc ?_ _ | refine Keeps.drew ?_ | refine Keeps.setCell ?_ (by first | (simp; done) | omega | (simp; omega)) _)) hb21; have J21 : Keeps (W.heap.size) W v21 := ⟨K21.below.mono (by omega), by omega⟩; have zz : w.heap.size < v21.heap.size := (by have := K21.size; omega)))
  all_goals
    have BE : Below w.heap.size w v21 := BW.trans (K21.below.mono BW.size)
    go_wp2_with fail
    go_returns
    refine ⟨rfl, ?_⟩
    repeat (first | exact Below.refl _ _ | assumption | refine Below.setCell ?_ (by first | (simp; done) | omega | (simp; omega)) _ | refine Below.drew ?_ | refine below_drewN ?_ _ | refine Below.alloc ?_ (by first | (simp; done) | omega | (simp; omega)) _)
theorem law_WidePrints (a0 b0 : Int) (wa0 : (Lit.int .i64 a0).wf = true) (wb0 : (Lit.int .u64 b0).wf = true) (w : World) :
    Calls Try.prog 9 #[.agg #[.int .i64 a0, .int .u64 b0]] w fun e w' => e = .returned (.bool true) ∧ Below w.heap.size w w' := by
  have i : IsW (a0, b0) := ⟨hi_of_wf wa0, lo_of_wf wb0⟩
  exact prints_walk a0 b0 _ (print_spec a0 b0 i) (rprint_spec a0 b0 i) w
end Go.Proofs.Ythcgkpmlfbjagaa
