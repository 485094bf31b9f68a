/- The laws of layer 2: MicroReads, MicroParses, MicroSame. (gen_mlawr.py) -/
import Derived.Test.YtdjehbagnkfkpaaDoorMrread
namespace Go.Proofs.YtdjehbagnkfkpaaDoor
set_option linter.unusedVariables false
set_option linter.unusedSimpArgs false
open Go.RowKit W
set_option maxRecDepth 100000 in
set_option maxHeartbeats 4000000 in
theorem awake_walk 
    (k1 : ∀ w, Calls Tryd.prog 13 #[.string ⟨#[49, 46, 53]⟩] w fun e w' => e = .returned (.tuple #[.int .i64 1500000, .int .i64 0]) ∧ Below w.heap.size w w')
    (k2 : ∀ w, Calls Tryd.prog 18 #[.string ⟨#[48, 46, 48, 48, 48, 48, 48, 49]⟩] w fun e w' => e = .returned (.tuple #[.agg #[.int .i64 0, .int .u64 1], .int .i64 0]) ∧ Below w.heap.size w w')
    (k3 : ∀ w, Calls Tryd.prog 16 #[.int .i64 (-1)] w fun e w' => e = .returned (.string ⟨#[45, 48, 46, 48, 48, 48, 48, 48, 49]⟩) ∧ Below w.heap.size w w')
    (w : World) : Calls Tryd.prog 15 #[] w fun e w' => e = .returned (.bool true) ∧ Below w.heap.size w w' := by
  go_enter Tryd.func15, Tryd.ntmps15
  go_wp2_with fail
  refine (k1 _).mono ?_
  rintro e w1 ⟨rfl, h1⟩
  have B1 : Below w.heap.size w w1 := Below.trans (by go_grown) (h1.mono (by first | (simp; done) | omega | (simp; omega)))
  have y1 := B1.size
  clear h1 k1
  go_wp2_with fail
  refine (k2 _).mono ?_
  rintro e w2 ⟨rfl, h2⟩
  have B2 : Below w.heap.size w w2 := Below.trans (by go_grown) (h2.mono (by first | (simp; done) | omega | (simp; omega)))
  have y2 := B2.size
  clear h2 k2 B1
  go_wp2_with fail
  refine (k3 _).mono ?_
  rintro e w3 ⟨rfl, h3⟩
  have B3 : Below w.heap.size w w3 := Below.trans (by go_grown) (h3.mono (by first | (simp; done) | omega | (simp; omega)))
  have y3 := B3.size
  clear h3 k3 B2
  go_wp2_with fail
  go_returns
  exact ⟨rfl, by go_grown⟩
theorem dec_one : Dc.dec 1 = [49] := by
  rw [Dc.dec_last, show (1:Nat) / 10 = 0 from rfl, Dc.pre_zero]; rfl
theorem show_m1 : showT (-1) = [45, 48, 46, 48, 48, 48, 48, 48, 49] := by
  unfold showT showA behind whole
  rw [show (-1 : Int).natAbs = 1 from rfl, dec_one]; rfl
theorem parse_c : parseE [49, 46, 53] = .returned (.tuple #[.int .i64 1500000, .int .i64 0]) := by rfl
theorem read_c : readE [48, 46, 48, 48, 48, 48, 48, 49] = .returned (.tuple #[.agg #[.int .i64 0, .int .u64 1], .int .i64 0]) := by rfl
theorem awake_ok (w : World) : Calls Tryd.prog 15 #[] w fun e w' => e = .returned (.bool true) ∧ Below w.heap.size w w' := by
  have k1 := fun w => mparse_spec ⟨#[49, 46, 53]⟩ w (by show (3:Nat) ≤ _; omega)
  have k2 := fun w => mread_spec ⟨#[48, 46, 48, 48, 48, 48, 48, 49]⟩ w (by show (8:Nat) ≤ _; omega)
  have k3 := mprint_spec (-1) ⟨by omega, by omega⟩
  simp only [show (⟨#[49, 46, 53]⟩ : ByteArray).data.toList = [49, 46, 53] from rfl, parse_c] at k1
  simp only [show (⟨#[48, 46, 48, 48, 48, 48, 48, 49]⟩ : ByteArray).data.toList = [48, 46, 48, 48, 48, 48, 48, 49] from rfl, read_c] at k2
  rw [show_m1] at k3
  exact awake_walk k1 k2 k3 w
set_option maxRecDepth 100000 in
set_option maxHeartbeats 4000000 in
theorem mreads_walk (s : ByteArray) (x1 x0 er : Int)
    (k0 : ∀ w, Calls Tryd.prog 15 #[] w fun e w' => e = .returned (.bool true) ∧ Below w.heap.size w w')
    (k1 : ∀ w, Calls Tryd.prog 18 #[.string s] w fun e w' => e = .returned (.tuple #[.agg #[.int .i64 x1, .int .u64 x0], .int .i64 er]) ∧ Below w.heap.size w w')
    (k2 : ∀ w, Calls Tryd.prog 19 #[.string s] w fun e w' => e = .returned (.tuple #[.agg #[.int .i64 x1, .int .u64 x0], .int .i64 er]) ∧ Below w.heap.size w w')
    (w : World) : Calls Tryd.prog 5 #[.string s] w fun e w' => e = .returned (.bool true) ∧ Below w.heap.size w w' := by
  go_enter Tryd.func5, Tryd.ntmps5
  go_wp2_with fail
  refine (k1 _).mono ?_
  rintro e w1 ⟨rfl, h1⟩
  have B1 : Below w.heap.size w w1 := Below.trans (by go_grown) (h1.mono (by first | (simp; done) | omega | (simp; omega)))
  have y1 := B1.size
  clear h1 k1
  go_wp2_with fail
  refine (k2 _).mono ?_
  rintro e w2 ⟨rfl, h2⟩
  have B2 : Below w.heap.size w w2 := Below.trans (by go_grown) (h2.mono (by first | (simp; done) | omega | (simp; omega)))
  have y2 := B2.size
  have B0 := box2 h2 (w1.heap.size) (.int .i64 x1) (.int .u64 x0) (by first | assumption | (simp [go_sem]; done) | (simp [go_sem]; done)) (by first | assumption | (simp [go_sem]; done) | (simp [go_sem]; done)) (by first | assumption | (simp [go_sem]; done) | (simp [go_sem]; done)) (by first | assumption | (simp [go_sem]; done) | (simp [go_sem]; done)) (by first | assumption | omega | (simp; done) | (simp; omega))
  obtain ⟨B0c0, B0c1, B0f0, B0f1, B0z⟩ := B0
  clear h2 k2 B1
  go_wp2_with fail
  refine (k0 _).mono ?_
  rintro e w3 ⟨rfl, h3⟩
  have B3 : Below w.heap.size w w3 := Below.trans (by go_grown) (h3.mono (by first | (simp; done) | omega | (simp; omega)))
  have y3 := B3.size
  have C0 := box2 h3 (w1.heap.size) (.int .i64 x1) (.int .u64 x0) (by first | assumption | (refine (Below.cell ?_ B0z).trans B0c0; go_grown; done) | (simp [go_sem, B0c0]; done) | (simp [go_sem, B0c0, B0z]; done) | (simp [go_sem, B0c0, B0c1, B0f0, B0f1, B0z]; done)) (by first | assumption | (refine (Below.cell ?_ B0z).trans B0c1; go_grown; done) | (simp [go_sem, B0c1]; done) | (simp [go_sem, B0c1, B0z]; done) | (simp [go_sem, B0c0, B0c1, B0f0, B0f1, B0z]; done)) (by first | assumption | (refine (Below.frozen ?_ B0z).trans B0f0; go_grown; done) | (simp [go_sem, B0f0]; done) | (simp [go_sem, B0f0, B0z]; done) | (simp [go_sem, B0c0, B0c1, B0f0, B0f1, B0z]; done)) (by first | assumption | (refine (Below.frozen ?_ B0z).trans B0f1; go_grown; done) | (simp [go_sem, B0f1]; done) | (simp [go_sem, B0f1, B0z]; done) | (simp [go_sem, B0c0, B0c1, B0f0, B0f1, B0z]; done)) (by first | assumption | omega | (simp; done) | (simp; omega))
  have C1 := box2 h3 (w2.heap.size) (.int .i64 x1) (.int .u64 x0) (by first | assumption | (simp [go_sem]; done) | (simp [go_sem, B0c0, B0c1, B0f0, B0f1, B0z]; done)) (by first | assumption | (simp [go_sem]; done) | (simp [go_sem, B0c0, B0c1, B0f0, B0f1, B0z]; done)) (by first | assumption | (simp [go_sem]; done) | (simp [go_sem, B0c0, B0c1, B0f0, B0f1, B0z]; done)) (by first | assumption | (simp [go_sem]; done) | (simp [go_sem, B0c0, B0c1, B0f0, B0f1, B0z]; done)) (by first | assumption | omega | (simp; done) | (simp; omega))
  clear B0c0 B0c1 B0f0 B0f1 B0z
  obtain ⟨C0c0, C0c1, C0f0, C0f1, C0z⟩ := C0
  obtain ⟨C1c0, C1c1, C1f0, C1f1, C1z⟩ := C1
  clear h3 k0 B2
  go_wp2_with fail
  go_returns
  exact ⟨rfl, by go_grown⟩
set_option maxRecDepth 100000 in
set_option maxHeartbeats 4000000 in
theorem mparses_walk (s : ByteArray) (v er : Int)
    (k0 : ∀ w, Calls Tryd.prog 15 #[] w fun e w' => e = .returned (.bool true) ∧ Below w.heap.size w w')
    (k1 : ∀ w, Calls Tryd.prog 13 #[.string s] w fun e w' => e = .returned (.tuple #[.int .i64 v, .int .i64 er]) ∧ Below w.heap.size w w')
    (k2 : ∀ w, Calls Tryd.prog 14 #[.string s] w fun e w' => e = .returned (.tuple #[.int .i64 v, .int .i64 er]) ∧ Below w.heap.size w w')
    (w : World) : Calls Tryd.prog 3 #[.string s] w fun e w' => e = .returned (.bool true) ∧ Below w.heap.size w w' := by
  go_enter Tryd.func3, Tryd.ntmps3
  go_wp2_with fail
  refine (k1 _).mono ?_
  rintro e w1 ⟨rfl, h1⟩
  have B1 : Below w.heap.size w w1 := Below.trans (by go_grown) (h1.mono (by first | (simp; done) | omega | (simp; omega)))
  have y1 := B1.size
  clear h1 k1
  go_wp2_with fail
  refine (k2 _).mono ?_
  rintro e w2 ⟨rfl, h2⟩
  have B2 : Below w.heap.size w w2 := Below.trans (by go_grown) (h2.mono (by first | (simp; done) | omega | (simp; omega)))
  have y2 := B2.size
  clear h2 k2 B1
  go_wp2_with fail
  refine (k0 _).mono ?_
  rintro e w3 ⟨rfl, h3⟩
  have B3 : Below w.heap.size w w3 := Below.trans (by go_grown) (h3.mono (by first | (simp; done) | omega | (simp; omega)))
  have y3 := B3.size
  clear h3 k0 B2
  go_wp2_with fail
  go_returns
  exact ⟨rfl, by go_grown⟩
set_option maxRecDepth 100000 in
set_option maxHeartbeats 4000000 in
theorem mfits_walk (a b n : Int) (ok : Bool)
    (k1 : ∀ w, Calls Tryd.prog 26 #[.agg #[.int .i64 a, .int .u64 b]] w fun e w' => e = .returned (.tuple #[.int .i64 n, .bool ok]) ∧ Below w.heap.size w w')
    (w : World) : Calls Tryd.prog 22 #[.agg #[.int .i64 a, .int .u64 b]] w fun e w' => e = .returned (.tuple #[.int .i64 n, .bool ok]) ∧ Below w.heap.size w w' := by
  go_enter Tryd.func22, Tryd.ntmps22
  go_wp2_with fail
  refine (k1 _).mono ?_
  rintro e w1 ⟨rfl, h1⟩
  have B1 : Below w.heap.size w w1 := Below.trans (by go_grown) (h1.mono (by first | (simp; done) | omega | (simp; omega)))
  have y1 := B1.size
  clear h1 k1
  go_wp2_with fail
  go_returns
  exact ⟨rfl, by go_grown⟩
theorem readE_form (l : List UInt8) : ∃ x1 x0 er, readE l = .returned (.tuple #[.agg #[.int .i64 x1, .int .u64 x0], .int .i64 er]) := by
  unfold readE readQ badE fineE
  split
  · split
    · exact ⟨_, _, _, rfl⟩
    · exact ⟨_, _, _, rfl⟩
  · exact ⟨_, _, _, rfl⟩
theorem parseE_form (l : List UInt8) : ∃ v er, parseE l = .returned (.tuple #[.int .i64 v, .int .i64 er]) := by
  unfold parseE
  split
  · split
    · exact ⟨_, _, rfl⟩
    · split
      · exact ⟨_, _, rfl⟩
      · exact ⟨_, _, rfl⟩
  · exact ⟨_, _, rfl⟩
theorem law_MicroReads (s : ByteArray) (hs : s.size ≤ 140737488351232) (w : World) :
    Calls Tryd.prog 5 #[.string s] w fun e w' => e = .returned (.bool true) ∧ Below w.heap.size w w' := by
  obtain ⟨x1, x0, er, e⟩ := readE_form s.data.toList
  have k1 := fun w => mread_spec s w hs
  have k2 := fun w => mrread_spec s w hs
  simp only [e] at k1 k2
  exact mreads_walk s x1 x0 er awake_ok k1 k2 w
theorem law_MicroParses (s : ByteArray) (hs : s.size ≤ 140737488351232) (w : World) :
    Calls Tryd.prog 3 #[.string s] w fun e w' => e = .returned (.bool true) ∧ Below w.heap.size w w' := by
  obtain ⟨v, er, e⟩ := parseE_form s.data.toList
  have k1 := fun w => mparse_spec s w hs
  have k2 := fun w => mrparse_spec s w hs
  simp only [e] at k1 k2
  exact mparses_walk s v er awake_ok k1 k2 w
end Go.Proofs.YtdjehbagnkfkpaaDoor
