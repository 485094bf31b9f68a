/- wide: Sub. -/
import Derived.Test.YtnlefakicjojdaaWadd
import Derived.Test.YtnlefakicjojdaaWof
import Derived.Test.YtnlefakicjojdaaWxor
namespace Go.Proofs.Ytnlefakicjojdaa
set_option linter.unusedVariables false
open Go.RowKit W
theorem sum3 (n : Nat) (a b x y : Int) (w : World) (hn : n < w.heap.size) (i : IsW (a, b)) (j : IsW (x, y)) (c0 : w.cell? ⟨n, 0, none⟩ = some (.int .i64 a)) (c1 : w.cell? ⟨n, 1, none⟩ = some (.int .u64 b))
    (c2 : w.cell? ⟨n, 2, none⟩ = some (.int .i64 x)) (c3 : w.cell? ⟨n, 3, none⟩ = some (.int .u64 y)) (c4 : w.cell? ⟨n, 4, none⟩ = some (.int .i64 0)) (c5 : w.cell? ⟨n, 5, none⟩ = some (.int .u64 1)) :
    Calls Try.prog 54 #[.slice (some ⟨n, 0, none⟩) 3 3] w fun e w' => e = sumRes (sumV [(a, b), (x, y), (0, 1)]) ∧ Below w.heap.size w w' := by
  refine sum_some n 0 3 3 [(a, b), (x, y), (0, 1)] w hn (by omega) ⟨rfl, ?_, ?_, ?_⟩
  · intro k hk
    obtain rfl | rfl | rfl : k = 0 ∨ k = 1 ∨ k = 2 := by omega
    all_goals assumption
  · intro k hk
    obtain rfl | rfl | rfl : k = 0 ∨ k = 1 ∨ k = 2 := by omega
    all_goals assumption
  · intro p hp
    simp only [List.mem_cons, List.not_mem_nil, or_false] at hp
    rcases hp with rfl | rfl | rfl
    · exact i
    · exact j
    · exact ⟨⟨by omega, by omega⟩, ⟨by omega, by omega⟩⟩
set_option maxHeartbeats 2000000 in
theorem sub_raw (a b c d x y : Int) (hx : bits .xor .i64 (-1) c = x) (hy : bits .xor .u64 IntKind.u64.max d = y) (i : IsW (a, b)) (j : IsW (x, y)) (w : World) :
    Calls Try.prog 42 #[.agg #[.int .i64 a, .int .u64 b], .agg #[.int .i64 c, .int .u64 d]] w fun e w' => e = sumRes (sumV [(a, b), (x, y), (0, 1)]) ∧ Below w.heap.size w w' := by
  have c1 := wof_spec 1 ⟨by omega, by omega⟩
  have e1 : hi 1 = 0 := by decide
  have e2 : lo 1 = 1 := by decide
  unfold wideRes at c1
  rw [e1, e2] at c1
  clear e1 e2
  have hs1 : IntKind.i64.signed = true := rfl
  have hs2 : IntKind.u64.signed = false := rfl
  obtain ⟨t, ht⟩ : ∃ t, t = sumV [(a, b), (x, y), (0, 1)] := ⟨_, rfl⟩
  rw [← ht]
  have T : Hid (t = sumV [(a, b), (x, y), (0, 1)]) := ht
  obtain ⟨r1, hr1⟩ : ∃ r, r = hi (resV t) := ⟨_, rfl⟩
  obtain ⟨r0, hr0⟩ : ∃ r, r = lo (resV t) := ⟨_, rfl⟩
  obtain ⟨re, hre⟩ : ∃ r, r = resE t := ⟨_, rfl⟩
  unfold sumRes
  rw [← hr1, ← hr0, ← hre]
  have RS : Hid (sumRes (sumV [(a, b), (x, y), (0, 1)]) = .returned (.tuple #[.agg #[.int .i64 r1, .int .u64 r0], .int .i64 re])) := by unfold sumRes; rw [← T.out, ← hr1, ← hr0, ← hre]; rfl
  clear ht hr1 hr0 hre T
  go_enter Try.func42, Try.ntmps42
  go_wp2_with fail
  obtain ⟨W, hW⟩ : ∃ X, X = ((w.alloc (Obj.cells #[.int .i64 a, .int .u64 b] 36)).alloc (Obj.cells #[.int .i64 c, .int .u64 d] 36)).alloc (Obj.cells #[.int .i64 0, .int .u64 0] 36) := ⟨_, rfl⟩
  have cW0 : W.cell? ⟨w.heap.size, 0, none⟩ = some (.int .i64 a) := by rw [hW]; first | (simp [go_sem]; done)
  have fW0 : W.frozen? ⟨w.heap.size, 0, none⟩ = false := by rw [hW]; first | (simp [go_sem]; done)
  have zW0 : w.heap.size < W.heap.size := by rw [hW]; first | omega | (simp; done) | (simp; omega)
  have cW1 : W.cell? ⟨w.heap.size, 1, none⟩ = some (.int .u64 b) := by rw [hW]; first | (simp [go_sem]; done)
  have fW1 : W.frozen? ⟨w.heap.size, 1, none⟩ = false := by rw [hW]; first | (simp [go_sem]; done)
  have zW1 : w.heap.size < W.heap.size := by rw [hW]; first | omega | (simp; done) | (simp; omega)
  have cW2 : W.cell? ⟨w.heap.size + 1, 0, none⟩ = some (.int .i64 c) := by rw [hW]; first | (simp [go_sem]; done)
  have fW2 : W.frozen? ⟨w.heap.size + 1, 0, none⟩ = false := by rw [hW]; first | (simp [go_sem]; done)
  have zW2 : w.heap.size + 1 < W.heap.size := by rw [hW]; first | omega | (simp; done) | (simp; omega)
  have cW3 : W.cell? ⟨w.heap.size + 1, 1, none⟩ = some (.int .u64 d) := by rw [hW]; first | (simp [go_sem]; done)
  have fW3 : W.frozen? ⟨w.heap.size + 1, 1, none⟩ = false := by rw [hW]; first | (simp [go_sem]; done)
  have zW3 : w.heap.size + 1 < W.heap.size := by rw [hW]; first | omega | (simp; done) | (simp; omega)
  have cW4 : W.cell? ⟨w.heap.size + 1 + 1, 0, none⟩ = some (.int .i64 0) := by rw [hW]; first | (simp [go_sem]; done)
  have fW4 : W.frozen? ⟨w.heap.size + 1 + 1, 0, none⟩ = false := by rw [hW]; first | (simp [go_sem]; done)
  have zW4 : w.heap.size + 1 + 1 < W.heap.size := by rw [hW]; first | omega | (simp; done) | (simp; omega)
  have cW5 : W.cell? ⟨w.heap.size + 1 + 1, 1, none⟩ = some (.int .u64 0) := by rw [hW]; first | (simp [go_sem]; done)
  have fW5 : W.frozen? ⟨w.heap.size + 1 + 1, 1, none⟩ = false := by rw [hW]; first | (simp [go_sem]; done)
  have zW5 : w.heap.size + 1 + 1 < W.heap.size := by rw [hW]; first | omega | (simp; done) | (simp; omega)
  have BW : Below w.heap.size w W := by rw [hW]; go_grown
  rw [← hW]
  clear hW
  have K1 := (Keeps.start (show w.heap.size + 1 + 1 ≤ W.heap.size by omega)).drew
  have b0 : w.heap.size < w.heap.size + 1 + 1 := by omega
  have b1 : w.heap.size + 1 < w.heap.size + 1 + 1 := by omega
  go_region_held3 (fun w' => w'.cell? ⟨w.heap.size, 0, none⟩ = some (.int .i64 a) ∧ w'.cell? ⟨w.heap.size, 1, none⟩ = some (.int .u64 b) ∧ w'.cell? ⟨w.heap.size + 1, 0, none⟩ = some (.int .i64 c) ∧ w'.cell? ⟨w.heap.size + 1, 1, none⟩ = some (.int .u64 d) ∧ Keeps (w.heap.size + 1 + 1) W w')
    ((refine (fun K => ⟨Keeps.cell K cW0 b0, Keeps.cell K cW1 b0, Keeps.cell K cW2 b1, Keeps.cell K cW3 b1, K⟩) (?_ : Keeps (w.heap.size + 1 + 1) W _); (first | assumption | exact Keeps.alloc (by assumption) _ | exact Keeps.setCell (Keeps.setCell (by assumption) (by simp) _) (by simp) _)))
    (first
      | (go_at_call 27; refine (c1 _).mono ?_; rintro e w1 ⟨rfl, hb⟩; have K2 := Keeps.call (by assumption) hb; obtain ⟨ka0, fa0, za0⟩ := live (.int .i64 0) hb (w.heap.size + 1 + 1) 0 zW4 cW4 fW4; obtain ⟨ka1, fa1, za1⟩ := live (.int .u64 0) hb (w.heap.size + 1 + 1) 1 zW5 cW5 fW5)
      | (go_at_call 54; refine (sum3 w1.heap.size a b x y _ (by simp) i j (by simp [go_sem]) (by simp [go_sem]) (by simp [go_sem]) (by simp [go_sem]) (by simp [go_sem]) (by simp [go_sem])).mono ?_; rintro e w2 ⟨he, hb2⟩; rw [RS.out] at he; rw [he]; have K3 := Keeps.call (Keeps.alloc K2 _) hb2; obtain ⟨kb0, fb0, zb0⟩ := live (.int .i64 0) hb2 (w.heap.size + 1 + 1) 0 (by simp; omega) (by simp [go_sem, ka0, za0]) (by simp [go_sem, fa0, za0]); obtain ⟨kb1, fb1, zb1⟩ := live (.int .u64 0) hb2 (w.heap.size + 1 + 1) 1 (by simp; omega) (by simp [go_sem, ka1, za1]) (by simp [go_sem, fa1, za1])))
  have B0 : Below w.heap.size w w2 := BW.trans (K3.below.mono (by omega))
  have RS' : Hid _ := RS.out
  clear RS
  go_wp2
  refine bodyPost_ret (by simp [results, Try.results42, go_sem, kb0, kb1]; try rfl) rfl ?_
  exact ⟨rfl, by go_grown⟩
theorem sub_spec (a b c d : Int) (i : IsW (a, b)) (j : IsW (c, d)) (w : World) :
    Calls Try.prog 42 #[.agg #[.int .i64 a, .int .u64 b], .agg #[.int .i64 c, .int .u64 d]] w fun e w' => e = sumRes (V a b - V c d) ∧ Below w.heap.size w w' := by
  have hx := xor_i64 c j.a
  have hy := xor_u64 d j.b
  obtain ⟨⟨j1, j2⟩, ⟨j3, j4⟩⟩ := j
  simp only at j1 j2 j3 j4
  have e : sumV [(a, b), (-c - 1, -d - 1 + 18446744073709551616), (0, 1)] = V a b - V c d := by simp only [sumV, V]; omega
  rw [← e]
  exact sub_raw a b c d _ _ hx hy i ⟨⟨by simp only; omega, by simp only; omega⟩, ⟨by simp only; omega, by simp only; omega⟩⟩ w
theorem isW_0 : IsW (0, 0) := ⟨isHi_0, isLo_0⟩
end Go.Proofs.Ytnlefakicjojdaa
