/- micro.Share: the walk. -/
import Derived.Test.YtedpbdcbbfofoaaMpart
namespace Go.Proofs.Ytedpbdcbbfofoaa
set_option linter.unusedVariables false
open Go.RowKit W
set_option maxHeartbeats 1000000 in
theorem share_low (a b n : Int) (h : n < 1) (w : World) :
    Calls Try.prog 13 #[.agg #[.int .i64 a, .int .u64 b], .int .i64 n] w fun y w' => y = .returned (.tuple #[.agg #[.int .i64 0, .int .u64 0], .int .i64 1]) ∧ Below w.heap.size w w' := by
  go_enter Try.func13, Try.ntmps13
  go_wp2_with fail
  go_returns
  exact ⟨rfl, by go_grown⟩
set_option maxHeartbeats 4000000 in
theorem share_walk (a b n c1 c0 q1 q0 r1 r0 f : Int) (h : ¬ n < 1)
    (kc : ∀ w, Calls Try.prog 32 #[.int .i64 n] w fun e w' => e = .returned (.agg #[.int .i64 c1, .int .u64 c0]) ∧ Below w.heap.size w w')
    (kq : ∀ w, Calls Try.prog 31 #[.agg #[.int .i64 a, .int .u64 b], .agg #[.int .i64 c1, .int .u64 c0]] w fun x w' => x = .returned (.tuple #[.agg #[.int .i64 q1, .int .u64 q0], .agg #[.int .i64 r1, .int .u64 r0], .int .i64 f]) ∧ Below w.heap.size w w') (w : World) :
    Calls Try.prog 13 #[.agg #[.int .i64 a, .int .u64 b], .int .i64 n] w fun y w' => y = .returned (.tuple #[.agg #[.int .i64 q1, .int .u64 q0], .int .i64 f]) ∧ Below w.heap.size w w' := by
  go_enter Try.func13, Try.ntmps13
  go_wp2_with fail
  obtain ⟨W, hW⟩ : ∃ X, X = (w.alloc (Obj.cells #[.int .i64 a, .int .u64 b] 30)).alloc (Obj.cells #[.int .i64 0, .int .u64 0] 30) := ⟨_, rfl⟩
  have cW0 : W.cell? ⟨w.heap.size, 0, none⟩ = some (.int .i64 a) := by rw [hW]; first | (simp [go_sem]; done)
  have fW0 : W.frozen? ⟨w.heap.size, 0, none⟩ = false := by rw [hW]; first | (simp [go_sem]; done)
  have zW0 : w.heap.size < W.heap.size := by rw [hW]; first | omega | (simp; done) | (simp; omega)
  have cW1 : W.cell? ⟨w.heap.size, 1, none⟩ = some (.int .u64 b) := by rw [hW]; first | (simp [go_sem]; done)
  have fW1 : W.frozen? ⟨w.heap.size, 1, none⟩ = false := by rw [hW]; first | (simp [go_sem]; done)
  have zW1 : w.heap.size < W.heap.size := by rw [hW]; first | omega | (simp; done) | (simp; omega)
  have cW2 : W.cell? ⟨w.heap.size + 1, 0, none⟩ = some (.int .i64 0) := by rw [hW]; first | (simp [go_sem]; done)
  have fW2 : W.frozen? ⟨w.heap.size + 1, 0, none⟩ = false := by rw [hW]; first | (simp [go_sem]; done)
  have zW2 : w.heap.size + 1 < W.heap.size := by rw [hW]; first | omega | (simp; done) | (simp; omega)
  have cW3 : W.cell? ⟨w.heap.size + 1, 1, none⟩ = some (.int .u64 0) := by rw [hW]; first | (simp [go_sem]; done)
  have fW3 : W.frozen? ⟨w.heap.size + 1, 1, none⟩ = false := by rw [hW]; first | (simp [go_sem]; done)
  have zW3 : w.heap.size + 1 < W.heap.size := by rw [hW]; first | omega | (simp; done) | (simp; omega)
  have BW : Below w.heap.size w W := by rw [hW]; go_grown
  rw [← hW]
  clear hW
  go_cut [6, 7, 8] (fun q x y W' => ∃ X Y : Nat, q = .pointer (some ⟨X, 0, none⟩) ∧ x = .pointer (some ⟨Y, 0, none⟩) ∧ y = .int .i64 f ∧ Box2 W'  X (.int .i64 q1) (.int .u64 q0) ∧ Keeps W.heap.size W W')
  case first =>
    have K0 := Keeps.start (Nat.le_refl W.heap.size)
    have K1 := K0.drew
    go_region_held3 (fun w' => w'.cell? ⟨w.heap.size, 0, none⟩ = some (.int .i64 a) ∧ w'.cell? ⟨w.heap.size, 1, none⟩ = some (.int .u64 b) ∧ Keeps W.heap.size W w') ((refine (fun K => ⟨Keeps.cell K cW0 zW0, Keeps.cell K cW1 zW1, K⟩) (?_ : Keeps W.heap.size W _); (repeat (first | assumption | refine Keeps.alloc ?_ _ | refine Keeps.drew ?_ | refine Keeps.setCell ?_ (by first | (simp; done) | omega | (simp; omega)) _))))
      (first
      | (go_at_call 32; refine (kc _).mono ?_; rintro e v20 ⟨rfl, hb20⟩; have K20 := Keeps.call (B := W.heap.size) (W := W) (by repeat (first | assumption | refine Keeps.alloc ?_ _ | refine Keeps.drew ?_ | refine Keeps.setCell ?_ (by first | (simp; done) | omega | (simp; omega)) _)) hb20; obtain ⟨bc20, bf20, bs20⟩ := bcell hb20; (try simp only [World.size_alloc, World.size_drew] at bc20 bf20 bs20); (try (have ov200 : W.heap.size < v20.heap.size := by omega)); (try (have ov201 : W.heap.size ≤ v20.heap.size := by omega)); (try (have ov202 : ¬ W.heap.size = v20.heap.size := by omega)); (try (have ov203 : ¬ v20.heap.size = W.heap.size := by omega)); (try (have ov204 : W.heap.size + 1 < v20.heap.size := by omega)); (try (have ov205 : W.heap.size + 1 ≤ v20.heap.size := by omega)); (try (have ov206 : ¬ W.heap.size + 1 = v20.heap.size := by omega)); (try (have ov207 : ¬ v20.heap.size = W.heap.size + 1 := by omega)))
      | (go_at_call 31; refine (kq _).mono ?_; rintro e v21 ⟨rfl, hb21⟩; have K21 := Keeps.call (B := W.heap.size) (W := W) (by repeat (first | assumption | refine Keeps.alloc ?_ _ | refine Keeps.drew ?_ | refine Keeps.setCell ?_ (by first | (simp; done) | omega | (simp; omega)) _)) hb21; obtain ⟨bc21, bf21, bs21⟩ := bcell hb21; (try simp only [World.size_alloc, World.size_drew] at bc21 bf21 bs21); (try (have ov210 : W.heap.size < v21.heap.size := by omega)); (try (have ov211 : W.heap.size ≤ v21.heap.size := by omega)); (try (have ov212 : ¬ W.heap.size = v21.heap.size := by omega)); (try (have ov213 : ¬ v21.heap.size = W.heap.size := by omega)); (try (have ov214 : W.heap.size + 1 < v21.heap.size := by omega)); (try (have ov215 : W.heap.size + 1 ≤ v21.heap.size := by omega)); (try (have ov216 : ¬ W.heap.size + 1 = v21.heap.size := by omega)); (try (have ov217 : ¬ v21.heap.size = W.heap.size + 1 := by omega)); (try (have ov218 : v20.heap.size < v21.heap.size := by omega)); (try (have ov219 : v20.heap.size ≤ v21.heap.size := by omega)); (try (have ov2110 : ¬ v20.heap.size = v21.heap.size := by omega)); (try (have ov2111 : ¬ v21.heap.size = v20.heap.size := by omega)); (try (have ov2112 : v20.heap.size + 1 < v21.heap.size := by omega)); (try (have ov2113 : v20.heap.size + 1 ≤ v21.heap.size := by omega)); (try (have ov2114 : ¬ v20.heap.size + 1 = v21.heap.size := by omega)); (try (have ov2115 : ¬ v21.heap.size = v20.heap.size + 1 := by omega))))
    all_goals
      go_wp2_with fail
      go_meet
      case rel =>
        refine ⟨_, _, rfl, rfl, rfl, ⟨?_, ?_, ?_, ?_, ?_⟩, ?_⟩
        · first | (go_simp; done) | (go_simp; refine World.cell?_setCell_same' _ _ _ ?_; go_simp; done)
        · first | (go_simp; done) | (go_simp; refine World.cell?_setCell_same' _ _ _ ?_; go_simp; done)
        · first | (go_simp; done) | (go_simp; refine World.cell?_setCell_same' _ _ _ ?_; go_simp; done)
        · first | (go_simp; done) | (go_simp; refine World.cell?_setCell_same' _ _ _ ?_; go_simp; done)
        · first | (simp; done) | omega | (simp; omega)
        · repeat (first | assumption | refine Keeps.alloc ?_ _ | refine Keeps.drew ?_ | refine Keeps.setCell ?_ (by first | (simp; done) | omega | (simp; omega)) _)
  case rest =>
    obtain ⟨X, Y, rfl, rfl, rfl, bx, KK⟩ := hcut
    have bl := BW.trans (KK.below.mono BW.size)
    have sz := KK.below.size
    have f0 := KK.cell cW2 zW2
    have f1 := KK.cell cW3 zW3
    have g0 := KK.free fW2 zW2
    have g1 := KK.free fW3 zW3
    have z0 : w.heap.size + 1 < wc.heap.size := by omega
    clear cW0 cW1 cW2 cW3 fW0 fW1 fW2 fW3 zW0 zW1 zW2 KK BW kc kq
    obtain ⟨x0, x1, x2, x3, x4⟩ := bx
    go_wp2_with fail
    refine bodyPost_ret (by simp [results, Try.results13, go_sem, f0, f1, g0, g1, z0, x0, x1]; try rfl) rfl ?_
    exact ⟨rfl, by go_grown⟩
end Go.Proofs.Ytedpbdcbbfofoaa
