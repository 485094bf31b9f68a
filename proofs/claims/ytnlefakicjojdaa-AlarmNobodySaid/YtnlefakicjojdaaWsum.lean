/- wide: Sum. -/
import Derived.Test.YtnlefakicjojdaaWbits
namespace Go.Proofs.Ytnlefakicjojdaa
set_option linter.unusedVariables false
open Go.RowKit W
structure SumInv (w wr : World) (s0 s1 s2 : Int) : Prop where
  c0 : wr.cell? ⟨w.heap.size + 1, 0, none⟩ = some (.int .u64 s0)
  c1 : wr.cell? ⟨w.heap.size + 1, 1, none⟩ = some (.int .u64 s1)
  c2 : wr.cell? ⟨w.heap.size + 1, 2, none⟩ = some (.int .u64 s2)
  f0 : wr.frozen? ⟨w.heap.size + 1, 0, none⟩ = false
  f1 : wr.frozen? ⟨w.heap.size + 1, 1, none⟩ = false
  f2 : wr.frozen? ⟨w.heap.size + 1, 2, none⟩ = false
  r0 : wr.cell? ⟨w.heap.size, 0, none⟩ = some (.int .i64 0)
  r1 : wr.cell? ⟨w.heap.size, 1, none⟩ = some (.int .u64 0)
  g0 : wr.frozen? ⟨w.heap.size, 0, none⟩ = false
  g1 : wr.frozen? ⟨w.heap.size, 1, none⟩ = false
  sz : w.heap.size + 1 < wr.heap.size
  below : Below w.heap.size w wr
/-- The elements of a slice of wide numbers, as they lie in memory. -/
structure Holds (w : World) (b off len : Nat) (ws : List (Int × Int)) : Prop where
  size : ws.length = len
  chi : ∀ j, j < len → w.cell? ⟨b, off + j * 2, none⟩ = some (.int .i64 (ws.getD j (0, 0)).1)
  clo : ∀ j, j < len → w.cell? ⟨b, off + j * 2 + 1, none⟩ = some (.int .u64 (ws.getD j (0, 0)).2)
  fit : ∀ p ∈ ws, IsW p
theorem Holds.at {w : World} {b off len : Nat} {ws : List (Int × Int)} (h : Holds w b off len ws) (k : Nat) (hk : k < len) : IsW (ws.getD k (0, 0)) := by
  apply h.fit
  have := h.size
  simp only [List.getD, List.getElem?_eq_getElem (show k < ws.length by omega), Option.getD_some]
  exact List.getElem_mem _
set_option maxHeartbeats 4000000 in
theorem sum_some (b off len cap : Nat) (ws : List (Int × Int)) (w : World) (hb : b < w.heap.size) (hl : len ≤ 140737488355328) (H : Holds w b off len ws) :
    Calls Try.prog 54 #[.slice (some ⟨b, off, none⟩) len cap] w fun e w' => e = sumRes (sumV ws) ∧ Below w.heap.size w w' := by
  go_enter Try.func54, Try.ntmps54
  go_wp2
  go_loopw [11] (fun i wr => ∃ (k : Nat) (s0 s1 s2 : Int), k ≤ len ∧ i = .int .i64 k ∧ SumInv w wr s0 s1 s2 ∧ SumAt (sumV (ws.take k)) s0 s1 s2) (fun i _ => len - (intOf i).toNat)
  case atStart =>
    refine ⟨0, 0, 0, 0, by omega, rfl, ⟨?_, ?_, ?_, ?_, ?_, ?_, ?_, ?_, ?_, ?_, ?_, ?_⟩, sumAt_0⟩
    all_goals first | go_grown; done | (simp [go_sem]; done)
  case round =>
    obtain ⟨k, s0, s1, s2, hk, rfl, inv, at_⟩ := hrel
    by_cases hlt : k < len
    · have e1 := (inv.below.cell (p := ⟨b, off + k * 2, none⟩) hb).trans (H.chi k hlt)
      have e2 := (inv.below.cell (p := ⟨b, off + k * 2 + 1, none⟩) hb).trans (H.clo k hlt)
      have ew := H.at k hlt
      have ewa := ew.a
      have ewb := ew.b
      clear ew
      have st := at_.step ewa ewb
      rw [← sumV_take ws k (by have := H.size; omega)] at st
      generalize (ws.getD k (0, 0)).1 = eh at *
      generalize (ws.getD k (0, 0)).2 = el at *
      have hu : IntKind.u64.wrap eh = u eh := by rw [IntKind.wrap_u64]; rfl
      have hv : IntKind.u64.wrap (eh / 9223372036854775808) = u (eh / 9223372036854775808) := by rw [IntKind.wrap_u64]; rfl
      have b1 := isBit_addC at_.lo0 ewb isBit_0
      have b2 := isBit_addC at_.lo1 (isLo_u eh) b1
      have a1 := run_addC s0 el 0 at_.lo0 ewb isBit_0
      have a2 := run_addC s1 (u eh) (addC s0 el 0) at_.lo1 (isLo_u eh) b1
      have a3 := run_addC s2 (u (eh / 9223372036854775808)) (addC s1 (u eh) (addC s0 el 0)) at_.lo2 (isLo_u _) b2
      obtain ⟨y, hy⟩ : ∃ y, y = u (eh / 9223372036854775808) := ⟨_, rfl⟩
      obtain ⟨z, hz⟩ : ∃ y, y = u eh := ⟨_, rfl⟩
      obtain ⟨x0, h0⟩ : ∃ x, x = addD s0 el 0 := ⟨_, rfl⟩
      obtain ⟨q0, h1⟩ : ∃ x, x = addC s0 el 0 := ⟨_, rfl⟩
      rw [← hz] at hu a2 a3 st
      rw [← hy] at hv a3 st
      rw [← h0] at a1 st
      rw [← h1] at a1 a2 a3 st
      obtain ⟨x1, h2⟩ : ∃ x, x = addD s1 z q0 := ⟨_, rfl⟩
      obtain ⟨q1, h3⟩ : ∃ x, x = addC s1 z q0 := ⟨_, rfl⟩
      rw [← h2] at a2 st
      rw [← h3] at a2 a3 st
      obtain ⟨x2, h4⟩ : ∃ x, x = addD s2 y q1 := ⟨_, rfl⟩
      obtain ⟨q2, h5⟩ : ∃ x, x = addC s2 y q1 := ⟨_, rfl⟩
      rw [← h4] at a3 st
      rw [← h5] at a3
      have ST : Hid (SumAt (sumV (ws.take (k + 1))) x0 x1 x2) := st
      clear hy hz h0 h1 h2 h3 h4 h5 b1 b2 at_ ewa ewb st
      have c0 := inv.c0
      have c1 := inv.c1
      have c2 := inv.c2
      have f0 := inv.f0
      have f1 := inv.f1
      have f2 := inv.f2
      have sz := inv.sz
      have H' : Hid (Holds w b off len ws) := H
      have I : Hid (SumInv w wr s0 s1 s2) := inv
      clear H inv
      go_wp2
      go_roundw
      case rel =>
        refine ⟨k + 1, x0, x1, x2, by omega, by go_num, ?_, ST.out⟩
        have inv := I.out
        have r0 := inv.r0
        have r1 := inv.r1
        have g0 := inv.g0
        have g1 := inv.g1
        have bl := inv.below
        have sz0 : w.heap.size < wr.heap.size := by omega
        refine ⟨?_, ?_, ?_, ?_, ?_, ?_, ?_, ?_, ?_, ?_, ?_, ?_⟩
        all_goals first | (go_grown; done) | (simp [go_sem, c0, c1, c2, f0, f1, f2, r0, r1, g0, g1, sz, sz0]; done) | (simp; omega)
      case measure => simp [intOf]; omega
    · obtain rfl : k = len := by omega
      rw [List.take_of_length_le (by have := H.size; omega)] at at_
      have bd := sumV_bound ws H.fit
      rw [H.size] at bd
      have wm := wrap_s at_.lo1
      obtain ⟨q, hq⟩ : ∃ q, q = s s1 := ⟨_, rfl⟩
      rw [← hq] at wm
      obtain ⟨y, hy⟩ : ∃ y, y = u (q / 9223372036854775808) := ⟨_, rfl⟩
      have hv : IntKind.u64.wrap (q / 9223372036854775808) = y := by rw [IntKind.wrap_u64, hy]; rfl
      have A : Hid (s2 = y → Fits (sumV ws) ∧ hi (sumV ws) = q ∧ W.lo (sumV ws) = s0) := fun e => by rw [hq]; exact at_.done (by omega) (by omega) (by rw [e, hy, hq])
      have O : Hid (s2 ≠ y → ¬ Fits (sumV ws)) := fun e => at_.over (by rw [← hq, ← hy]; exact e)
      have c0 := inv.c0
      have c1 := inv.c1
      have c2 := inv.c2
      have r0 := inv.r0
      have r1 := inv.r1
      have g0 := inv.g0
      have g1 := inv.g1
      have sz := inv.sz
      have sz0 : w.heap.size < wr.heap.size := by omega
      have I : Hid (SumInv w wr s0 s1 s2) := inv
      clear hq hy bd at_ H inv
      by_cases g : s2 = y
      · subst g
        obtain ⟨f, h1, h0⟩ := A.out rfl
        have F : Hid (Fits (sumV ws) ∧ hi (sumV ws) = q ∧ W.lo (sumV ws) = s0) := ⟨f, h1, h0⟩
        clear f h1 h0 A O
        go_wp2
        have bl := I.out.below
        refine bodyPost_ret (by simp [results, Try.results54, go_sem, r0, r1, sz0]; try rfl) rfl ?_
        exact ⟨ret_res F.out.1 F.out.2.1 F.out.2.2, by go_grown⟩
      · have f := O.out g
        have F : Hid (¬ Fits (sumV ws)) := f
        clear A O f
        go_wp2
        have bl := I.out.below
        refine bodyPost_ret (by simp [results, Try.results54, go_sem, r0, r1, sz0]; try rfl) rfl ?_
        exact ⟨ret_over F.out, by go_grown⟩
end Go.Proofs.Ytnlefakicjojdaa
