/- The reference of layer 1: its faces: Sum; WideSums. -/
import Derived.Test.YthcgkpmlfbjagaaLroot
import Derived.Test.YthcgkpmlfbjagaaWsum
namespace Go.Proofs.Ythcgkpmlfbjagaa
set_option linter.unusedVariables false
open Go.RowKit W Lb
theorem few_sum {ws : List (Int × Int)} (h : ∀ p ∈ ws, IsW p) (k : Nat) (hk : ws.length ≤ 140737488355328) : Lb.ab (sumV (ws.take k)) < pw 11 := by
  have e : pw 11 = 95780971304118053647396689196894323976171195136475136 := by decide
  have b := sumV_bound (ws.take k) (fun p hp => h p (List.mem_of_mem_take hp))
  have l := List.length_take_le k ws
  have l2 : (ws.take k).length ≤ ws.length := by simp; omega
  unfold Lb.ab; split <;> omega
/-- The state of the sum's loop. -/
structure RSum (w wr : World) (s : Bool) (p : Option Addr) (c : Nat) (lr : List Int) (z : Int) : Prop where
  n : NBox wr (w.heap.size + 1) s (.slice p lr.length c)
  num : IsNum wr s p c lr z
  r0 : wr.cell? ⟨w.heap.size, 0, none⟩ = some (.int .i64 0)
  r1 : wr.cell? ⟨w.heap.size, 1, none⟩ = some (.int .u64 0)
  g0 : wr.frozen? ⟨w.heap.size, 0, none⟩ = false
  g1 : wr.frozen? ⟨w.heap.size, 1, none⟩ = false
  below : Below w.heap.size w wr
theorem RSum.next {w wr v : World} {s s2 : Bool} {p p2 : Option Addr} {c c2 : Nat} {lr l2 : List Int} {z y : Int} (h : RSum w wr s p c lr z) (k : Below wr.heap.size wr v) (N : IsNum v s2 p2 c2 l2 y) :
    RSum w ((v.setCell ⟨w.heap.size + 1, 0, none⟩ (.bool s2)).setCell ⟨w.heap.size + 1, 1, none⟩ (.slice p2 l2.length c2)) s2 p2 c2 l2 y := by
  obtain ⟨q0, q1, q2, q3, q4, q5⟩ := h.n.later k
  have z0 : w.heap.size < wr.heap.size := by have := h.n.lt; omega
  have r0 := (k.cell (p := ⟨w.heap.size, 0, none⟩) z0).trans h.r0
  have r1 := (k.cell (p := ⟨w.heap.size, 1, none⟩) z0).trans h.r1
  have g0 := (k.frozen (p := ⟨w.heap.size, 0, none⟩) z0).trans h.g0
  have g1 := (k.frozen (p := ⟨w.heap.size, 1, none⟩) z0).trans h.g1
  have bl := h.below.trans (k.mono h.below.size)
  have ne : (57 : TypeId) ≠ 88 := by decide
  refine ⟨⟨?_, ?_, ?_, ?_, ?_, ?_⟩, (N.set q4 ne _).set (by rw [shape_set]; exact q4) ne _, ?_, ?_, ?_, ?_, (bl.setCell (by show w.heap.size ≤ w.heap.size + 1; omega) _).setCell (by show w.heap.size ≤ w.heap.size + 1; omega) _⟩
  · simp [go_sem, q0, q5]
  · refine World.cell?_setCell_same' _ _ _ ?_; simp [go_sem, q1]
  · simp [go_sem, q2]
  · simp [go_sem, q3]
  · rw [shape_set, shape_set]; exact q4
  · simpa [World.setCell] using q5
  · simp [go_sem, r0]
  · simp [go_sem, r1]
  · simp [go_sem, g0]
  · simp [go_sem, g1]
set_option maxRecDepth 100000 in
set_option maxHeartbeats 8000000 in
theorem rsum_some (b off len cap : Nat) (ws : List (Int × Int)) (w : World) (hb : b < w.heap.size) (hl : len ≤ 140737488355328) (H : Holds w b off len ws) :
    Calls Try.prog 35 #[.slice (some ⟨b, off, none⟩) len cap] w fun e w' => e = sumRes (sumV ws) ∧ Below w.heap.size w w' := by
  have HH := hide H
  clear H
  go_enter Try.func35, Try.ntmps35
  go_wp2_with fail
  go_loopw [5] (fun i wr => ∃ (k : Nat) (s : Bool) (p : Option Addr) (c : Nat) (lr : List Int), k ≤ len ∧ i = .int .i64 k ∧ RSum w wr s p c lr (sumV (ws.take k))) (fun i _ => len - (intOf i).toNat)
  case atStart =>
    refine ⟨0, false, none, 0, [], by omega, rfl, ⟨?_, ?_, ?_, ?_, ?_, ?_⟩, isNum_zero _, ?_, ?_, ?_, ?_, ?_⟩
    all_goals first | (go_grown; done) | (refine shape_top _ _ _ _ ?_; (first | rfl | (simp; done)); done) | (simp [go_sem]; done) | (simp; done) | (simp; omega)
  case round =>
    obtain ⟨k, s, p, c, lr, hk, rfl, inv⟩ := hrel
    have I := hide inv
    clear inv
    by_cases hlt : k < len
    · have e1 := (I.out.below.cell (p := ⟨b, off + k * 2, none⟩) hb).trans (HH.out.chi k hlt)
      have e2 := (I.out.below.cell (p := ⟨b, off + k * 2 + 1, none⟩) hb).trans (HH.out.clo k hlt)
      have ew := HH.out.at k hlt
      have st := sumV_take ws k (by have := HH.out.size; omega)
      obtain ⟨eh, heh⟩ : ∃ x, x = (ws.getD k (0, 0)).1 := ⟨_, rfl⟩
      obtain ⟨el, hel⟩ : ∃ x, x = (ws.getD k (0, 0)).2 := ⟨_, rfl⟩
      rw [← heh] at e1 st
      rw [← hel] at e2 st
      have ew2 : IsW (eh, el) := by rw [heh, hel]; exact ew
      have kf := from_spec eh el ew2
      have L1 := I.out.num.few 11 (few_sum HH.out.fit k (by have := HH.out.size; omega))
      have KA := fun (sx : Bool) (px : Option Addr) (cx : Nat) (lx : List Int) (w' : World) (K : Keeps wr.heap.size wr w') (N : IsNum w' sx px cx lx (V eh el)) => addN_spec s sx p px c cx lr lx _ _ w' (I.out.num.later K.below) N (by omega) (by have := N.few 9 (few_fits (isW_fits ew2)); omega)
      rw [← st] at KA
      clear heh hel ew st ew2
      obtain ⟨q0, q1, q2, q3, q4, q5⟩ := I.out.n
      have bw : b < wr.heap.size := Nat.lt_of_lt_of_le hb I.out.below.size
      have K0 := Keeps.start (Nat.le_refl wr.heap.size)
      have K1 := K0.drew
      have J0 : Keeps (w.heap.size + 1) wr wr := Keeps.start (by omega)
      have J1 := J0.drew
      obtain ⟨wo, hwo⟩ : ∃ wo : World, wo = wr := ⟨_, rfl⟩
      clear hwo
      go_wp2_with fail
      go_region_with (first
        | (go_at_call 44; (with_reducible refine (kf _).mono ?_); rintro e v20 ⟨s1, p1, c1, l1, rfl, N1, hb20⟩; have K20 := Keeps.call (B := wr.heap.size) (W := wr) (by repeat (first | assumption | refine Keeps.alloc ?_ _ | refine Keeps.drew ?_ | refine Keeps.setCell ?_ (by first | (simp; done) | omega | (simp; omega)) _)) hb20; have n0 := K20.cell q0 q5; have n1 := K20.cell q1 q5)
        | (go_at_call 47; (with_reducible refine (KA _ _ _ _ _ (by repeat (first | assumption | refine Keeps.alloc ?_ _ | refine Keeps.drew ?_ | refine Keeps.setCell ?_ (by first | (simp; done) | omega | (simp; omega)) _)) (N1.later (by repeat (first | exact Below.refl _ _ | assumption | refine Below.setCell ?_ (by first | (simp; done) | omega | (simp; omega)) _ | refine Below.drew ?_ | refine below_drewN ?_ _ | refine Below.alloc ?_ (by first | (simp; done) | omega | (simp; omega)) _)))).mono ?_); rintro e v21 ⟨s2, p2, c2, l2, rfl, N2, hb21⟩; have K21 := Keeps.call (B := wr.heap.size) (W := wr) (by repeat (first | assumption | refine Keeps.alloc ?_ _ | refine Keeps.drew ?_ | refine Keeps.setCell ?_ (by first | (simp; done) | omega | (simp; omega)) _)) hb21; have m0 := K21.cell q0 q5; have m1 := K21.cell q1 q5; have m2 := K21.free q2 q5; have m3 := K21.free q3 q5; have m5 : w.heap.size + 1 < v21.heap.size := (by have := K21.size; omega)))
      all_goals
        have F := hide (I.out.next K21.below N2)
        clear K20 K21 N1 N2 KA kf I
        go_wp2_with fail
        go_roundw
        case rel => exact ⟨k + 1, _, _, _, _, by omega, by go_num, F.out⟩
        case measure => simp [intOf]; omega
    · obtain rfl : k = len := by omega
      have num := I.out.num
      have L1 := num.few 11 (few_sum HH.out.fit k (by have := HH.out.size; omega))
      rw [List.take_of_length_le (by have := HH.out.size; omega)] at num
      have ko := fun w' (K : Below wr.heap.size wr w') => over_spec _ _ _ _ _ w' (num.later K) (by omega)
      obtain ⟨q0, q1, q2, q3, q4, q5⟩ := I.out.n
      have r0 := I.out.r0
      have r1 := I.out.r1
      have g0 := I.out.g0
      have g1 := I.out.g1
      have BI := hide I.out.below
      clear num L1 I
      go_wp2_with fail
      refine (ko _ (Below.refl _ _)).mono ?_
      clear ko
      rintro e w1 ⟨rfl, h1⟩
      have z0 : w.heap.size < wr.heap.size := by omega
      have r0' := (h1.cell (p := ⟨w.heap.size, 0, none⟩) z0).trans r0
      have r1' := (h1.cell (p := ⟨w.heap.size, 1, none⟩) z0).trans r1
      have g0' := (h1.frozen (p := ⟨w.heap.size, 0, none⟩) z0).trans g0
      have g1' := (h1.frozen (p := ⟨w.heap.size, 1, none⟩) z0).trans g1
      have z1 : w.heap.size < w1.heap.size := Nat.lt_of_lt_of_le z0 h1.size
      have BE := BI.out.trans (h1.mono BI.out.size)
      clear h1 r0 r1 g0 g1 q0 q1 q2 q3
      go_wp2_with fail
      refine bodyPost_ret (by simp [results, Try.results35, go_sem, r0', r1', g0', g1', z1]; try rfl) rfl ?_
      refine ⟨rfl, ?_⟩
      repeat (first | exact Below.refl _ _ | assumption | refine Below.setCell ?_ (by first | (simp; done) | omega | (simp; omega)) _ | refine Below.drew ?_ | refine below_drewN ?_ _ | refine Below.alloc ?_ (by first | (simp; done) | omega | (simp; omega)) _)
end Go.Proofs.Ythcgkpmlfbjagaa
