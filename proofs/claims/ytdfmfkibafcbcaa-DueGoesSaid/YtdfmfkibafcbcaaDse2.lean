/- due: All as an iterator, where more is known of what it tells. -/
import Derived.Test.YtdfmfkibafcbcaaDseq
namespace Go.Proofs.Ytdfmfkibafcbcaa
set_option linter.unusedVariables false
set_option linter.unusedSimpArgs false
open Go.RowKit W Go.Maps Go.Shelf
attribute [local go_sem] Oper.semAt_some
set_option maxRecDepth 100000 in
set_option maxHeartbeats 800000 in
theorem seq_spec2 {α : Type} (fe : α → En) {n : Nat} (hn : 1 ≤ n) {w : World} {B qb kb mb lim : Nat} {v : Value} {r : List En} (h : QA B w qb kb mb lim v r) (Rs : List α) (hRs : Rs.map fe = r) {Bx : Nat} (hx : w.cell? ⟨Bx, 0, none⟩ = some (.pointer (some ⟨qb, 0, none⟩))) (hxl : Bx < w.heap.size)
    (own : World → Nat → Prop) (o1 : ∀ k, own w k → k < w.heap.size) (o2 : ∀ W W', w.heap.size ≤ W.heap.size → Below W.heap.size W W' → ∀ k, own W' k → own W k) (o3 : ∀ W, Below w.heap.size w W → ∀ k, own W k → own w k) :
    SeqStopsK Fence.wide n Try.prog 31 #[.pointer (some ⟨Bx, 0, none⟩)] (fun x : α => #[enV (fe x)]) (KpO own) (fun ys => ys = Rs) (fun pre => pre <+: Rs) r.length w := fun l J Jx W hW hJ hJx hY h0 => by
  have x0 := (hW.cell (p := ⟨Bx, 0, none⟩) hxl).trans hx
  have xl : Bx < W.heap.size := Nat.lt_of_lt_of_le hxl hW.size
  have q := h.later hW
  have km := qmade q
  have c2 := q.q.cell 2 _ rfl
  have ql := q.q.lt
  obtain ⟨lq, hl, pm⟩ := q.hq
  have d0 := hl.kq.km.k.cell 0 _ rfl
  have dl := hl.kq.km.k.lt
  have lr : lq.length = r.length := pm.length_eq
  have kc := cloneD_spec hl.kq.km.row hl.kq.len
  have HLQ := hide hl.kq.len
  have HPM := hide pm
  have HSR := hide q.srt
  have HY := hide hY
  have H0 := hide h0
  have HJ := hide hJ
  have HW := hide hW
  have NO : Hid (∀ k, own W k → k < W.heap.size) := fun k e => Nat.lt_of_lt_of_le (o1 k (o3 W hW k e)) hW.size
  have O2 : Hid (∀ V V', W.heap.size ≤ V.heap.size → Below V.heap.size V V' → ∀ k, own V' k → own V k) := fun V V' z b => o2 V V' (Nat.le_trans hW.size z) b
  clear h hx hxl o1 o2 o3 q hl pm hY h0 hJ hW
  refine callsIn_of_wp Try.func31 rfl trivial ?_ rfl
  simp only [Try.ntmps31, List.size_toArray, List.length_cons, List.length_nil, Nat.reduceAdd, Nat.reduceSub, Array.replicate_succ, Array.replicate_zero, List.push_toArray, List.append_toArray, List.nil_append, List.cons_append]
  refine wpIn_wide.2 ?_
  go_wp2_with (go_at_call 24; refine km.mono ?_; rintro e w' ⟨rfl, rfl⟩)
  refine kc.mono ?_
  rintro e w1 ⟨v1, rfl, O1, B1⟩
  obtain ⟨a1, cp1, rfl, _, _⟩ := own_form O1
  obtain ⟨m, hm⟩ : ∃ m, m = r.length := ⟨_, rfl⟩
  have ks := sortD_spec O1 (by have := HLQ.out; omega)
  rw [lr, ← hm] at O1 ks ⊢
  have HM := hide hm
  have HLR := hide lr
  have HKS := hide ks
  have HO1 := hide O1
  have HB1 := hide B1
  clear hm kc O1 B1 ks km lr
  go_wp2_with fail
  refine HKS.out.mono ?_
  rintro e w2 ⟨rfl, L', p', s', O2', G2⟩
  have eL : L' = r := sorted_same (p'.trans HPM.out) s' HSR.out
  subst eL
  have HRS := hide hRs
  clear hRs
  have B2 : Hid (Below W.heap.size W w2) := hide (HB1.out.grown G2 HB1.out.size (fun j e => (own_old HO1.out e).1))
  have HO := hide O2'
  have A2 : Hid (LA own w2 a1 L') := hide (LA.start O2' HM.out (fun k q => NO.out k (O2.out W w2 (Nat.le_refl _) B2.out k q)))
  have J2 : Hid (J [] w2) := hide (HJ.out [] W w2 none H0.out ⟨B2.out.os, B2.out.tape, B2.out.output, B2.out.size, fun k z _ => B2.out.block k z⟩ (fun _ e => by cases e))
  have z2 := B2.out.size
  have lm : m ≤ 65536 := by have := HLQ.out; have := HLR.out; have := HM.out; omega
  clear p' s' O2' G2 HKS HO1 HB1 c2 d0 x0 ql dl H0 HO B2
  go_wp2_with fail
  refine (wpIn_wide (n := n)).1 ?_
  gi_loopw [21] (fun p wr => ∃ k : Nat, p = .int .i64 (k : Int) ∧ k ≤ m ∧ Hid (J (Rs.take k) wr) ∧ Hid (LA own wr a1 L') ∧ W.heap.size ≤ wr.heap.size) (fun p _ => m - (intOf p).toNat)
  case atStart => exact ⟨0, rfl, by omega, by rw [List.take_zero]; exact J2, A2, z2⟩
  case round =>
    obtain ⟨k, rfl, hk, Jk, Ak, zk⟩ := hrel
    by_cases hlt : k < m
    · have f1 : decide ((k : Int) < (m : Int)) = true := by rw [decide_eq_true_eq]; omega
      have f2 : decide (k < m) = true := by rw [decide_eq_true_eq]; omega
      have kL : k < L'.length := by have := HM.out; omega
      obtain ⟨g, rfl, hb, li, no⟩ := Ak.out.resolve_left (fun q => by rw [q] at kL; simp at kL)
      obtain ⟨y0, y1⟩ := li.at_ k kL
      rw [Nat.zero_add] at y0 y1
      have gl := li.lt
      obtain ⟨x, hx⟩ : ∃ x, x = L'[k] := ⟨_, rfl⟩
      rw [← hx] at y0 y1
      have kR : k < Rs.length := by have := congrArg List.length HRS.out; rw [List.length_map] at this; omega
      obtain ⟨y, hy'⟩ : ∃ y, y = Rs[k] := ⟨_, rfl⟩
      have et : Rs.take (k + 1) = Rs.take k ++ [y] := by rw [List.take_add_one, List.getElem?_eq_getElem kR, hy']; rfl
      have fy : Hid (fe y = x) := by
        show _ = _
        rw [hx, hy']
        have e1 : (Rs.map fe)[k]? = L'[k]? := by rw [HRS.out]
        rw [List.getElem?_map, List.getElem?_eq_getElem kR, List.getElem?_eq_getElem kL] at e1
        simpa using e1
      have HET := hide et
      obtain ⟨xk, xa⟩ := x
      dsimp only at y0 y1
      obtain ⟨W5, hW5⟩ : ∃ W5, W5 = wr.alloc (.cells #[.string xk, .int .i64 xa] 43) := ⟨_, rfl⟩
      have B5 : Below wr.heap.size wr W5 := by rw [hW5]; exact (Below.refl _ _).alloc (Nat.le_refl _) _
      have J5 : J (Rs.take k) W5 := HJ.out _ wr W5 none Jk.out ⟨B5.os, B5.tape, B5.output, B5.size, fun k z _ => B5.block k z⟩ (fun _ e => by cases e)
      have A5 : Hid (LA own W5 (some ⟨g, 0, none⟩) L') := hide (Ak.out.later B5 (O2.out wr W5 zk B5))
      have z5 := B5.size
      obtain ⟨fn, tmps, assign, body, hy, hR⟩ := HY.out (Rs.take k) y W5 J5 (by rw [List.length_take]; omega)
      simp only [fy.out] at hy hR
      rw [hW5] at hy hR
      clear hb li no hx et J5 HY hy' kR
      gi_wp2
      refine hR.mono ?_
      rw [← hW5]
      rintro e w6 (⟨rfl, J6, K6⟩ | ⟨rfl, X6⟩)
      · have A6 : Hid (LA own w6 (some ⟨g, 0, none⟩) L') := hide (A5.out.kp K6)
        have z6 := K6.size
        rw [← HET.out] at J6
        have HJ6 := hide J6
        clear J6 K6 hR hy
        gi_wp2
        go_roundw
        case rel => exact ⟨k + 1, by go_num, by omega, HJ6, A6, by omega⟩
        case measure => (first | (simp [intOf]; done) | (simp [intOf]; omega))
      · rw [← HET.out] at X6
        gi_wp2
        refine bodyPost_ret (results_none rfl _ _ _) rfl ?_
        exact ⟨⟨_, rfl⟩, .inr ⟨_, List.take_prefix _ _, X6⟩⟩
    · obtain rfl : k = m := by omega
      have f1 : decide ((k : Int) < (k : Int)) = false := by rw [decide_eq_false_iff_not]; omega
      have f2 : decide (k < k) = false := by rw [decide_eq_false_iff_not]; omega
      gi_wp2
      go_end0
      refine ⟨⟨_, rfl⟩, .inl ⟨_, rfl, ?_⟩⟩
      have j := Jk.out
      rw [List.take_of_length_le (by have := congrArg List.length HRS.out; rw [List.length_map] at this; have := HM.out; omega)] at j
      exact j
end Go.Proofs.Ytdfmfkibafcbcaa
