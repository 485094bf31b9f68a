/- name: the reference's reach. -/
import Derived.Test.YteahbdhhcfoiiaaDoorNra
import Derived.Test.YteahbdhhcfoiiaaDoorNrc
import Derived.Test.YteahbdhhcfoiiaaDoorNmn
namespace Go.Proofs.YteahbdhhcfoiiaaDoor
set_option linter.unusedVariables false
set_option linter.unusedSimpArgs false
open Go.RowKit W
/-- The places as the reference fills them, behind a world. -/
structure Rr (w0 W : World) (ab : Nat) (s : ByteArray) (T : List Bool) : Prop where
  below : Below w0.heap.size w0 W
  bo : Bo W ab T
  tl : T.length = s.size + 1
  lab : w0.heap.size ≤ ab
theorem Rr.drewN {w0 W : World} {ab : Nat} {s : ByteArray} {T : List Bool} (h : Rr w0 W ab s T) (n : Nat) : Rr w0 (W.drewN n) ab s T := ⟨below_drewN h.below n, h.bo, h.tl, h.lab⟩
theorem Rr.put {w0 W : World} {ab : Nat} {s : ByteArray} {T : List Bool} (h : Rr w0 W ab s T) (i : Nat) : Rr w0 (W.setCell ⟨ab, i, none⟩ (.bool true)) ab s (T.set i true) :=
  ⟨h.below.setCell h.lab _, h.bo.put i, by rw [List.length_set]; exact h.tl, h.lab⟩
theorem Rr.grow {w0 W : World} {ab : Nat} {s : ByteArray} {T : List Bool} (h : Rr w0 W ab s T) (x : Obj) : Rr w0 (W.alloc x) ab s T :=
  ⟨h.below.alloc h.below.size _, ((Below.refl W.heap.size W).alloc (Nat.le_refl _) x).block ab (blk_lt h.bo) |>.trans h.bo, h.tl, h.lab⟩
theorem cell_other {w : World} {ab i b o : Nat} {v : Value} (h : b ≠ ab) : (w.setCell ⟨ab, i, none⟩ v).cell? ⟨b, o, none⟩ = w.cell? ⟨b, o, none⟩ := World.cell?_of_block (Below.heap_setCell w ⟨ab, i, none⟩ _ b h)
theorem putW_rr {w0 W : World} {ab : Nat} {s : ByteArray} {T : List Bool} (h : Rr w0 W ab s T) (t : ByteArray) (i : Nat) : Rr w0 (putW t s i ab W) ab s (if preB t s i then T.set (i + t.size) true else T) := by
  unfold putW
  by_cases q : preB t s i = true
  · rw [if_pos q, if_pos q]; exact h.put _
  · rw [if_neg q, if_neg q]; exact h
theorem putW_cell {w : World} {ab i b o : Nat} {t s : ByteArray} (h : b ≠ ab) : (putW t s i ab w).cell? ⟨b, o, none⟩ = w.cell? ⟨b, o, none⟩ := by
  unfold putW
  by_cases q : preB t s i = true
  · rw [if_pos q]; exact cell_other h
  · rw [if_neg q]
set_option maxRecDepth 100000 in
set_option maxHeartbeats 8000000 in
theorem rreach_spec {w0 W : World} {ab : Nat} {s : ByteArray} {T : List Bool} (h : Rr w0 W ab s T) (g : Gl) (gw : GlW g) (a : Option Addr) (c : Nat) (ha : IsTxts w0 a g.al) (hs : s.size ≤ 200) (i : Nat) (hi : i ≤ s.size) (hk : 1 ≤ g.k ∧ g.k ≤ 5) :
    Calls Tryd.prog 70 #[gV g a c, .string s, .int .i64 (i : Int), .slice (some ⟨ab, 0, none⟩) (s.size + 1) (s.size + 1)] W fun e w' => e = .returned (.tuple #[]) ∧ Rr w0 w' ab s (addR g s T i) := by
  unfold gV
  have bl := blk_lt h.bo
  have H := hide h
  have tl := hide h.tl
  have gt := gw.t
  by_cases k2 : g.k = 2
  · rw [k2, addR_any k2]
    clear h hk k2
    go_enter Tryd.func70, Tryd.ntmps70
    go_wp2_with fail
    go_loopw [8] (fun t wr => ∃ q : Nat, i ≤ q ∧ q ≤ s.size + 1 ∧ t = .int .i64 (q : Int) ∧ Hid (Rr w0 wr ab s (anyR s T i q))) (fun t _ => s.size + 1 - (intOf t).toNat)
    case atStart => exact ⟨i, by omega, by omega, rfl, hide (by rw [anyR_start _ _ _ tl.out]; exact H.out.grow _)⟩
    case round =>
      obtain ⟨q, h1, h2, rfl, R⟩ := hrel
      by_cases hq : q ≤ s.size
      · have b0 := R.out.bo.at q (by rw [R.out.tl]; omega)
        have bf := R.out.bo.free q
        have b2 := blk_lt R.out.bo
        have R2 : Hid (Rr w0 (wr.setCell ⟨ab, q, none⟩ (.bool true)) ab s (anyR s T i (q + 1))) := by show Rr _ _ _ _ _; rw [anyR_step s T i q h1 hq]; exact R.out.put q
        go_wp2_with fail
        go_roundw
        case rel => exact ⟨q + 1, by omega, by omega, by go_num, R2⟩
        case measure => simp [intOf]; omega
      · obtain rfl : q = s.size + 1 := by omega
        go_wp2_with fail
        go_end0
        exact ⟨rfl, R.out⟩
  have k2b : (g.k == 2) = false := by rw [beq_eq_false_iff_ne]; exact k2
  by_cases k3 : g.k = 3
  · by_cases hq : i < s.size
    · have b0 := (h.grow (.cells #[.int .i64 3, .string g.t, .slice a g.al.length c] 66)).bo.at (i + 1) (by rw [h.tl]; omega)
      have bf := (h.grow (.cells #[.int .i64 3, .string g.t, .slice a g.al.length c] 66)).bo.free (i + 1)
      rw [k3]
      rw [addR_one (g := g) (i := i) h.tl (show i + 1 < s.size + 1 by omega) (fun j _ => by unfold goB; rw [k3]; simp [hq])]
      clear h hk k3 k2 k2b
      go_enter Tryd.func70, Tryd.ntmps70
      go_wp2_with fail
      go_end0
      exact ⟨rfl, (H.out.put (i + 1)).grow _⟩
    · rw [k3]
      rw [addR_none h.tl (fun j _ => by unfold goB; rw [k3]; simp [hq])]
      clear h hk k3 k2 k2b
      go_enter Tryd.func70, Tryd.ntmps70
      go_wp2_with fail
      go_end0
      exact ⟨rfl, H.out.grow _⟩
  have k3b : (g.k == 3) = false := by rw [beq_eq_false_iff_ne]; exact k3
  by_cases k4 : g.k = 4
  · by_cases hq : i < s.size
    · have d1 : decide (i < s.size) = true := by simpa using hq
      have b0 := (h.grow (.cells #[.int .i64 4, .string g.t, .slice a g.al.length c] 66)).bo.at (i + 1) (by rw [h.tl]; omega)
      have bf := (h.grow (.cells #[.int .i64 4, .string g.t, .slice a g.al.length c] 66)).bo.free (i + 1)
      have nx1 := nx_lt hq
      obtain ⟨t, ht⟩ : ∃ t, g.t.data.toList.contains s[i] = t := ⟨_, rfl⟩
      have kx := fun w => rhas_spec g.t gt s[i] t ht w
      cases t
      · rw [k4]
        rw [addR_none h.tl (fun j _ => by unfold goB; rw [k4]; rw [nx1, ht]; simp)]
        clear h hk k4 k2 k2b k3 k3b ht nx1 b0 bf
        go_enter Tryd.func70, Tryd.ntmps70
        go_wp2_with fail
        go_quiet ((go_at_call 95; exact quiet_calc (kx _)))
        go_wp2_with fail
        go_end0
        exact ⟨rfl, (H.out.grow _).drewN _⟩
      · rw [k4]
        rw [addR_one (g := g) (i := i) h.tl (show i + 1 < s.size + 1 by omega) (fun j _ => by unfold goB; rw [k4]; rw [nx1, ht]; simp [hq])]
        clear h hk k4 k2 k2b k3 k3b ht nx1
        go_enter Tryd.func70, Tryd.ntmps70
        go_wp2_with fail
        go_quiet ((go_at_call 95; exact quiet_calc (kx _)))
        go_wp2_with fail
        go_end0
        exact ⟨rfl, ((H.out.grow _).drewN _).put (i + 1)⟩
    · have d1 : decide (i < s.size) = false := by simpa using hq
      rw [k4]
      rw [addR_none h.tl (fun j _ => by unfold goB; rw [k4]; simp [hq])]
      clear h hk k4 k2 k2b k3 k3b
      go_enter Tryd.func70, Tryd.ntmps70
      go_wp2_with fail
      go_quiet (fail)
      go_wp2_with fail
      go_end0
      exact ⟨rfl, (H.out.grow _).drewN _⟩
  have k4b : (g.k == 4) = false := by rw [beq_eq_false_iff_ne]; exact k4
  by_cases k1 : g.k = 1
  · have e : addR g s T i = if preB g.t s i then T.set (i + g.t.size) true else T := by
      by_cases q : preB g.t s i = true
      · rw [if_pos q]
        have := pre_le q hi
        exact addR_one h.tl (by omega) (fun j _ => by unfold goB; rw [k1]; simp [q])
      · rw [if_neg q]
        exact addR_none h.tl (fun j _ => by unfold goB; rw [k1]; simp [q])
    rw [k1]
    have EQ := hide e
    have kp := rput_spec g.t s hs gt i ab hi T _ (h.grow (.cells #[.int .i64 1, .string g.t, .slice a g.al.length c] 66)).bo h.tl
    clear h hk k1 k2 k2b k3 k3b k4 k4b e
    go_enter Tryd.func70, Tryd.ntmps70
    go_wp2_with (go_at_call 96; refine Calls.mono kp ?_; rintro e w1 ⟨rfl, rfl⟩)
    go_end0
    exact ⟨rfl, by rw [EQ.out]; exact putW_rr (H.out.grow _) _ _⟩
  have k5 : g.k = 5 := by omega
  rw [addR_alts k5, k5]
  have gn := gw.n
  have GA := hide gw.a
  have HA := hide ha
  obtain ⟨al, hal⟩ : ∃ al, al = g.al := ⟨_, rfl⟩
  rw [← hal] at gn GA HA ⊢
  obtain ⟨n, hn⟩ : ∃ n, n = al.length := ⟨_, rfl⟩
  have HN := hide hn
  rw [← hn] at gn ⊢
  clear h hk k1 k2 k2b k3 k3b k4 k4b k5 hn hal ha gw
  go_enter Tryd.func70, Tryd.ntmps70
  go_wp2_with fail
  go_loopw [9] (fun t wr => ∃ q : Nat, q ≤ n ∧ t = .int .i64 (q : Int) ∧ Hid (Rr w0 wr ab s (altR s T i (al.take q))) ∧ Hid (wr.cell? ⟨W.heap.size, 2, none⟩ = some (.slice a n c))) (fun t _ => n - (intOf t).toNat)
  case atStart => exact ⟨0, by omega, rfl, hide (by rw [List.take_zero, altR_nil _ _ _ tl.out]; exact H.out.grow _), hide (by simp [go_sem])⟩
  case round =>
    obtain ⟨q, hq, rfl, R, C2⟩ := hrel
    have c2 := C2.out
    by_cases hlt : q < n
    · have ql : q < al.length := by have := HN.out; omega
      obtain ⟨b, o, rfl, LA⟩ := (HA.out.later R.out.below).resolve_left (by intro e; rw [e] at ql; simp at ql)
      have c0 := LA.cell q ql
      have lg := LA.lt
      have kp := rput_spec al[q] s hs (GA.out _ (List.getElem_mem _)) i ab hi (altR s T i (al.take q)) wr R.out.bo (altR_len _ _ _ _)
      have e : altR s T i (al.take (q + 1)) = if preB al[q] s i then (altR s T i (al.take q)).set (i + al[q].size) true else altR s T i (al.take q) := by
        rw [List.take_succ_eq_append_getElem ql]
        by_cases u : preB al[q] s i = true
        · rw [if_pos u]; exact altR_yes _ _ _ _ _ u hi
        · rw [if_neg u]; exact altR_no _ _ _ _ _ (by simpa using u)
      have R2 : Hid (Rr w0 (putW al[q] s i ab wr) ab s (altR s T i (al.take (q + 1)))) := by show Rr _ _ _ _ _; rw [e]; exact putW_rr R.out _ _
      have C3 : Hid ((putW al[q] s i ab wr).cell? ⟨W.heap.size, 2, none⟩ = some (.slice (some ⟨b, o, none⟩) n c)) := (putW_cell (by omega)).trans C2.out
      obtain ⟨x, hx⟩ : ∃ x, x = al[q] := ⟨_, rfl⟩
      rw [← hx] at c0 kp R2 C3
      clear LA e hx
      go_wp2_with (go_at_call 96; refine Calls.mono kp ?_; rintro e w1 ⟨rfl, rfl⟩)
      go_roundw
      case rel => exact ⟨q + 1, by omega, by go_num, R2, C3⟩
      case measure => simp [intOf]; omega
    · obtain rfl : q = n := by omega
      have F : Hid (al.take q = al) := by show _ = _; rw [HN.out, List.take_length]
      go_wp2_with fail
      go_end0
      exact ⟨rfl, by have := R.out; rw [F.out] at this; exact this⟩
end Go.Proofs.YteahbdhhcfoiiaaDoor
