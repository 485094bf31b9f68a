/- Texts that belong together: Qn Qnb Lawdn FDueNobody. -/
import Derived.Test.YtbnlhjooimppeaaG03
import Derived.RangeFuncWrites
import Derived.RangeFuncNested
import Derived.RangeFuncBound
import Derived.RangeFuncCalls
import Derived.RangeFuncLeaves
import Derived.Shelf.Abstract
import Derived.Shelf.RegionOpen
import Derived.WalkKit
import Derived.OwnWalkIn
import Derived.TacticsInMore
import Derived.LoopNIn
import Derived.LoopIn
import Derived.Test.YtbnlhjooimppeaaRows
import Derived.ProofKit
import Derived.OpenShut
import Derived.ShutString
import Derived.ChangeOld
import Derived.Below
import Derived.SizedLaws
import Derived.Deep.SlicePairs
set_option linter.unusedSimpArgs false
set_option linter.unusedVariables false
/- due: queues that nobody made. -/
namespace Go.Proofs.Ytbnlhjooimppeaa
set_option linter.unusedVariables false
set_option linter.unusedSimpArgs false
open Go.RowKit W Go.Maps
/-- No queue, or one that New did not make. -/
def UnQ (w : World) (v : Value) : Prop := v = .pointer none ∨ ∃ b, v = .pointer (some ⟨b, 0, none⟩) ∧ w.cell? ⟨b, 0, none⟩ = some (.pointer none) ∧ b < w.heap.size
theorem UnQ.later {w w' : World} {v : Value} (h : UnQ w v) (k : Below w.heap.size w w') : UnQ w' v := by
  rcases h with h | ⟨b, h, c, l⟩
  · exact .inl h
  · exact .inr ⟨b, h, (k.cell (p := ⟨b, 0, none⟩) l).trans c, Nat.lt_of_lt_of_le l k.size⟩
set_option maxRecDepth 100000 in
theorem qmade_not {w : World} {v : Value} (h : UnQ w v) : CalcN 44 #[v] w (.bool false) := by
  rcases h with rfl | ⟨b, rfl, c0, lt⟩
  · go_enter Try.func44, Try.ntmps44
    go_wp2
    go_returns
    exact ⟨rfl, rfl⟩
  · have q : ∀ w, (binOp .eql 23 (.pointer none) (.pointer (some ⟨b, 0, none⟩))).run Try.prog w = .ok (.bool false) w := fun _ => by kernel_rfl
    go_enter Try.func44, Try.ntmps44
    go_wp2
    go_returns
    exact ⟨rfl, rfl⟩
set_option maxRecDepth 100000 in
theorem qlen_not {w : World} {v : Value} (h : UnQ w v) : CalcN 18 #[v] w (.int .i64 0) := by
  have k := qmade_not h
  clear h
  go_enter Try.func18, Try.ntmps18
  go_wp2_with (go_at_call 44; refine k.mono ?_; rintro e w' ⟨rfl, rfl⟩)
  go_returns
  exact ⟨rfl, rfl⟩
set_option maxRecDepth 100000 in
theorem qset_not {w : World} {v : Value} (h : UnQ w v) (nm : ByteArray) (a : Int) : CalcN 21 #[v, .string nm, .int .i64 a] w (.int .i64 4) := by
  have k := qmade_not h
  clear h
  go_enter Try.func21, Try.ntmps21
  go_wp2_with (go_at_call 44; refine k.mono ?_; rintro e w' ⟨rfl, rfl⟩)
  go_returns
  exact ⟨rfl, rfl⟩
set_option maxRecDepth 100000 in
theorem qdrop_not {w : World} {v : Value} (h : UnQ w v) (nm : ByteArray) : CalcN 28 #[v, .string nm] w (.bool false) := by
  have k := qmade_not h
  clear h
  go_enter Try.func28, Try.ntmps28
  go_wp2_with (go_at_call 44; refine k.mono ?_; rintro e w' ⟨rfl, rfl⟩)
  go_returns
  exact ⟨rfl, rfl⟩
set_option maxRecDepth 100000 in
theorem qat_not {w : World} {v : Value} (h : UnQ w v) (nm : ByteArray) : CalcN 24 #[v, .string nm] w (.tuple #[.int .i64 0, .bool false]) := by
  have k := qmade_not h
  clear h
  go_enter Try.func24, Try.ntmps24
  go_wp2_with (go_at_call 44; refine k.mono ?_; rintro e w' ⟨rfl, rfl⟩)
  go_returns
  exact ⟨rfl, rfl⟩
set_option maxRecDepth 100000 in
theorem qnext_not {w : World} {v : Value} (h : UnQ w v) : Calls Try.prog 25 #[v] w fun e w' => e = .returned (.tuple #[.agg #[.string ByteArray.empty, .int .i64 0], .bool false]) ∧ Below w.heap.size w w' := by
  have k := fun W (b : Below w.heap.size w W) => qlen_not (h.later b)
  clear h
  go_enter Try.func25, Try.ntmps25
  go_wp2_with (go_at_call 18; (with_reducible refine Calls.mono (k _ (by go_grown)) ?_); rintro e w' ⟨rfl, rfl⟩)
  go_returns
  exact ⟨rfl, by go_grown⟩
set_option maxRecDepth 100000 in
theorem qtake_not {w : World} {v : Value} (h : UnQ w v) (n : Int) : Calls Try.prog 22 #[v, .int .i64 n] w fun e w' => e = .returned (.slice none 0 0) ∧ Below w.heap.size w w' := by
  have k := fun W (b : Below w.heap.size w W) => qnext_not (h.later b)
  clear h
  go_enter Try.func22, Try.ntmps22
  go_wp2_with fail
  go_loopw [5] (fun s5 wr => s5 = .slice none 0 0 ∧ Below w.heap.size w wr) (fun _ _ => 0)
  case atStart => exact ⟨rfl, by go_grown⟩
  case round =>
    obtain ⟨rfl, hb⟩ := hrel
    have z := hb.size
    go_wp2_with (go_at_call 25; (with_reducible refine Calls.mono (k _ hb) ?_); rintro e w1 ⟨rfl, b1⟩)
    go_returns
    exact ⟨rfl, (hb.trans (b1.mono z)).alloc (by have := b1.size; omega) _⟩
set_option maxRecDepth 100000 in
theorem qall_call (w : World) (p : Option Addr) : Calls Try.prog 27 #[.pointer p] w fun e w' => e = .returned (.func (.func 51) #[] #[.pointer (some ⟨w.heap.size, 0, none⟩)]) ∧ w' = w.alloc (.cells #[.pointer p] 23) := by
  go_enter Try.func27, Try.ntmps27
  go_wp2_with fail
  go_returns
  exact ⟨rfl, rfl⟩
end Go.Proofs.Ytbnlhjooimppeaa
/- due: ranging over a queue that nobody made. -/
namespace Go.Proofs.Ytbnlhjooimppeaa
set_option linter.unusedVariables false
set_option linter.unusedSimpArgs false
open Go.RowKit W Go.Maps Go.Shelf
set_option maxRecDepth 100000 in
theorem qseq_not {n : Nat} {w : World} {v : Value} {B : Nat} (h : UnQ w v) (hb : w.cell? ⟨B, 0, none⟩ = some v) (hl : B < w.heap.size) :
    SeqStopsK Fence.wide n Try.prog 51 #[.pointer (some ⟨B, 0, none⟩)] (fun x : Empty => x.elim) (Below w.heap.size) (fun _ => True) (fun _ => False) 0 w := fun l J Jx W hW hJ hJx hY h0 => callsIn_wide.2 (by
  have c := (hW.cell (p := ⟨B, 0, none⟩) hl).trans hb
  have k := qmade_not (h.later hW)
  show Calls _ _ #[.func (.yield l) #[] #[], .pointer (some ⟨B, 0, none⟩)] _ _
  clear hY h hb hW hJ hJx
  go_enter Try.func51, Try.ntmps51
  go_wp2_with (go_at_call 44; refine k.mono ?_; rintro e w' ⟨rfl, rfl⟩)
  refine bodyPost_ret (results_none rfl _ _ _) rfl ?_
  exact ⟨⟨_, rfl⟩, .inl ⟨[], trivial, h0⟩⟩)
set_option maxRecDepth 100000 in
theorem lall_not {w : World} {p : Option Addr} (h : UnQ w (.pointer p)) (most : Int) : Calls Try.prog 20 #[.pointer p, .int .i64 most] w fun e w' => e = .returned (.slice none 0 0) ∧ Below w.heap.size w w' := by
  refine (callsIn_wide (n := 3)).1 (callsIn_of_wp_marks Try.func20 rfl trivial ?_ rfl)
  simp only [Try.ntmps20, List.size_toArray, List.length_cons, List.length_nil, Nat.reduceAdd, Nat.reduceSub, Array.replicate_succ, Array.replicate_zero, List.push_toArray, List.append_toArray, List.nil_append, List.cons_append]
  refine wpIn_wide.2 ?_
  go_wp2_with (go_at_call 27; refine (qall_call _ _).mono ?_; rintro e w1 ⟨rfl, rfl⟩)
  have hB0 : Below w.heap.size w (((w.alloc (.cells #[.int .i64 most] 3)).alloc (.cells #[.slice none 0 0] 27)).alloc (.cells #[.pointer p] 23)) := (((Below.refl _ w).alloc (Nat.le_refl _) _).alloc (by simp) _).alloc (by simp; omega) _
  refine (wpIn_wide (n := 3)).1 (wpIn_rangeFunc_ownF (F := Fence.wide) rfl (by decide) (gf := 51) (lb := #[.pointer (some ⟨w.heap.size + 1 + 1, 0, none⟩)]) rfl trivial (enters_of Try.func51 (by kernel_rfl) rfl)
    (qseq_not (h.later hB0) (by simp [go_sem]) (by simp)) belowK_t (belowK_b (Nat.le_refl _)) (Below.refl _ _) (fun x => x.elim)
    (fun pre W => (W.cell? ⟨w.heap.size + 1, 0, none⟩ = some (.slice none 0 0)) ∧ Below w.heap.size w W)
    (fun _ _ _ => False)
    (OwnFrom.and (Own.from (fun s A B row hs hg hr => cell_kept hs hg hr) _) (ownFrom_below (Nat.le_refl _) (by simp; omega)))
    (fun _ _ _ _ _ hs _ _ => hs)
    ⟨by simp [go_sem], hB0⟩
    (fun x => x.elim) ?assign ?body ?done ?stop)
  case assign => exact fun _ x => x.elim
  case body => exact fun _ _ x => x.elim
  case done =>
    rintro D ys W hD _ ⟨hc, hB⟩ hK
    go_wp2
    refine ⟨by simp, .inl ⟨_, _, rfl, run_takeDeferred hK, ?_⟩⟩
    exact ⟨_, results_tmp rfl _ _ _, rfl, hB.trans (belowK_b (w := w) (Nat.le_refl _) W D _ _ (by simp at hD; omega) hK rfl rfl)⟩
  case stop =>
    rintro D c pre W _ h
    exact h.elim
end Go.Proofs.Ytbnlhjooimppeaa
/- due: DueNobody. -/
namespace Go.Proofs.Ytbnlhjooimppeaa
set_option linter.unusedVariables false
set_option linter.unusedSimpArgs false
open Go.RowKit W Go.Maps
theorem abs_callsQ {P : Program} {f : Nat} {args : Array Value} {Q : Ending → World → Prop} {w : World} (F : World → Prop) (hF : F w) (h : ∀ W, F W → Calls P f args W Q) : Calls P f args w Q := h w hF
set_option maxRecDepth 100000 in
set_option maxHeartbeats 8000000 in
theorem law_DueNobody (s : ByteArray) (a : Int) (hs : s.size ≤ 140737488351232) (W : World) :
    Calls Try.prog 7 #[.string s, .int .i64 a] W fun e w' => e = .returned (.bool true) ∧ Below W.heap.size W w' := by
  have kg := fun W v (h : UnQ W v) => qat_not h s
  have kn := fun W v (h : UnQ W v) => qnext_not h
  have ka := alive7_spec
  have kh := fun W v (h : UnQ W v) => qset_not h s a
  have kd := fun W v (h : UnQ W v) => qdrop_not h s
  have kL := fun W v (h : UnQ W v) => qlen_not h
  have kt := fun W v (h : UnQ W v) => qtake_not h a
  have kl := fun W p (h : UnQ W (.pointer p)) => lall_not h 2
  go_enter Try.func7, Try.ntmps7
  go_wp2_with fail
  have U0 : UnQ (W.alloc (.cells #[.pointer none, .int .i64 0, .pointer none] 59)) (.pointer (some ⟨W.heap.size, 0, none⟩)) := .inr ⟨_, rfl, by simp [go_sem], by simp⟩
  obtain ⟨W0, hW0⟩ : ∃ W0, W0 = W.alloc (.cells #[.pointer none, .int .i64 0, .pointer none] 59) := ⟨_, rfl⟩
  have B0 : Hid (Below W.heap.size W W0) := by rw [hW0]; exact hide ((Below.refl _ _).alloc (Nat.le_refl _) _)
  rw [← hW0] at U0 ⊢
  clear hW0
  have kg0 := kg W0 _ (.inl rfl)
  have kg1 := kg W0 _ U0
  refine (kg0).mono ?_
  rintro e w' ⟨rfl, rfl⟩
  go_wp2_with (go_at_call 24; (with_reducible refine Calls.mono kg1 ?_); rintro e w' ⟨rfl, rfl⟩)
  refine (kn _ _ (.inl rfl)).mono ?_
  rintro e w1 ⟨rfl, b1⟩
  have z0 := B0.out.size
  have z1 := b1.size
  have U1 := U0.later b1
  have B1 : Hid (Below W.heap.size W w1) := hide (B0.out.trans (b1.mono z0))
  go_wp2_with fail
  have U2 := U1.later ((Below.refl w1.heap.size w1).alloc (Nat.le_refl _) (.cells #[.string ByteArray.empty, .int .i64 0] 43))
  refine (kn _ _ U2).mono ?_
  rintro e w2 ⟨rfl, b2⟩
  have zz := B1.out.size
  have c0 : w2.cell? ⟨w1.heap.size, 0, none⟩ = some (.string ByteArray.empty) := (b2.cell (p := ⟨w1.heap.size, 0, none⟩) (by simp)).trans (by simp [go_sem])
  have c1 : w2.cell? ⟨w1.heap.size, 1, none⟩ = some (.int .i64 0) := (b2.cell (p := ⟨w1.heap.size, 1, none⟩) (by simp)).trans (by simp [go_sem])
  have U3 := U2.later b2
  have B2 : Hid (Below W.heap.size W w2) := hide ((B1.out.alloc zz _).trans (b2.mono (by simp; omega)))
  have l1 : w1.heap.size < w2.heap.size := by have := b2.size; simp at this; omega
  clear U0 U1 U2 b1 b2 kg0 kg1 B0 B1 z0 z1
  go_wp2_with fail
  refine abs_callsQ (fun V => Hid (Below W.heap.size W V) ∧ UnQ V (.pointer (some ⟨W.heap.size, 0, none⟩))) ?_ ?_
  · have zb := B2.out.size
    have bz := (Below.refl w2.heap.size w2).alloc (Nat.le_refl _) (.cells #[.string ByteArray.empty, .int .i64 0] 43)
    exact ⟨hide (B2.out.alloc zb _), U3.later bz⟩
  rintro V ⟨BV, UV⟩
  refine (ka _).mono ?_
  rintro e w3 ⟨rfl, b3⟩
  have U4 := UV.later b3
  have B3 := hide (BV.out.trans (b3.mono BV.out.size))
  have kh0 := fun V (q : Below w3.heap.size w3 V) => kh V _ (.inl rfl)
  have kh1 := fun V (q : Below w3.heap.size w3 V) => kh V _ (U4.later q)
  have kd0 := fun V (q : Below w3.heap.size w3 V) => kd V _ (.inl rfl)
  have kd1 := fun V (q : Below w3.heap.size w3 V) => kd V _ (U4.later q)
  have kL0 := fun V (q : Below w3.heap.size w3 V) => kL V _ (.inl rfl)
  have kL1 := fun V (q : Below w3.heap.size w3 V) => kL V _ (U4.later q)
  have kt0 : ∀ V, Below w3.heap.size w3 V → Calls Try.prog 22 #[.pointer none, .int .i64 a] V fun e w' => e = .returned (.slice none 0 0) ∧ Hid (Below w3.heap.size w3 w') := fun V q => (kt V _ (.inl rfl)).mono (fun e w' h => ⟨h.1, q.trans (h.2.mono q.size)⟩)
  have kt1 : ∀ V, Below w3.heap.size w3 V → Calls Try.prog 22 #[.pointer (some ⟨W.heap.size, 0, none⟩), .int .i64 a] V fun e w' => e = .returned (.slice none 0 0) ∧ Hid (Below w3.heap.size w3 w') := fun V q => (kt V _ (U4.later q)).mono (fun e w' h => ⟨h.1, q.trans (h.2.mono q.size)⟩)
  have kl0 : ∀ V, Below w3.heap.size w3 V → Calls Try.prog 20 #[.pointer none, .int .i64 2] V fun e w' => e = .returned (.slice none 0 0) ∧ Hid (Below w3.heap.size w3 w') := fun V q => (kl V _ (.inl rfl)).mono (fun e w' h => ⟨h.1, q.trans (h.2.mono q.size)⟩)
  have kl1 : ∀ V, Below w3.heap.size w3 V → Calls Try.prog 20 #[.pointer (some ⟨W.heap.size, 0, none⟩), .int .i64 2] V fun e w' => e = .returned (.slice none 0 0) ∧ Hid (Below w3.heap.size w3 w') := fun V q => (kl V _ (U4.later q)).mono (fun e w' h => ⟨h.1, q.trans (h.2.mono q.size)⟩)
  clear kg kn ka kh kd kL kt kl U3 UV b3 c0 c1 B2 BV
  go_wp2_with (first
    | (go_at_call 21; (first | (with_reducible refine Calls.mono (kh0 _ (by first | exact Below.refl _ _ | exact (Below.refl _ _).drew | exact below_drewN (Below.refl _ _) _ | exact B4.out | exact B4.out.drew | exact below_drewN B4.out _ | exact B5.out | exact B5.out.drew | exact below_drewN B5.out _ | exact B6.out | exact B6.out.drew | exact below_drewN B6.out _ | exact B7.out | exact B7.out.drew | exact below_drewN B7.out _)) ?_) | (with_reducible refine Calls.mono (kh1 _ (by first | exact Below.refl _ _ | exact (Below.refl _ _).drew | exact below_drewN (Below.refl _ _) _ | exact B4.out | exact B4.out.drew | exact below_drewN B4.out _ | exact B5.out | exact B5.out.drew | exact below_drewN B5.out _ | exact B6.out | exact B6.out.drew | exact below_drewN B6.out _ | exact B7.out | exact B7.out.drew | exact below_drewN B7.out _)) ?_)); rintro e w' ⟨rfl, rfl⟩)
    | (go_at_call 28; (first | (with_reducible refine Calls.mono (kd0 _ (by first | exact Below.refl _ _ | exact (Below.refl _ _).drew | exact below_drewN (Below.refl _ _) _ | exact B4.out | exact B4.out.drew | exact below_drewN B4.out _ | exact B5.out | exact B5.out.drew | exact below_drewN B5.out _ | exact B6.out | exact B6.out.drew | exact below_drewN B6.out _ | exact B7.out | exact B7.out.drew | exact below_drewN B7.out _)) ?_) | (with_reducible refine Calls.mono (kd1 _ (by first | exact Below.refl _ _ | exact (Below.refl _ _).drew | exact below_drewN (Below.refl _ _) _ | exact B4.out | exact B4.out.drew | exact below_drewN B4.out _ | exact B5.out | exact B5.out.drew | exact below_drewN B5.out _ | exact B6.out | exact B6.out.drew | exact below_drewN B6.out _ | exact B7.out | exact B7.out.drew | exact below_drewN B7.out _)) ?_)); rintro e w' ⟨rfl, rfl⟩)
    | (go_at_call 18; (first | (with_reducible refine Calls.mono (kL0 _ (by first | exact Below.refl _ _ | exact (Below.refl _ _).drew | exact below_drewN (Below.refl _ _) _ | exact B4.out | exact B4.out.drew | exact below_drewN B4.out _ | exact B5.out | exact B5.out.drew | exact below_drewN B5.out _ | exact B6.out | exact B6.out.drew | exact below_drewN B6.out _ | exact B7.out | exact B7.out.drew | exact below_drewN B7.out _)) ?_) | (with_reducible refine Calls.mono (kL1 _ (by first | exact Below.refl _ _ | exact (Below.refl _ _).drew | exact below_drewN (Below.refl _ _) _ | exact B4.out | exact B4.out.drew | exact below_drewN B4.out _ | exact B5.out | exact B5.out.drew | exact below_drewN B5.out _ | exact B6.out | exact B6.out.drew | exact below_drewN B6.out _ | exact B7.out | exact B7.out.drew | exact below_drewN B7.out _)) ?_)); rintro e w' ⟨rfl, rfl⟩)
    | (go_at_call 22; (with_reducible refine Calls.mono (kt0 _ (by first | exact Below.refl _ _ | exact (Below.refl _ _).drew | exact below_drewN (Below.refl _ _) _ | exact B4.out | exact B4.out.drew | exact below_drewN B4.out _ | exact B5.out | exact B5.out.drew | exact below_drewN B5.out _ | exact B6.out | exact B6.out.drew | exact below_drewN B6.out _ | exact B7.out | exact B7.out.drew | exact below_drewN B7.out _)) ?_); rintro e w4 ⟨rfl, B4⟩)
    | (go_at_call 22; (with_reducible refine Calls.mono (kt1 _ (by first | exact Below.refl _ _ | exact (Below.refl _ _).drew | exact below_drewN (Below.refl _ _) _ | exact B4.out | exact B4.out.drew | exact below_drewN B4.out _ | exact B5.out | exact B5.out.drew | exact below_drewN B5.out _ | exact B6.out | exact B6.out.drew | exact below_drewN B6.out _ | exact B7.out | exact B7.out.drew | exact below_drewN B7.out _)) ?_); rintro e w5 ⟨rfl, B5⟩)
    | (go_at_call 20; (with_reducible refine Calls.mono (kl0 _ (by first | exact Below.refl _ _ | exact (Below.refl _ _).drew | exact below_drewN (Below.refl _ _) _ | exact B4.out | exact B4.out.drew | exact below_drewN B4.out _ | exact B5.out | exact B5.out.drew | exact below_drewN B5.out _ | exact B6.out | exact B6.out.drew | exact below_drewN B6.out _ | exact B7.out | exact B7.out.drew | exact below_drewN B7.out _)) ?_); rintro e w6 ⟨rfl, B6⟩)
    | (go_at_call 20; (with_reducible refine Calls.mono (kl1 _ (by first | exact Below.refl _ _ | exact (Below.refl _ _).drew | exact below_drewN (Below.refl _ _) _ | exact B4.out | exact B4.out.drew | exact below_drewN B4.out _ | exact B5.out | exact B5.out.drew | exact below_drewN B5.out _ | exact B6.out | exact B6.out.drew | exact below_drewN B6.out _ | exact B7.out | exact B7.out.drew | exact below_drewN B7.out _)) ?_); rintro e w7 ⟨rfl, B7⟩))
  go_returns
  exact ⟨rfl, B3.out.trans ((by first | exact B7.out | exact B7.out.drew | exact below_drewN B7.out _ : Below w3.heap.size w3 _).mono B3.out.size)⟩
end Go.Proofs.Ytbnlhjooimppeaa
/-
  DueNobody: for every input the law returns true, and each argument reads afterwards as it read before. No condition on the input.
-/
namespace Go.Proofs.Ytbnlhjooimppeaa.dueNobody
open Go.ChangeShapes Go.WideShapes Go.ChangeAt Go.RowKit Go.Deep W
open Go.ChangeMaps (open_string shut_string)
set_option linter.unusedVariables false
theorem own : ownKnob Try.prog.godebug = none := by kernel_rfl
theorem laidOut : laidOutB Try.prog = true := by kernel_rfl
set_option maxRecDepth 100000 in
theorem lifted (os : Os) (started : os.Started) (H : Type) (enc : TypeId × Value → H) :
    ReturnsInHanded {} Try.checked os 7 .any (Rows.dueNobodySpec.pre6 enc Try.prog Try.f7 Rows.dueNobodyRow.domain false) (Rows.dueNobodySpec.post enc Try.prog Try.f7 false true false false) := by
  refine returnsInHanded_of_change_sized (C := Try.checked) own started (by kernel_rfl) Try.func7
    (ChangeSpec.witness6 (enc := enc) (C := Try.checked) false ⟨#[], #[.string ByteArray.empty, .int .i64 0], []⟩ 8 (by kernel_rfl) (by kernel_rfl) (by kernel_rfl) (by kernel_rfl)) ?_
  intro W base args ds gs before hval0 hW hcnd hsz0 _
  have hsz : (DataW.weightsEach Try.prog (Try.f7.params.toList ++ Rows.dueNobodySpec.plain.varTypes Try.prog) (ds ++ gs)).all (· ≤ reachBytes) = true := hsz0
  clear hsz0
  have hval : ∀ (j : Nat) t v, Try.f7.params[j]? = some t → args[j]? = some v → Value.okWide Try.prog W .any base t v := hval0
  have hW' := hW
  obtain ⟨p, q, hA0, hV, rfl, hfz, hnd⟩ := hW
  have hA : DataW.TrodAll enc Try.prog W 0 (fun _ => true) true Try.f7.params.toList args.toList ds p := hA0
  rw [Try.params7] at hA hval hsz
  obtain ⟨v0, vs0, d0, ds0, p0, q0, hargs, rfl, rfl, h0, r0⟩ := trodAll_cons hA
  obtain ⟨v1, vs1, d1, ds1, p1, q1, rfl, rfl, rfl, h1, r1⟩ := trodAll_cons r0
  obtain ⟨rfl, rfl, rfl⟩ := trodAll_nil r1
  obtain rfl : args = #[v0, v1] := by cases args; simp_all
  obtain ⟨rfl, rfl⟩ := trodVars_none hV
  obtain ⟨a0, rfl, rfl, rfl, w0⟩ := open_string Try.underlying9 (hval 0 9 v0 rfl rfl) h0
  have s0 : a0.size ≤ 140737488351232 := by
    have h1 := sized_string hsz (j := 0) (t := 9) rfl rfl
    have h2 : reachBytes ≤ 140737488351232 := by decide
    rw [show a0.data.toList.length = a0.size by simp] at h1
    omega
  obtain ⟨a1, rfl, rfl, rfl, w1⟩ := open_int Try.underlying2 (hval 1 2 v1 rfl rfl) h1
  clear hA0 hval0 hsz
  refine (Go.Proofs.Ytbnlhjooimppeaa.law_DueNobody a0 a1 s0 W ).mono fun e W' ⟨he, bel⟩ => ?_
  subst he
  exact ⟨_, rfl, _, _, _, [], _, [], hW', trodAll_mk1 (shut_bool Try.underlying4 _), (trodAll_cons_mk (shut_string Try.underlying9 w0) (trodAll_cons_mk (shut_int Try.underlying2 w1) trodAll_mk0)), rfl, bel.frame _, fun h => by cases h⟩
theorem over : Rows.dueNobodyRow.holds Try.pinned (OpenSpec.ofChange Rows.dueNobodySpec) :=
  OpenClaim.holds_of_wide 7 Try.f7 rfl rfl rfl rfl rfl rfl rfl ⟨rfl, rfl, rfl, rfl, rfl⟩ rfl rfl rfl rfl rfl (by kernel_rfl) Try.func7 (by kernel_rfl)
    (of_decide_eq_true (by kernel_rfl)) (by unfold Func.isWrapper; first | (rw [if_pos (by decide +kernel)]; kernel_rfl) | (rw [if_neg (by decide +kernel)]; exact ⟨rfl, rfl⟩))
    (fun os started H enc _ => lifted os started H enc)
end Go.Proofs.Ytbnlhjooimppeaa.dueNobody
namespace Go.Proofs.Ytbnlhjooimppeaa
theorem dueNobody_holds : Rows.DueNobodySaid := dueNobody.over
#print axioms dueNobody_holds
end Go.Proofs.Ytbnlhjooimppeaa
