/- alarm: Feed without a value, Feed that is refused; Mute, State. -/
import Derived.Test.YtnlefakicjojdaaAlf
namespace Go.Proofs.Ytnlefakicjojdaa
set_option linter.unusedVariables false
set_option linter.unusedSimpArgs false
open Go.RowKit W Go.Maps
set_option maxRecDepth 100000 in
set_option maxHeartbeats 4000000 in
theorem feed_gap {w : World} {bb mb b : Nat} {L : List Ent} (h : BookA w bb mb L) (nm : ByteArray) (hs : nm.size ≤ maxLen) (R : Ru) (s : St) (hx : (R, s, b) ∈ L) (hb : blkOf L nm = some b) (at' v1 v0 : Int) (a1 : 0 ≤ at') (a2 : at' ≤ 1099511627775) (a3 : s.last < at') :
    Calls Try.prog 12 #[.pointer (some ⟨bb, 0, none⟩), .string nm, .int .i64 at', .agg #[.bool false, .int .i64 v1, .int .u64 v0]] w (FedPost w b R (fedS R s at' false (V v1 v0)) (fedO R s at' false v1 v0)) := by
  have kf := fun (W : World) (k : Below w.heap.size w W) => find_spec (h.later k) nm hs
  rw [hb] at kf
  simp only [pv, Option.isSome, if_true] at kf
  have ks := second_spec at'
  rw [decide_eq_true ⟨a1, a2⟩] at ks
  have H := hide (h.wat _ hx)
  simp only at H
  have lt := H.out.lt
  clear h hx hb a1 a2
  have B1 : Below w.heap.size w (w.alloc (.cells #[.bool false, .int .i64 v1, .int .u64 v0] 38)) := (Below.refl _ _).alloc (Nat.le_refl _) _
  have c18 := H.out.at0 18 _ rfl
  have f18 := H.out.fr0 18 (by simp [wlx])
  have na : ¬ at' ≤ s.last := by omega
  have RX : Hid (WatchAt (w.setCell ⟨b, 18, none⟩ (.int .i64 at')) b R { s with last := at' }) := H.out.set0 18 (by simp [wlx]) (.int .i64 at')
  have MX : Hid (Mod [b] w (w.setCell ⟨b, 18, none⟩ (.int .i64 at'))) := (Mod.refl [b] w).setCell (by simp) _
  have SX : Hid ((w.setCell ⟨b, 18, none⟩ (.int .i64 at')).heap.size = w.heap.size) := by show _ = _; simp
  go_enter Try.func12, Try.ntmps12
  go_wp2_with (first | (go_at_call 28; refine (kf _ B1).mono ?_; rintro e w' ⟨rfl, rfl⟩) | (go_at_call 29; refine (ks _).mono ?_; rintro e w' ⟨rfl, rfl⟩))
  refine (gap_spec (RX.out.later ((Below.refl _ _).alloc (Nat.le_refl _) _))).mono ?_
  rintro e w6 k6
  obtain ⟨rfl, k7, m7⟩ := k6
  have nb : w.heap.size ∉ [b] := by simp; omega
  have z5 : w.heap.size < ((w.setCell ⟨b, 18, none⟩ (.int .i64 at')).alloc (.cells #[.bool false, .int .i64 0, .int .u64 0] 38)).heap.size := by simp
  have r0 : w6.cell? ⟨w.heap.size, 0, none⟩ = some (.bool false) := (m7.cell (o := 0) z5 nb).trans (by simp [go_sem])
  have r1 : w6.cell? ⟨w.heap.size, 1, none⟩ = some (.int .i64 0) := (m7.cell (o := 1) z5 nb).trans (by simp [go_sem])
  have r2 : w6.cell? ⟨w.heap.size, 2, none⟩ = some (.int .u64 0) := (m7.cell (o := 2) z5 nb).trans (by simp [go_sem])
  have ky := say_any k7 at' false 0 0
  have M6 := hide ((MX.out.alloc _).trans m7)
  have lw6 : w.heap.size < w6.heap.size := Nat.lt_of_lt_of_le z5 m7.size
  clear RX MX H B1 c18 f18 a3 ks kf SX k7 m7 z5
  go_wp2_with (go_at_call 32; refine ky.mono ?_; rintro e w7 k8; obtain ⟨v, rfl, o8, g8, x8, m8⟩ := k8)
  go_returns
  exact ⟨v, rfl, o8, fun g e => Nat.le_trans M6.out.size (g8 g e), x8, M6.out.trans m8⟩
set_option maxRecDepth 100000 in
set_option maxHeartbeats 4000000 in
theorem feed_none {w : World} {bb mb : Nat} {L : List Ent} (h : BookA w bb mb L) (nm : ByteArray) (hs : nm.size ≤ maxLen) (hb : blkOf L nm = none) (at' v1 v0 : Int) (is : Bool) :
    Calls Try.prog 12 #[.pointer (some ⟨bb, 0, none⟩), .string nm, .int .i64 at', .agg #[.bool is, .int .i64 v1, .int .u64 v0]] w fun e w' => e = .returned (.tuple #[.slice none 0 0, .int .i64 231]) ∧ Below w.heap.size w w' := by
  have kf := fun (W : World) (k : Below w.heap.size w W) => find_spec (h.later k) nm hs
  rw [hb] at kf
  simp only [pv, Option.isSome] at kf
  clear h hb
  have B1 : Below w.heap.size w (w.alloc (.cells #[.bool is, .int .i64 v1, .int .u64 v0] 38)) := (Below.refl _ _).alloc (Nat.le_refl _) _
  go_enter Try.func12, Try.ntmps12
  go_wp2_with (go_at_call 28; refine (kf _ B1).mono ?_; rintro e w' ⟨rfl, rfl⟩)
  go_returns
  exact ⟨rfl, B1⟩
set_option maxRecDepth 100000 in
set_option maxHeartbeats 4000000 in
theorem feed_arg {w : World} {bb mb b : Nat} {L : List Ent} (h : BookA w bb mb L) (nm : ByteArray) (hs : nm.size ≤ maxLen) (hb : blkOf L nm = some b) (at' v1 v0 : Int) (is : Bool) (na : ¬ (0 ≤ at' ∧ at' ≤ 1099511627775)) :
    Calls Try.prog 12 #[.pointer (some ⟨bb, 0, none⟩), .string nm, .int .i64 at', .agg #[.bool is, .int .i64 v1, .int .u64 v0]] w fun e w' => e = .returned (.tuple #[.slice none 0 0, .int .i64 1]) ∧ Below w.heap.size w w' := by
  have kf := fun (W : World) (k : Below w.heap.size w W) => find_spec (h.later k) nm hs
  rw [hb] at kf
  simp only [pv, Option.isSome, if_true] at kf
  have ks := second_spec at'
  rw [decide_eq_false na] at ks
  clear h hb na
  have B1 : Below w.heap.size w (w.alloc (.cells #[.bool is, .int .i64 v1, .int .u64 v0] 38)) := (Below.refl _ _).alloc (Nat.le_refl _) _
  go_enter Try.func12, Try.ntmps12
  go_wp2_with (first | (go_at_call 28; refine (kf _ B1).mono ?_; rintro e w' ⟨rfl, rfl⟩) | (go_at_call 29; refine (ks _).mono ?_; rintro e w' ⟨rfl, rfl⟩))
  go_returns
  exact ⟨rfl, B1⟩
set_option maxRecDepth 100000 in
set_option maxHeartbeats 4000000 in
theorem feed_past {w : World} {bb mb b : Nat} {L : List Ent} (h : BookA w bb mb L) (nm : ByteArray) (hs : nm.size ≤ maxLen) (R : Ru) (s : St) (hx : (R, s, b) ∈ L) (hb : blkOf L nm = some b) (at' v1 v0 : Int) (is : Bool) (a1 : 0 ≤ at') (a2 : at' ≤ 1099511627775) (a3 : at' ≤ s.last) :
    Calls Try.prog 12 #[.pointer (some ⟨bb, 0, none⟩), .string nm, .int .i64 at', .agg #[.bool is, .int .i64 v1, .int .u64 v0]] w fun e w' => e = .returned (.tuple #[.slice none 0 0, .int .i64 232]) ∧ Below w.heap.size w w' := by
  have kf := fun (W : World) (k : Below w.heap.size w W) => find_spec (h.later k) nm hs
  rw [hb] at kf
  simp only [pv, Option.isSome, if_true] at kf
  have ks := second_spec at'
  rw [decide_eq_true ⟨a1, a2⟩] at ks
  have H := h.wat _ hx
  simp only at H
  have c18 := H.at0 18 _ rfl
  have lt := H.lt
  clear h hb H hx
  have B1 : Below w.heap.size w (w.alloc (.cells #[.bool is, .int .i64 v1, .int .u64 v0] 38)) := (Below.refl _ _).alloc (Nat.le_refl _) _
  go_enter Try.func12, Try.ntmps12
  go_wp2_with (first | (go_at_call 28; refine (kf _ B1).mono ?_; rintro e w' ⟨rfl, rfl⟩) | (go_at_call 29; refine (ks _).mono ?_; rintro e w' ⟨rfl, rfl⟩))
  go_returns
  exact ⟨rfl, B1⟩
/-- Mute: its answer. -/
def muE (o : Option Nat) (t : Int) : Int := if o.isSome then if 0 ≤ t ∧ t ≤ 1099511627775 then 0 else 1 else 231
set_option maxRecDepth 100000 in
set_option maxHeartbeats 4000000 in
theorem mute_no {w : World} {bb mb : Nat} {L : List Ent} (h : BookA w bb mb L) (nm : ByteArray) (hs : nm.size ≤ maxLen) (t : Int) (hb : blkOf L nm = none ∨ ¬ (0 ≤ t ∧ t ≤ 1099511627775)) :
    CalcN 15 #[.pointer (some ⟨bb, 0, none⟩), .string nm, .int .i64 t] w (.int .i64 (muE (blkOf L nm) t)) := by
  have kf := find_spec h nm hs
  have ks := second_spec t
  clear h
  generalize blkOf L nm = o at kf hb ⊢
  cases o with
  | none =>
    simp only [pv, Option.isSome] at kf
    clear hb
    go_enter Try.func15, Try.ntmps15
    go_wp2_with (first | (go_at_call 28; refine kf.mono ?_; rintro e w' ⟨rfl, rfl⟩))
    go_returns
    exact ⟨rfl, rfl⟩
  | some b =>
    have hb := hb.resolve_left (by simp)
    rw [decide_eq_false hb] at ks
    simp only [pv, Option.isSome, if_true] at kf
    have E : Hid (muE (some b) t = 1) := by show _ = _; unfold muE; simp [hb]
    clear hb
    go_enter Try.func15, Try.ntmps15
    go_wp2_with (first | (go_at_call 28; refine kf.mono ?_; rintro e w' ⟨rfl, rfl⟩) | (go_at_call 29; refine (ks _).mono ?_; rintro e w' ⟨rfl, rfl⟩))
    go_returns
    exact ⟨by rw [E.out]; rfl, rfl⟩
set_option maxRecDepth 100000 in
set_option maxHeartbeats 4000000 in
theorem mute_yes {w : World} {bb mb b : Nat} {L : List Ent} (h : BookA w bb mb L) (nm : ByteArray) (hs : nm.size ≤ maxLen) (R : Ru) (s : St) (hx : (R, s, b) ∈ L) (hb : blkOf L nm = some b) (t : Int) (a1 : 0 ≤ t) (a2 : t ≤ 1099511627775) :
    Calls Try.prog 15 #[.pointer (some ⟨bb, 0, none⟩), .string nm, .int .i64 t] w fun e w' => e = .returned (.int .i64 0) ∧ WatchAt w' b R { s with mute := t } ∧ Mod [b] w w' := by
  have kf := find_spec h nm hs
  rw [hb] at kf
  simp only [pv, Option.isSome, if_true] at kf
  have ks := second_spec t
  rw [decide_eq_true ⟨a1, a2⟩] at ks
  have H := hide (h.wat _ hx)
  simp only at H
  have c19 := H.out.at0 19 _ rfl
  have f19 := H.out.fr0 19 (by simp [wlx])
  have lt := H.out.lt
  clear h hb hx a1 a2
  go_enter Try.func15, Try.ntmps15
  go_wp2_with (first | (go_at_call 28; refine kf.mono ?_; rintro e w' ⟨rfl, rfl⟩) | (go_at_call 29; refine (ks _).mono ?_; rintro e w' ⟨rfl, rfl⟩))
  go_returns
  exact ⟨rfl, H.out.set0 19 (by simp [wlx]) (.int .i64 t), (Mod.refl [b] w).setCell (by simp) _⟩
set_option maxRecDepth 100000 in
set_option maxHeartbeats 4000000 in
theorem state_no {w : World} {bb mb : Nat} {L : List Ent} (h : BookA w bb mb L) (nm : ByteArray) (hs : nm.size ≤ maxLen) (hb : blkOf L nm = none) :
    CalcN 17 #[.pointer (some ⟨bb, 0, none⟩), .string nm] w (.tuple #[.int .i64 0, .bool false]) := by
  have kf := find_spec h nm hs
  rw [hb] at kf
  simp only [pv, Option.isSome] at kf
  clear h hb
  go_enter Try.func17, Try.ntmps17
  go_wp2_with (first | (go_at_call 28; refine kf.mono ?_; rintro e w' ⟨rfl, rfl⟩))
  go_returns
  exact ⟨rfl, rfl⟩
set_option maxRecDepth 100000 in
set_option maxHeartbeats 4000000 in
theorem state_yes {w : World} {bb mb b : Nat} {L : List Ent} (h : BookA w bb mb L) (nm : ByteArray) (hs : nm.size ≤ maxLen) (R : Ru) (s : St) (hx : (R, s, b) ∈ L) (hb : blkOf L nm = some b) :
    CalcN 17 #[.pointer (some ⟨bb, 0, none⟩), .string nm] w (.tuple #[.int .i64 s.st, .bool true]) := by
  have kf := find_spec h nm hs
  rw [hb] at kf
  simp only [pv, Option.isSome, if_true] at kf
  have H := h.wat _ hx
  simp only at H
  have c11 := H.at0 11 _ rfl
  have lt := H.lt
  clear h hb hx H
  go_enter Try.func17, Try.ntmps17
  go_wp2_with (first | (go_at_call 28; refine kf.mono ?_; rintro e w' ⟨rfl, rfl⟩))
  go_returns
  exact ⟨rfl, rfl⟩
end Go.Proofs.Ytnlefakicjojdaa
