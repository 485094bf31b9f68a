/- alarm: Feed at a watch. -/
import Derived.Test.YtnlefakicjojdaaAlb
import Derived.Deep.RegionWith
import Derived.Deep.DeepCutAuto
namespace Go.Proofs.Ytnlefakicjojdaa
set_option linter.unusedVariables false
set_option linter.unusedSimpArgs false
open Go.RowKit W Go.Maps
def stepS (R : Ru) (s : St) (at' : Int) (is : Bool) (v : Int) : St := if is then valS R { s with last := at' } v else gapS R { s with last := at' }
def fedS (R : Ru) (s : St) (at' : Int) (is : Bool) (v : Int) : St := sayS R (stepS R s at' is v) at'
def fedO (R : Ru) (s : St) (at' : Int) (is : Bool) (v1 v0 : Int) : Option (List Value) := sayO R (stepS R s at' is (V v1 v0)) at' is (if is then v1 else 0) (if is then v0 else 0)
theorem say_any {w : World} {b : Nat} {R : Ru} {s : St} (h : WatchAt w b R s) (at' : Int) (is : Bool) (v1 v0 : Int) :
    Calls Try.prog 32 #[.pointer (some ⟨b, 0, none⟩), .int .i64 at', .agg #[.bool is, .int .i64 v1, .int .u64 v0]] w (SayPost w b R (sayS R s at') (sayO R s at' is v1 v0)) := by
  cases e : sayB R s at'
  · have q1 : sayS R s at' = s := by unfold sayS; rw [e]; rfl
    have q2 : sayO R s at' is v1 v0 = none := by unfold sayO; rw [e]; rfl
    rw [q1, q2]
    exact say_no h at' is v1 v0 e
  · have q1 : sayS R s at' = { s with said := s.st, when := at' } := by unfold sayS; rw [e]; rfl
    have q2 : sayO R s at' is v1 v0 = some [.string R.nm, .int .i64 at', .int .i64 s.said, .int .i64 s.st, .bool (decide (s.st = s.said)), .bool is, .int .i64 v1, .int .u64 v0] := by unfold sayO; rw [e]; rfl
    rw [q1, q2]
    exact say_yes h at' is v1 v0 e
def FedPost (w : World) (b : Nat) (R : Ru) (s : St) (o : Option (List Value)) (e : Ending) (w' : World) : Prop := ∃ v, e = .returned (.tuple #[v, .int .i64 0]) ∧ AlOut w' v o ∧ (∀ g, v.ownBlock = some g → w.heap.size ≤ g) ∧ WatchAt w' b R s ∧ Mod [b] w w'
set_option maxRecDepth 100000 in
set_option maxHeartbeats 4000000 in
theorem feed_val2 {w : World} {bb mb b : Nat} {L : List Ent} (h : BookA w bb mb L) (nm : ByteArray) (hs : nm.size ≤ maxLen) (R : Ru) (s : St) (hx : (R, s, b) ∈ L) (hb : blkOf L nm = some b) (at' v1 v0 : Int) (a1 : 0 ≤ at') (a2 : at' ≤ 1099511627775) (a3 : s.last < at') (iv : IsW (v1, v0)) (st2 : s.st = 2) :
    Calls Try.prog 12 #[.pointer (some ⟨bb, 0, none⟩), .string nm, .int .i64 at', .agg #[.bool true, .int .i64 v1, .int .u64 v0]] w (FedPost w b R (fedS R s at' true (V v1 v0)) (fedO R s at' true v1 v0)) := by
  have kf := fun (W : World) (k : Below w.heap.size w W) => find_spec (h.later k) nm hs
  rw [hb] at kf
  simp only [pv, Option.isSome, if_true] at kf
  have ks := second_spec at'
  rw [decide_eq_true ⟨a1, a2⟩] at ks
  have H := hide (h.wat _ hx)
  have OK := hide (h.ok _ hx).1
  simp only at H OK
  have lt := H.out.lt
  have LV : Hid (lev R s.st (V v1 v0) = levW R (V v1 v0)) := by show _ = _; unfold lev; rw [if_pos st2]
  have LF : Hid (lvF s.st = 56) := by show _ = _; unfold lvF; rw [if_pos st2]
  clear h hx hb a1 a2
  have B1 : Below w.heap.size w (w.alloc (.cells #[.bool true, .int .i64 v1, .int .u64 v0] 38)) := (Below.refl _ _).alloc (Nat.le_refl _) _
  have c17 := H.out.at0 17 _ rfl
  have c18 := H.out.at0 18 _ rfl
  have f17 := H.out.fr0 17 (by simp [wlx])
  have f18 := H.out.fr0 18 (by simp [wlx])
  have na : ¬ at' ≤ s.last := by omega
  have HX : Hid (WatchAt (((w.setCell ⟨b, 18, none⟩ (.int .i64 at')).setCell ⟨b, 17, none⟩ (.int .i64 0)).alloc (.cells #[.bool true, .int .i64 v1, .int .u64 v0] 38)) b R { s with last := at', gaps := 0 }) :=
    ((H.out.set0 18 (by simp [wlx]) (.int .i64 at')).set0 17 (by simp [wlx]) (.int .i64 0)).later ((Below.refl _ _).alloc (Nat.le_refl _) _)
  have MX : Hid (Mod [b] w (((w.setCell ⟨b, 18, none⟩ (.int .i64 at')).setCell ⟨b, 17, none⟩ (.int .i64 0)).alloc (.cells #[.bool true, .int .i64 v1, .int .u64 v0] 38))) :=
    (((Mod.refl [b] w).setCell (by simp) _).setCell (by simp) _).alloc _
  go_enter Try.func12, Try.ntmps12
  go_wp2_with (first | (go_at_call 28; refine (kf _ B1).mono ?_; rintro e w' ⟨rfl, rfl⟩) | (go_at_call 29; refine (ks _).mono ?_; rintro e w' ⟨rfl, rfl⟩))
  refine abs_wp (fun W => Hid (WatchAt W b R { s with last := at', gaps := 0 }) ∧ Hid (Mod [b] w W) ∧ W.cell? ⟨w.heap.size, 0, none⟩ = some (.bool true) ∧ W.cell? ⟨w.heap.size, 1, none⟩ = some (.int .i64 v1) ∧ W.cell? ⟨w.heap.size, 2, none⟩ = some (.int .u64 v0) ∧ w.heap.size < W.heap.size) ?_ ?_
  · refine ⟨HX, MX, ?_, ?_, ?_, ?_⟩
    all_goals first | (simp [go_sem]; done) | (simp; done)
  rintro W ⟨HW, MW, p0, p1, p2, zW⟩
  have c12 := HW.out.at0 12 _ rfl
  rw [show lvV ({ s with last := at', gaps := 0 } : St).st b = .func (.func 56) #[.pointer (some ⟨b, 0, none⟩)] #[] from by unfold lvV; rw [← LF.out]] at c12
  have lW := HW.out.lt
  clear HX MX H B1 c17 c18 f17 f18 a3 LF ks kf
  have kl := fun (W' : World) (k : Below W.heap.size W W') => warn_spec (WatchAt.ru (HW.out.later k)) OK.out v1 v0 iv
  have km := fun (W' : World) (k : Below W.heap.size W W') => move_spec (HW.out.later k) (levW R (V v1 v0))
  go_region_with (first
    | (go_at_call 56; (with_reducible refine Calls.mono (kl _ (by first | exact Below.refl _ _ | exact (Below.refl _ _).drew)) ?_); rintro e w5 ⟨rfl, k5⟩; have j5 : Below W.heap.size W w5 := (by first | exact k5 | exact ((Below.refl W.heap.size W).drew).trans k5))
    | (go_at_call 31; (with_reducible refine Calls.mono (km _ j5) ?_); rintro e w6 k6; obtain ⟨rfl, k7, m7⟩ := k6))
  all_goals
    have nb : w.heap.size ∉ [b] := by simp; omega
    have z5 : w.heap.size < w5.heap.size := Nat.lt_of_lt_of_le zW j5.size
    have r0 := (m7.cell (o := 0) z5 nb).trans ((j5.cell (p := ⟨w.heap.size, 0, none⟩) zW).trans p0)
    have r1 := (m7.cell (o := 1) z5 nb).trans ((j5.cell (p := ⟨w.heap.size, 1, none⟩) zW).trans p1)
    have r2 := (m7.cell (o := 2) z5 nb).trans ((j5.cell (p := ⟨w.heap.size, 2, none⟩) zW).trans p2)
    have ky := say_any k7 at' true v1 v0
    have M6 := hide ((MW.out.trans (Mod.of_below j5)).trans m7)
    clear kl km k7 m7 k5 j5 p0 p1 p2 c12
    go_wp2_with (go_at_call 32; refine ky.mono ?_; rintro e w7 k8; obtain ⟨v, rfl, o8, g8, x8, m8⟩ := k8)
    go_returns
    have q := LV.out
    refine ⟨v, rfl, ?_, fun g e => Nat.le_trans M6.out.size (g8 g e), ?_, M6.out.trans m8⟩
    · unfold fedO stepS valS
      simp only [if_true]
      rw [q]
      exact o8
    · unfold fedS stepS valS
      simp only [if_true]
      rw [q]
      exact x8
set_option maxRecDepth 100000 in
set_option maxHeartbeats 4000000 in
theorem feed_val3 {w : World} {bb mb b : Nat} {L : List Ent} (h : BookA w bb mb L) (nm : ByteArray) (hs : nm.size ≤ maxLen) (R : Ru) (s : St) (hx : (R, s, b) ∈ L) (hb : blkOf L nm = some b) (at' v1 v0 : Int) (a1 : 0 ≤ at') (a2 : at' ≤ 1099511627775) (a3 : s.last < at') (iv : IsW (v1, v0)) (st2 : ¬ s.st = 2) (st3 : s.st = 3) :
    Calls Try.prog 12 #[.pointer (some ⟨bb, 0, none⟩), .string nm, .int .i64 at', .agg #[.bool true, .int .i64 v1, .int .u64 v0]] w (FedPost w b R (fedS R s at' true (V v1 v0)) (fedO R s at' true v1 v0)) := by
  have kf := fun (W : World) (k : Below w.heap.size w W) => find_spec (h.later k) nm hs
  rw [hb] at kf
  simp only [pv, Option.isSome, if_true] at kf
  have ks := second_spec at'
  rw [decide_eq_true ⟨a1, a2⟩] at ks
  have H := hide (h.wat _ hx)
  have OK := hide (h.ok _ hx).1
  simp only at H OK
  have lt := H.out.lt
  have LV : Hid (lev R s.st (V v1 v0) = levC R (V v1 v0)) := by show _ = _; unfold lev; rw [if_neg st2, if_pos st3]
  have LF : Hid (lvF s.st = 57) := by show _ = _; unfold lvF; rw [if_neg st2, if_pos st3]
  clear h hx hb a1 a2
  have B1 : Below w.heap.size w (w.alloc (.cells #[.bool true, .int .i64 v1, .int .u64 v0] 38)) := (Below.refl _ _).alloc (Nat.le_refl _) _
  have c17 := H.out.at0 17 _ rfl
  have c18 := H.out.at0 18 _ rfl
  have f17 := H.out.fr0 17 (by simp [wlx])
  have f18 := H.out.fr0 18 (by simp [wlx])
  have na : ¬ at' ≤ s.last := by omega
  have HX : Hid (WatchAt (((w.setCell ⟨b, 18, none⟩ (.int .i64 at')).setCell ⟨b, 17, none⟩ (.int .i64 0)).alloc (.cells #[.bool true, .int .i64 v1, .int .u64 v0] 38)) b R { s with last := at', gaps := 0 }) :=
    ((H.out.set0 18 (by simp [wlx]) (.int .i64 at')).set0 17 (by simp [wlx]) (.int .i64 0)).later ((Below.refl _ _).alloc (Nat.le_refl _) _)
  have MX : Hid (Mod [b] w (((w.setCell ⟨b, 18, none⟩ (.int .i64 at')).setCell ⟨b, 17, none⟩ (.int .i64 0)).alloc (.cells #[.bool true, .int .i64 v1, .int .u64 v0] 38))) :=
    (((Mod.refl [b] w).setCell (by simp) _).setCell (by simp) _).alloc _
  go_enter Try.func12, Try.ntmps12
  go_wp2_with (first | (go_at_call 28; refine (kf _ B1).mono ?_; rintro e w' ⟨rfl, rfl⟩) | (go_at_call 29; refine (ks _).mono ?_; rintro e w' ⟨rfl, rfl⟩))
  refine abs_wp (fun W => Hid (WatchAt W b R { s with last := at', gaps := 0 }) ∧ Hid (Mod [b] w W) ∧ W.cell? ⟨w.heap.size, 0, none⟩ = some (.bool true) ∧ W.cell? ⟨w.heap.size, 1, none⟩ = some (.int .i64 v1) ∧ W.cell? ⟨w.heap.size, 2, none⟩ = some (.int .u64 v0) ∧ w.heap.size < W.heap.size) ?_ ?_
  · refine ⟨HX, MX, ?_, ?_, ?_, ?_⟩
    all_goals first | (simp [go_sem]; done) | (simp; done)
  rintro W ⟨HW, MW, p0, p1, p2, zW⟩
  have c12 := HW.out.at0 12 _ rfl
  rw [show lvV ({ s with last := at', gaps := 0 } : St).st b = .func (.func 57) #[.pointer (some ⟨b, 0, none⟩)] #[] from by unfold lvV; rw [← LF.out]] at c12
  have lW := HW.out.lt
  clear HX MX H B1 c17 c18 f17 f18 a3 LF ks kf
  have kl := fun (W' : World) (k : Below W.heap.size W W') => crit_spec (WatchAt.ru (HW.out.later k)) OK.out v1 v0 iv
  have km := fun (W' : World) (k : Below W.heap.size W W') => move_spec (HW.out.later k) (levC R (V v1 v0))
  go_region_with (first
    | (go_at_call 57; (with_reducible refine Calls.mono (kl _ (by first | exact Below.refl _ _ | exact (Below.refl _ _).drew)) ?_); rintro e w5 ⟨rfl, k5⟩; have j5 : Below W.heap.size W w5 := (by first | exact k5 | exact ((Below.refl W.heap.size W).drew).trans k5))
    | (go_at_call 31; (with_reducible refine Calls.mono (km _ j5) ?_); rintro e w6 k6; obtain ⟨rfl, k7, m7⟩ := k6))
  all_goals
    have nb : w.heap.size ∉ [b] := by simp; omega
    have z5 : w.heap.size < w5.heap.size := Nat.lt_of_lt_of_le zW j5.size
    have r0 := (m7.cell (o := 0) z5 nb).trans ((j5.cell (p := ⟨w.heap.size, 0, none⟩) zW).trans p0)
    have r1 := (m7.cell (o := 1) z5 nb).trans ((j5.cell (p := ⟨w.heap.size, 1, none⟩) zW).trans p1)
    have r2 := (m7.cell (o := 2) z5 nb).trans ((j5.cell (p := ⟨w.heap.size, 2, none⟩) zW).trans p2)
    have ky := say_any k7 at' true v1 v0
    have M6 := hide ((MW.out.trans (Mod.of_below j5)).trans m7)
    clear kl km k7 m7 k5 j5 p0 p1 p2 c12
    go_wp2_with (go_at_call 32; refine ky.mono ?_; rintro e w7 k8; obtain ⟨v, rfl, o8, g8, x8, m8⟩ := k8)
    go_returns
    have q := LV.out
    refine ⟨v, rfl, ?_, fun g e => Nat.le_trans M6.out.size (g8 g e), ?_, M6.out.trans m8⟩
    · unfold fedO stepS valS
      simp only [if_true]
      rw [q]
      exact o8
    · unfold fedS stepS valS
      simp only [if_true]
      rw [q]
      exact x8
set_option maxRecDepth 100000 in
set_option maxHeartbeats 4000000 in
theorem feed_val1 {w : World} {bb mb b : Nat} {L : List Ent} (h : BookA w bb mb L) (nm : ByteArray) (hs : nm.size ≤ maxLen) (R : Ru) (s : St) (hx : (R, s, b) ∈ L) (hb : blkOf L nm = some b) (at' v1 v0 : Int) (a1 : 0 ≤ at') (a2 : at' ≤ 1099511627775) (a3 : s.last < at') (iv : IsW (v1, v0)) (st2 : ¬ s.st = 2) (st3 : ¬ s.st = 3) :
    Calls Try.prog 12 #[.pointer (some ⟨bb, 0, none⟩), .string nm, .int .i64 at', .agg #[.bool true, .int .i64 v1, .int .u64 v0]] w (FedPost w b R (fedS R s at' true (V v1 v0)) (fedO R s at' true v1 v0)) := by
  have kf := fun (W : World) (k : Below w.heap.size w W) => find_spec (h.later k) nm hs
  rw [hb] at kf
  simp only [pv, Option.isSome, if_true] at kf
  have ks := second_spec at'
  rw [decide_eq_true ⟨a1, a2⟩] at ks
  have H := hide (h.wat _ hx)
  have OK := hide (h.ok _ hx).1
  simp only at H OK
  have lt := H.out.lt
  have LV : Hid (lev R s.st (V v1 v0) = levF R (V v1 v0)) := by show _ = _; unfold lev; rw [if_neg st2, if_neg st3]
  have LF : Hid (lvF s.st = 58) := by show _ = _; unfold lvF; rw [if_neg st2, if_neg st3]
  clear h hx hb a1 a2
  have B1 : Below w.heap.size w (w.alloc (.cells #[.bool true, .int .i64 v1, .int .u64 v0] 38)) := (Below.refl _ _).alloc (Nat.le_refl _) _
  have c17 := H.out.at0 17 _ rfl
  have c18 := H.out.at0 18 _ rfl
  have f17 := H.out.fr0 17 (by simp [wlx])
  have f18 := H.out.fr0 18 (by simp [wlx])
  have na : ¬ at' ≤ s.last := by omega
  have HX : Hid (WatchAt (((w.setCell ⟨b, 18, none⟩ (.int .i64 at')).setCell ⟨b, 17, none⟩ (.int .i64 0)).alloc (.cells #[.bool true, .int .i64 v1, .int .u64 v0] 38)) b R { s with last := at', gaps := 0 }) :=
    ((H.out.set0 18 (by simp [wlx]) (.int .i64 at')).set0 17 (by simp [wlx]) (.int .i64 0)).later ((Below.refl _ _).alloc (Nat.le_refl _) _)
  have MX : Hid (Mod [b] w (((w.setCell ⟨b, 18, none⟩ (.int .i64 at')).setCell ⟨b, 17, none⟩ (.int .i64 0)).alloc (.cells #[.bool true, .int .i64 v1, .int .u64 v0] 38))) :=
    (((Mod.refl [b] w).setCell (by simp) _).setCell (by simp) _).alloc _
  go_enter Try.func12, Try.ntmps12
  go_wp2_with (first | (go_at_call 28; refine (kf _ B1).mono ?_; rintro e w' ⟨rfl, rfl⟩) | (go_at_call 29; refine (ks _).mono ?_; rintro e w' ⟨rfl, rfl⟩))
  refine abs_wp (fun W => Hid (WatchAt W b R { s with last := at', gaps := 0 }) ∧ Hid (Mod [b] w W) ∧ W.cell? ⟨w.heap.size, 0, none⟩ = some (.bool true) ∧ W.cell? ⟨w.heap.size, 1, none⟩ = some (.int .i64 v1) ∧ W.cell? ⟨w.heap.size, 2, none⟩ = some (.int .u64 v0) ∧ w.heap.size < W.heap.size) ?_ ?_
  · refine ⟨HX, MX, ?_, ?_, ?_, ?_⟩
    all_goals first | (simp [go_sem]; done) | (simp; done)
  rintro W ⟨HW, MW, p0, p1, p2, zW⟩
  have c12 := HW.out.at0 12 _ rfl
  rw [show lvV ({ s with last := at', gaps := 0 } : St).st b = .func (.func 58) #[.pointer (some ⟨b, 0, none⟩)] #[] from by unfold lvV; rw [← LF.out]] at c12
  have lW := HW.out.lt
  clear HX MX H B1 c17 c18 f17 f18 a3 LF ks kf
  have kl := fun (W' : World) (k : Below W.heap.size W W') => fine_spec (WatchAt.ru (HW.out.later k)) OK.out v1 v0 iv
  have km := fun (W' : World) (k : Below W.heap.size W W') => move_spec (HW.out.later k) (levF R (V v1 v0))
  go_region_with (first
    | (go_at_call 58; (with_reducible refine Calls.mono (kl _ (by first | exact Below.refl _ _ | exact (Below.refl _ _).drew)) ?_); rintro e w5 ⟨rfl, k5⟩; have j5 : Below W.heap.size W w5 := (by first | exact k5 | exact ((Below.refl W.heap.size W).drew).trans k5))
    | (go_at_call 31; (with_reducible refine Calls.mono (km _ j5) ?_); rintro e w6 k6; obtain ⟨rfl, k7, m7⟩ := k6))
  all_goals
    have nb : w.heap.size ∉ [b] := by simp; omega
    have z5 : w.heap.size < w5.heap.size := Nat.lt_of_lt_of_le zW j5.size
    have r0 := (m7.cell (o := 0) z5 nb).trans ((j5.cell (p := ⟨w.heap.size, 0, none⟩) zW).trans p0)
    have r1 := (m7.cell (o := 1) z5 nb).trans ((j5.cell (p := ⟨w.heap.size, 1, none⟩) zW).trans p1)
    have r2 := (m7.cell (o := 2) z5 nb).trans ((j5.cell (p := ⟨w.heap.size, 2, none⟩) zW).trans p2)
    have ky := say_any k7 at' true v1 v0
    have M6 := hide ((MW.out.trans (Mod.of_below j5)).trans m7)
    clear kl km k7 m7 k5 j5 p0 p1 p2 c12
    go_wp2_with (go_at_call 32; refine ky.mono ?_; rintro e w7 k8; obtain ⟨v, rfl, o8, g8, x8, m8⟩ := k8)
    go_returns
    have q := LV.out
    refine ⟨v, rfl, ?_, fun g e => Nat.le_trans M6.out.size (g8 g e), ?_, M6.out.trans m8⟩
    · unfold fedO stepS valS
      simp only [if_true]
      rw [q]
      exact o8
    · unfold fedS stepS valS
      simp only [if_true]
      rw [q]
      exact x8
end Go.Proofs.Ytnlefakicjojdaa
