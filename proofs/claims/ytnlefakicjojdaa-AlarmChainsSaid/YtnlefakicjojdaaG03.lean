/- Texts that belong together: Alb Alf Alg Aln Alpu Alal Albk Alno. -/
import Derived.Test.YtnlefakicjojdaaG02
import Derived.LaidEqlPtr
import Derived.Deep.RegionWith
import Derived.Deep.DeepCutAuto
import Derived.Test.YtnlefakicjojdaaG01
set_option linter.unusedSimpArgs false
set_option linter.unusedVariables false
/- alarm: the book: New's watches; find. -/
namespace Go.Proofs.Ytnlefakicjojdaa
set_option linter.unusedVariables false
set_option linter.unusedSimpArgs false
open Go.RowKit W Go.Maps
def st0 : St := ⟨1, 1, 0, 0, 0, 0, -1, 0⟩
def NewW (w : World) (R : Ru) (e : Ending) (w' : World) : Prop := ∃ b, e = .returned (.pointer (some ⟨b, 0, none⟩)) ∧ w.heap.size ≤ b ∧ WatchAt w' b R st0 ∧ Below w.heap.size w w'
set_option maxRecDepth 100000 in
set_option maxHeartbeats 4000000 in
theorem newWatch_spec (R : Ru) (w : World) : Calls Try.prog 24 #[ruV R] w (NewW w R) := by
  have KE := fun (W : World) (b : Nat) (lv : Value) (k : Row W b 0 (wlx R ⟨0, 1, 0, 0, 0, 0, -1, 0⟩ lv)) => enter_any k 1
  have ce : entS ⟨0, 1, 0, 0, 0, 0, -1, 0⟩ 1 = st0 := rfl
  rw [ce] at KE
  unfold ruV
  go_enter Try.func24, Try.ntmps24
  go_wp2_with fail
  refine (KE _ _ .nilFunc (Row.new' _ _ _ _ (by simp))).mono ?_
  rintro e w2 k
  have P := hide k
  obtain ⟨rfl, _, _⟩ := k
  go_wp2_with fail
  go_returns
  refine ⟨_, rfl, by omega, P.out.2.1, (((Below.refl _ _).alloc (Nat.le_refl _) _).alloc (by simp) _).trans (P.out.2.2.below (by simp; omega) (by intro x hx; simp at hx; omega))⟩
/-- A watch's pointer, as a number. -/
def ptrElem {H : Type} : Value → Option (DataW H × List MemPlace)
  | .pointer none => some (.lit (.int .i64 (-1)), [])
  | .pointer (some a) => if a.off = 0 ∧ a.spot = none then some (.lit (.int .i64 a.block), []) else none
  | _ => none
def pd {H : Type} : Option Nat → DataW H
  | none => .lit (.int .i64 (-1))
  | some b => .lit (.int .i64 b)
def pv : Option Nat → Value
  | none => .pointer none
  | some b => .pointer (some ⟨b, 0, none⟩)
theorem ptrElem_pv {H : Type} (o : Option Nat) : ptrElem (H := H) (pv o) = some (pd o, []) := by
  cases o <;> simp [ptrElem, pv, pd]
theorem ptrElem_inv {H : Type} {v : Value} {o : Option Nat} {ps : List MemPlace} (h : ptrElem (H := H) v = some (pd o, ps)) : v = pv o := by
  unfold ptrElem at h
  split at h
  · cases o with
    | none => rfl
    | some b => simp [pd] at h
  · rename_i a
    split at h
    · rename_i q
      obtain ⟨b, off, spot⟩ := a
      simp at q
      obtain ⟨rfl, rfl⟩ := q
      cases o with
      | none => simp [pd] at h
      | some c => simp [pd] at h; simp [pv, h]
    · cases h
  · cases h
abbrev Ent := Ru × St × Nat
/-- The watch's block of a name. -/
def blkOf (L : List Ent) (nm : ByteArray) : Option Nat := (L.find? fun x => decide (x.1.nm = nm)).map fun x => x.2.2
abbrev kS (nm : ByteArray) : Lit := .string nm.data.toList
theorem lawS : Keyed Try.prog 9 := string_keyed Try.underlying9
theorem zeroP (w : World) : (zeroValue 70).run Try.prog w = .ok (.pointer none) w := by kernel_rfl
/-- The map at mb leads from each name to its watch. -/
def MapAt (w : World) (mb : Nat) (L : List Ent) : Prop := ∃ D : DataW Unit, w.ownsMap Try.prog 9 (ptrElem (H := Unit)) mb L.length D ∧ ∀ nm : ByteArray, D.atKey (kS nm) (pd none) = pd (blkOf L nm)
theorem MapAt.mod {l : List Nat} {w w' : World} {mb : Nat} {L : List Ent} (h : MapAt w mb L) (k : Mod l w w') (n : mb ∉ l) : MapAt w' mb L := by
  obtain ⟨D, o, s⟩ := h
  have lm := o.lt
  obtain ⟨es, clock, hb, r⟩ := o
  exact ⟨D, ⟨es, clock, (k.block mb lm n).trans hb, r⟩, s⟩
theorem MapAt.lt {w : World} {mb : Nat} {L : List Ent} (h : MapAt w mb L) : mb < w.heap.size := by
  obtain ⟨D, o, s⟩ := h
  exact o.lt
theorem MapAt.look {w : World} {mb : Nat} {L : List Ent} (h : MapAt w mb L) (nm : ByteArray) (hs : nm.size ≤ maxLen) : (Instr.lookup 66 (.map (some mb)) (.string nm) false).run Try.prog w = .ok (pv (blkOf L nm)) w := by
  obtain ⟨D, o, s⟩ := h
  obtain ⟨v, ps, hr, hv⟩ := o.lookup lawS Try.underlying66 (zeroP w) (ptrElem_pv none) (Go.WideMaps.keyOf_string_mk Try.underlying9 hs)
  rw [s nm] at hv
  rw [hr, ptrElem_inv hv]
/-- A book that New made. -/
structure BookA (w : World) (bb mb : Nat) (L : List Ent) : Prop where
  c0 : w.cell? ⟨bb, 0, none⟩ = some (.pointer (some ⟨bb, 0, none⟩))
  c1 : w.cell? ⟨bb, 1, none⟩ = some (.map (some mb))
  lt : bb < w.heap.size
  ne : mb ≠ bb
  map : MapAt w mb L
  wat : ∀ x ∈ L, WatchAt w x.2.2 x.1 x.2.1
  ok : ∀ x ∈ L, RuOk x.1 ∧ x.2.2 ≠ bb ∧ x.2.2 ≠ mb
  names : L.Pairwise fun x y => x.1.nm ≠ y.1.nm ∧ x.2.2 ≠ y.2.2
theorem BookA.mod {l : List Nat} {w w' : World} {bb mb : Nat} {L : List Ent} (h : BookA w bb mb L) (k : Mod l w w') (h1 : bb ∉ l) (h2 : mb ∉ l) (h3 : ∀ x ∈ L, x.2.2 ∉ l) : BookA w' bb mb L :=
  ⟨(k.cell h.lt h1).trans h.c0, (k.cell h.lt h1).trans h.c1, Nat.lt_of_lt_of_le h.lt k.size, h.ne, h.map.mod k h2, fun x hx => (h.wat x hx).mod k (h3 x hx), h.ok, h.names⟩
theorem BookA.later {w w' : World} {bb mb : Nat} {L : List Ent} (h : BookA w bb mb L) (k : Below w.heap.size w w') : BookA w' bb mb L := h.mod (Mod.of_below (l := []) k) (by simp) (by simp) (by simp)
theorem infoBookA : (Try.prog.info? 68).isSome = true := by kernel_rfl
theorem eq_ptrA (b : Nat) (w : World) : (binOp .eql 24 (.pointer (some ⟨b, 0, none⟩)) (.pointer (some ⟨b, 0, none⟩))).run Try.prog w = .ok (.bool true) w := by
  obtain ⟨j, hj⟩ := Option.isSome_iff_exists.1 infoBookA
  exact run_eql_ptr_same w ⟨b, 0, none⟩ Try.underlying24 hj
set_option maxRecDepth 100000 in
theorem madeA_ok {w : World} {bb mb : Nat} {L : List Ent} (h : BookA w bb mb L) :
    CalcN 47 #[.pointer (some ⟨bb, 0, none⟩)] w (.bool true) := by
  have c0 := h.c0
  have q := eq_ptrA bb
  clear h
  go_enter Try.func47, Try.ntmps47
  go_wp2
  go_returns
  exact ⟨rfl, rfl⟩
set_option maxRecDepth 100000 in
theorem find_spec {w : World} {bb mb : Nat} {L : List Ent} (h : BookA w bb mb L) (nm : ByteArray) (hs : nm.size ≤ maxLen) :
    CalcN 28 #[.pointer (some ⟨bb, 0, none⟩), .string nm] w (.tuple #[pv (blkOf L nm), .int .i64 (if (blkOf L nm).isSome then 0 else 231)]) := by
  have k := madeA_ok h
  have c1 := h.c1
  have hl := h.map.look nm hs
  clear h
  generalize blkOf L nm = o at hl ⊢
  cases o with
  | none =>
    simp only [pv] at hl ⊢
    go_enter Try.func28, Try.ntmps28
    go_wp2_with fail
    refine k.mono ?_
    rintro e w' ⟨rfl, rfl⟩
    go_wp2_with fail
    go_returns
    exact ⟨rfl, rfl⟩
  | some b =>
    simp only [pv] at hl ⊢
    go_enter Try.func28, Try.ntmps28
    go_wp2_with fail
    refine k.mono ?_
    rintro e w' ⟨rfl, rfl⟩
    go_wp2_with fail
    go_returns
    exact ⟨rfl, rfl⟩
end Go.Proofs.Ytnlefakicjojdaa
/- alarm: Feed at a watch. -/
namespace Go.Proofs.Ytnlefakicjojdaa
set_option linter.unusedVariables false
set_option linter.unusedSimpArgs false
open Go.RowKit W Go.Maps
def stepS (R : Ru) (s : St) (at' : Int) (is : Bool) (v : Int) : St := if is then valS R { s with last := at' } v else gapS R { s with last := at' }
def fedS (R : Ru) (s : St) (at' : Int) (is : Bool) (v : Int) : St := sayS R (stepS R s at' is v) at'
def fedO (R : Ru) (s : St) (at' : Int) (is : Bool) (v1 v0 : Int) : Option (List Value) := sayO R (stepS R s at' is (V v1 v0)) at' is (if is then v1 else 0) (if is then v0 else 0)
theorem say_any {w : World} {b : Nat} {R : Ru} {s : St} (h : WatchAt w b R s) (at' : Int) (is : Bool) (v1 v0 : Int) :
    Calls Try.prog 32 #[.pointer (some ⟨b, 0, none⟩), .int .i64 at', .agg #[.bool is, .int .i64 v1, .int .u64 v0]] w (SayPost w b R (sayS R s at') (sayO R s at' is v1 v0)) := by
  cases e : sayB R s at'
  · have q1 : sayS R s at' = s := by unfold sayS; rw [e]; rfl
    have q2 : sayO R s at' is v1 v0 = none := by unfold sayO; rw [e]; rfl
    rw [q1, q2]
    exact say_no h at' is v1 v0 e
  · have q1 : sayS R s at' = { s with said := s.st, when := at' } := by unfold sayS; rw [e]; rfl
    have q2 : sayO R s at' is v1 v0 = some [.string R.nm, .int .i64 at', .int .i64 s.said, .int .i64 s.st, .bool (decide (s.st = s.said)), .bool is, .int .i64 v1, .int .u64 v0] := by unfold sayO; rw [e]; rfl
    rw [q1, q2]
    exact say_yes h at' is v1 v0 e
def FedPost (w : World) (b : Nat) (R : Ru) (s : St) (o : Option (List Value)) (e : Ending) (w' : World) : Prop := ∃ v, e = .returned (.tuple #[v, .int .i64 0]) ∧ AlOut w' v o ∧ (∀ g, v.ownBlock = some g → w.heap.size ≤ g) ∧ WatchAt w' b R s ∧ Mod [b] w w'
set_option maxRecDepth 100000 in
set_option maxHeartbeats 4000000 in
theorem feed_val2 {w : World} {bb mb b : Nat} {L : List Ent} (h : BookA w bb mb L) (nm : ByteArray) (hs : nm.size ≤ maxLen) (R : Ru) (s : St) (hx : (R, s, b) ∈ L) (hb : blkOf L nm = some b) (at' v1 v0 : Int) (a1 : 0 ≤ at') (a2 : at' ≤ 1099511627775) (a3 : s.last < at') (iv : IsW (v1, v0)) (st2 : s.st = 2) :
    Calls Try.prog 12 #[.pointer (some ⟨bb, 0, none⟩), .string nm, .int .i64 at', .agg #[.bool true, .int .i64 v1, .int .u64 v0]] w (FedPost w b R (fedS R s at' true (V v1 v0)) (fedO R s at' true v1 v0)) := by
  have kf := fun (W : World) (k : Below w.heap.size w W) => find_spec (h.later k) nm hs
  rw [hb] at kf
  simp only [pv, Option.isSome, if_true] at kf
  have ks := second_spec at'
  rw [decide_eq_true ⟨a1, a2⟩] at ks
  have H := hide (h.wat _ hx)
  have OK := hide (h.ok _ hx).1
  simp only at H OK
  have lt := H.out.lt
  have LV : Hid (lev R s.st (V v1 v0) = levW R (V v1 v0)) := by show _ = _; unfold lev; rw [if_pos st2]
  have LF : Hid (lvF s.st = 56) := by show _ = _; unfold lvF; rw [if_pos st2]
  clear h hx hb a1 a2
  have B1 : Below w.heap.size w (w.alloc (.cells #[.bool true, .int .i64 v1, .int .u64 v0] 38)) := (Below.refl _ _).alloc (Nat.le_refl _) _
  have c17 := H.out.at0 17 _ rfl
  have c18 := H.out.at0 18 _ rfl
  have f17 := H.out.fr0 17 (by simp [wlx])
  have f18 := H.out.fr0 18 (by simp [wlx])
  have na : ¬ at' ≤ s.last := by omega
  have HX : Hid (WatchAt (((w.setCell ⟨b, 18, none⟩ (.int .i64 at')).setCell ⟨b, 17, none⟩ (.int .i64 0)).alloc (.cells #[.bool true, .int .i64 v1, .int .u64 v0] 38)) b R { s with last := at', gaps := 0 }) :=
    ((H.out.set0 18 (by simp [wlx]) (.int .i64 at')).set0 17 (by simp [wlx]) (.int .i64 0)).later ((Below.refl _ _).alloc (Nat.le_refl _) _)
  have MX : Hid (Mod [b] w (((w.setCell ⟨b, 18, none⟩ (.int .i64 at')).setCell ⟨b, 17, none⟩ (.int .i64 0)).alloc (.cells #[.bool true, .int .i64 v1, .int .u64 v0] 38))) :=
    (((Mod.refl [b] w).setCell (by simp) _).setCell (by simp) _).alloc _
  go_enter Try.func12, Try.ntmps12
  go_wp2_with (first | (go_at_call 28; refine (kf _ B1).mono ?_; rintro e w' ⟨rfl, rfl⟩) | (go_at_call 29; refine (ks _).mono ?_; rintro e w' ⟨rfl, rfl⟩))
  refine abs_wp (fun W => Hid (WatchAt W b R { s with last := at', gaps := 0 }) ∧ Hid (Mod [b] w W) ∧ W.cell? ⟨w.heap.size, 0, none⟩ = some (.bool true) ∧ W.cell? ⟨w.heap.size, 1, none⟩ = some (.int .i64 v1) ∧ W.cell? ⟨w.heap.size, 2, none⟩ = some (.int .u64 v0) ∧ w.heap.size < W.heap.size) ?_ ?_
  · refine ⟨HX, MX, ?_, ?_, ?_, ?_⟩
    all_goals first | (simp [go_sem]; done) | (simp; done)
  rintro W ⟨HW, MW, p0, p1, p2, zW⟩
  have c12 := HW.out.at0 12 _ rfl
  rw [show lvV ({ s with last := at', gaps := 0 } : St).st b = .func (.func 56) #[.pointer (some ⟨b, 0, none⟩)] #[] from by unfold lvV; rw [← LF.out]] at c12
  have lW := HW.out.lt
  clear HX MX H B1 c17 c18 f17 f18 a3 LF ks kf
  have kl := fun (W' : World) (k : Below W.heap.size W W') => warn_spec (WatchAt.ru (HW.out.later k)) OK.out v1 v0 iv
  have km := fun (W' : World) (k : Below W.heap.size W W') => move_spec (HW.out.later k) (levW R (V v1 v0))
  go_region_with (first
    | (go_at_call 56; (with_reducible refine Calls.mono (kl _ (by first | exact Below.refl _ _ | exact (Below.refl _ _).drew)) ?_); rintro e w5 ⟨rfl, k5⟩; have j5 : Below W.heap.size W w5 := (by first | exact k5 | exact ((Below.refl W.heap.size W).drew).trans k5))
    | (go_at_call 31; (with_reducible refine Calls.mono (km _ j5) ?_); rintro e w6 k6; obtain ⟨rfl, k7, m7⟩ := k6))
  all_goals
    have nb : w.heap.size ∉ [b] := by simp; omega
    have z5 : w.heap.size < w5.heap.size := Nat.lt_of_lt_of_le zW j5.size
    have r0 := (m7.cell (o := 0) z5 nb).trans ((j5.cell (p := ⟨w.heap.size, 0, none⟩) zW).trans p0)
    have r1 := (m7.cell (o := 1) z5 nb).trans ((j5.cell (p := ⟨w.heap.size, 1, none⟩) zW).trans p1)
    have r2 := (m7.cell (o := 2) z5 nb).trans ((j5.cell (p := ⟨w.heap.size, 2, none⟩) zW).trans p2)
    have ky := say_any k7 at' true v1 v0
    have M6 := hide ((MW.out.trans (Mod.of_below j5)).trans m7)
    clear kl km k7 m7 k5 j5 p0 p1 p2 c12
    go_wp2_with (go_at_call 32; refine ky.mono ?_; rintro e w7 k8; obtain ⟨v, rfl, o8, g8, x8, m8⟩ := k8)
    go_returns
    have q := LV.out
    refine ⟨v, rfl, ?_, fun g e => Nat.le_trans M6.out.size (g8 g e), ?_, M6.out.trans m8⟩
    · unfold fedO stepS valS
      simp only [if_true]
      rw [q]
      exact o8
    · unfold fedS stepS valS
      simp only [if_true]
      rw [q]
      exact x8
set_option maxRecDepth 100000 in
set_option maxHeartbeats 4000000 in
theorem feed_val3 {w : World} {bb mb b : Nat} {L : List Ent} (h : BookA w bb mb L) (nm : ByteArray) (hs : nm.size ≤ maxLen) (R : Ru) (s : St) (hx : (R, s, b) ∈ L) (hb : blkOf L nm = some b) (at' v1 v0 : Int) (a1 : 0 ≤ at') (a2 : at' ≤ 1099511627775) (a3 : s.last < at') (iv : IsW (v1, v0)) (st2 : ¬ s.st = 2) (st3 : s.st = 3) :
    Calls Try.prog 12 #[.pointer (some ⟨bb, 0, none⟩), .string nm, .int .i64 at', .agg #[.bool true, .int .i64 v1, .int .u64 v0]] w (FedPost w b R (fedS R s at' true (V v1 v0)) (fedO R s at' true v1 v0)) := by
  have kf := fun (W : World) (k : Below w.heap.size w W) => find_spec (h.later k) nm hs
  rw [hb] at kf
  simp only [pv, Option.isSome, if_true] at kf
  have ks := second_spec at'
  rw [decide_eq_true ⟨a1, a2⟩] at ks
  have H := hide (h.wat _ hx)
  have OK := hide (h.ok _ hx).1
  simp only at H OK
  have lt := H.out.lt
  have LV : Hid (lev R s.st (V v1 v0) = levC R (V v1 v0)) := by show _ = _; unfold lev; rw [if_neg st2, if_pos st3]
  have LF : Hid (lvF s.st = 57) := by show _ = _; unfold lvF; rw [if_neg st2, if_pos st3]
  clear h hx hb a1 a2
  have B1 : Below w.heap.size w (w.alloc (.cells #[.bool true, .int .i64 v1, .int .u64 v0] 38)) := (Below.refl _ _).alloc (Nat.le_refl _) _
  have c17 := H.out.at0 17 _ rfl
  have c18 := H.out.at0 18 _ rfl
  have f17 := H.out.fr0 17 (by simp [wlx])
  have f18 := H.out.fr0 18 (by simp [wlx])
  have na : ¬ at' ≤ s.last := by omega
  have HX : Hid (WatchAt (((w.setCell ⟨b, 18, none⟩ (.int .i64 at')).setCell ⟨b, 17, none⟩ (.int .i64 0)).alloc (.cells #[.bool true, .int .i64 v1, .int .u64 v0] 38)) b R { s with last := at', gaps := 0 }) :=
    ((H.out.set0 18 (by simp [wlx]) (.int .i64 at')).set0 17 (by simp [wlx]) (.int .i64 0)).later ((Below.refl _ _).alloc (Nat.le_refl _) _)
  have MX : Hid (Mod [b] w (((w.setCell ⟨b, 18, none⟩ (.int .i64 at')).setCell ⟨b, 17, none⟩ (.int .i64 0)).alloc (.cells #[.bool true, .int .i64 v1, .int .u64 v0] 38))) :=
    (((Mod.refl [b] w).setCell (by simp) _).setCell (by simp) _).alloc _
  go_enter Try.func12, Try.ntmps12
  go_wp2_with (first | (go_at_call 28; refine (kf _ B1).mono ?_; rintro e w' ⟨rfl, rfl⟩) | (go_at_call 29; refine (ks _).mono ?_; rintro e w' ⟨rfl, rfl⟩))
  refine abs_wp (fun W => Hid (WatchAt W b R { s with last := at', gaps := 0 }) ∧ Hid (Mod [b] w W) ∧ W.cell? ⟨w.heap.size, 0, none⟩ = some (.bool true) ∧ W.cell? ⟨w.heap.size, 1, none⟩ = some (.int .i64 v1) ∧ W.cell? ⟨w.heap.size, 2, none⟩ = some (.int .u64 v0) ∧ w.heap.size < W.heap.size) ?_ ?_
  · refine ⟨HX, MX, ?_, ?_, ?_, ?_⟩
    all_goals first | (simp [go_sem]; done) | (simp; done)
  rintro W ⟨HW, MW, p0, p1, p2, zW⟩
  have c12 := HW.out.at0 12 _ rfl
  rw [show lvV ({ s with last := at', gaps := 0 } : St).st b = .func (.func 57) #[.pointer (some ⟨b, 0, none⟩)] #[] from by unfold lvV; rw [← LF.out]] at c12
  have lW := HW.out.lt
  clear HX MX H B1 c17 c18 f17 f18 a3 LF ks kf
  have kl := fun (W' : World) (k : Below W.heap.size W W') => crit_spec (WatchAt.ru (HW.out.later k)) OK.out v1 v0 iv
  have km := fun (W' : World) (k : Below W.heap.size W W') => move_spec (HW.out.later k) (levC R (V v1 v0))
  go_region_with (first
    | (go_at_call 57; (with_reducible refine Calls.mono (kl _ (by first | exact Below.refl _ _ | exact (Below.refl _ _).drew)) ?_); rintro e w5 ⟨rfl, k5⟩; have j5 : Below W.heap.size W w5 := (by first | exact k5 | exact ((Below.refl W.heap.size W).drew).trans k5))
    | (go_at_call 31; (with_reducible refine Calls.mono (km _ j5) ?_); rintro e w6 k6; obtain ⟨rfl, k7, m7⟩ := k6))
  all_goals
    have nb : w.heap.size ∉ [b] := by simp; omega
    have z5 : w.heap.size < w5.heap.size := Nat.lt_of_lt_of_le zW j5.size
    have r0 := (m7.cell (o := 0) z5 nb).trans ((j5.cell (p := ⟨w.heap.size, 0, none⟩) zW).trans p0)
    have r1 := (m7.cell (o := 1) z5 nb).trans ((j5.cell (p := ⟨w.heap.size, 1, none⟩) zW).trans p1)
    have r2 := (m7.cell (o := 2) z5 nb).trans ((j5.cell (p := ⟨w.heap.size, 2, none⟩) zW).trans p2)
    have ky := say_any k7 at' true v1 v0
    have M6 := hide ((MW.out.trans (Mod.of_below j5)).trans m7)
    clear kl km k7 m7 k5 j5 p0 p1 p2 c12
    go_wp2_with (go_at_call 32; refine ky.mono ?_; rintro e w7 k8; obtain ⟨v, rfl, o8, g8, x8, m8⟩ := k8)
    go_returns
    have q := LV.out
    refine ⟨v, rfl, ?_, fun g e => Nat.le_trans M6.out.size (g8 g e), ?_, M6.out.trans m8⟩
    · unfold fedO stepS valS
      simp only [if_true]
      rw [q]
      exact o8
    · unfold fedS stepS valS
      simp only [if_true]
      rw [q]
      exact x8
set_option maxRecDepth 100000 in
set_option maxHeartbeats 4000000 in
theorem feed_val1 {w : World} {bb mb b : Nat} {L : List Ent} (h : BookA w bb mb L) (nm : ByteArray) (hs : nm.size ≤ maxLen) (R : Ru) (s : St) (hx : (R, s, b) ∈ L) (hb : blkOf L nm = some b) (at' v1 v0 : Int) (a1 : 0 ≤ at') (a2 : at' ≤ 1099511627775) (a3 : s.last < at') (iv : IsW (v1, v0)) (st2 : ¬ s.st = 2) (st3 : ¬ s.st = 3) :
    Calls Try.prog 12 #[.pointer (some ⟨bb, 0, none⟩), .string nm, .int .i64 at', .agg #[.bool true, .int .i64 v1, .int .u64 v0]] w (FedPost w b R (fedS R s at' true (V v1 v0)) (fedO R s at' true v1 v0)) := by
  have kf := fun (W : World) (k : Below w.heap.size w W) => find_spec (h.later k) nm hs
  rw [hb] at kf
  simp only [pv, Option.isSome, if_true] at kf
  have ks := second_spec at'
  rw [decide_eq_true ⟨a1, a2⟩] at ks
  have H := hide (h.wat _ hx)
  have OK := hide (h.ok _ hx).1
  simp only at H OK
  have lt := H.out.lt
  have LV : Hid (lev R s.st (V v1 v0) = levF R (V v1 v0)) := by show _ = _; unfold lev; rw [if_neg st2, if_neg st3]
  have LF : Hid (lvF s.st = 58) := by show _ = _; unfold lvF; rw [if_neg st2, if_neg st3]
  clear h hx hb a1 a2
  have B1 : Below w.heap.size w (w.alloc (.cells #[.bool true, .int .i64 v1, .int .u64 v0] 38)) := (Below.refl _ _).alloc (Nat.le_refl _) _
  have c17 := H.out.at0 17 _ rfl
  have c18 := H.out.at0 18 _ rfl
  have f17 := H.out.fr0 17 (by simp [wlx])
  have f18 := H.out.fr0 18 (by simp [wlx])
  have na : ¬ at' ≤ s.last := by omega
  have HX : Hid (WatchAt (((w.setCell ⟨b, 18, none⟩ (.int .i64 at')).setCell ⟨b, 17, none⟩ (.int .i64 0)).alloc (.cells #[.bool true, .int .i64 v1, .int .u64 v0] 38)) b R { s with last := at', gaps := 0 }) :=
    ((H.out.set0 18 (by simp [wlx]) (.int .i64 at')).set0 17 (by simp [wlx]) (.int .i64 0)).later ((Below.refl _ _).alloc (Nat.le_refl _) _)
  have MX : Hid (Mod [b] w (((w.setCell ⟨b, 18, none⟩ (.int .i64 at')).setCell ⟨b, 17, none⟩ (.int .i64 0)).alloc (.cells #[.bool true, .int .i64 v1, .int .u64 v0] 38))) :=
    (((Mod.refl [b] w).setCell (by simp) _).setCell (by simp) _).alloc _
  go_enter Try.func12, Try.ntmps12
  go_wp2_with (first | (go_at_call 28; refine (kf _ B1).mono ?_; rintro e w' ⟨rfl, rfl⟩) | (go_at_call 29; refine (ks _).mono ?_; rintro e w' ⟨rfl, rfl⟩))
  refine abs_wp (fun W => Hid (WatchAt W b R { s with last := at', gaps := 0 }) ∧ Hid (Mod [b] w W) ∧ W.cell? ⟨w.heap.size, 0, none⟩ = some (.bool true) ∧ W.cell? ⟨w.heap.size, 1, none⟩ = some (.int .i64 v1) ∧ W.cell? ⟨w.heap.size, 2, none⟩ = some (.int .u64 v0) ∧ w.heap.size < W.heap.size) ?_ ?_
  · refine ⟨HX, MX, ?_, ?_, ?_, ?_⟩
    all_goals first | (simp [go_sem]; done) | (simp; done)
  rintro W ⟨HW, MW, p0, p1, p2, zW⟩
  have c12 := HW.out.at0 12 _ rfl
  rw [show lvV ({ s with last := at', gaps := 0 } : St).st b = .func (.func 58) #[.pointer (some ⟨b, 0, none⟩)] #[] from by unfold lvV; rw [← LF.out]] at c12
  have lW := HW.out.lt
  clear HX MX H B1 c17 c18 f17 f18 a3 LF ks kf
  have kl := fun (W' : World) (k : Below W.heap.size W W') => fine_spec (WatchAt.ru (HW.out.later k)) OK.out v1 v0 iv
  have km := fun (W' : World) (k : Below W.heap.size W W') => move_spec (HW.out.later k) (levF R (V v1 v0))
  go_region_with (first
    | (go_at_call 58; (with_reducible refine Calls.mono (kl _ (by first | exact Below.refl _ _ | exact (Below.refl _ _).drew)) ?_); rintro e w5 ⟨rfl, k5⟩; have j5 : Below W.heap.size W w5 := (by first | exact k5 | exact ((Below.refl W.heap.size W).drew).trans k5))
    | (go_at_call 31; (with_reducible refine Calls.mono (km _ j5) ?_); rintro e w6 k6; obtain ⟨rfl, k7, m7⟩ := k6))
  all_goals
    have nb : w.heap.size ∉ [b] := by simp; omega
    have z5 : w.heap.size < w5.heap.size := Nat.lt_of_lt_of_le zW j5.size
    have r0 := (m7.cell (o := 0) z5 nb).trans ((j5.cell (p := ⟨w.heap.size, 0, none⟩) zW).trans p0)
    have r1 := (m7.cell (o := 1) z5 nb).trans ((j5.cell (p := ⟨w.heap.size, 1, none⟩) zW).trans p1)
    have r2 := (m7.cell (o := 2) z5 nb).trans ((j5.cell (p := ⟨w.heap.size, 2, none⟩) zW).trans p2)
    have ky := say_any k7 at' true v1 v0
    have M6 := hide ((MW.out.trans (Mod.of_below j5)).trans m7)
    clear kl km k7 m7 k5 j5 p0 p1 p2 c12
    go_wp2_with (go_at_call 32; refine ky.mono ?_; rintro e w7 k8; obtain ⟨v, rfl, o8, g8, x8, m8⟩ := k8)
    go_returns
    have q := LV.out
    refine ⟨v, rfl, ?_, fun g e => Nat.le_trans M6.out.size (g8 g e), ?_, M6.out.trans m8⟩
    · unfold fedO stepS valS
      simp only [if_true]
      rw [q]
      exact o8
    · unfold fedS stepS valS
      simp only [if_true]
      rw [q]
      exact x8
end Go.Proofs.Ytnlefakicjojdaa
/- alarm: Feed without a value, Feed that is refused; Mute, State. -/
namespace Go.Proofs.Ytnlefakicjojdaa
set_option linter.unusedVariables false
set_option linter.unusedSimpArgs false
open Go.RowKit W Go.Maps
set_option maxRecDepth 100000 in
set_option maxHeartbeats 4000000 in
theorem feed_gap {w : World} {bb mb b : Nat} {L : List Ent} (h : BookA w bb mb L) (nm : ByteArray) (hs : nm.size ≤ maxLen) (R : Ru) (s : St) (hx : (R, s, b) ∈ L) (hb : blkOf L nm = some b) (at' v1 v0 : Int) (a1 : 0 ≤ at') (a2 : at' ≤ 1099511627775) (a3 : s.last < at') :
    Calls Try.prog 12 #[.pointer (some ⟨bb, 0, none⟩), .string nm, .int .i64 at', .agg #[.bool false, .int .i64 v1, .int .u64 v0]] w (FedPost w b R (fedS R s at' false (V v1 v0)) (fedO R s at' false v1 v0)) := by
  have kf := fun (W : World) (k : Below w.heap.size w W) => find_spec (h.later k) nm hs
  rw [hb] at kf
  simp only [pv, Option.isSome, if_true] at kf
  have ks := second_spec at'
  rw [decide_eq_true ⟨a1, a2⟩] at ks
  have H := hide (h.wat _ hx)
  simp only at H
  have lt := H.out.lt
  clear h hx hb a1 a2
  have B1 : Below w.heap.size w (w.alloc (.cells #[.bool false, .int .i64 v1, .int .u64 v0] 38)) := (Below.refl _ _).alloc (Nat.le_refl _) _
  have c18 := H.out.at0 18 _ rfl
  have f18 := H.out.fr0 18 (by simp [wlx])
  have na : ¬ at' ≤ s.last := by omega
  have RX : Hid (WatchAt (w.setCell ⟨b, 18, none⟩ (.int .i64 at')) b R { s with last := at' }) := H.out.set0 18 (by simp [wlx]) (.int .i64 at')
  have MX : Hid (Mod [b] w (w.setCell ⟨b, 18, none⟩ (.int .i64 at'))) := (Mod.refl [b] w).setCell (by simp) _
  have SX : Hid ((w.setCell ⟨b, 18, none⟩ (.int .i64 at')).heap.size = w.heap.size) := by show _ = _; simp
  go_enter Try.func12, Try.ntmps12
  go_wp2_with (first | (go_at_call 28; refine (kf _ B1).mono ?_; rintro e w' ⟨rfl, rfl⟩) | (go_at_call 29; refine (ks _).mono ?_; rintro e w' ⟨rfl, rfl⟩))
  refine (gap_spec (RX.out.later ((Below.refl _ _).alloc (Nat.le_refl _) _))).mono ?_
  rintro e w6 k6
  obtain ⟨rfl, k7, m7⟩ := k6
  have nb : w.heap.size ∉ [b] := by simp; omega
  have z5 : w.heap.size < ((w.setCell ⟨b, 18, none⟩ (.int .i64 at')).alloc (.cells #[.bool false, .int .i64 0, .int .u64 0] 38)).heap.size := by simp
  have r0 : w6.cell? ⟨w.heap.size, 0, none⟩ = some (.bool false) := (m7.cell (o := 0) z5 nb).trans (by simp [go_sem])
  have r1 : w6.cell? ⟨w.heap.size, 1, none⟩ = some (.int .i64 0) := (m7.cell (o := 1) z5 nb).trans (by simp [go_sem])
  have r2 : w6.cell? ⟨w.heap.size, 2, none⟩ = some (.int .u64 0) := (m7.cell (o := 2) z5 nb).trans (by simp [go_sem])
  have ky := say_any k7 at' false 0 0
  have M6 := hide ((MX.out.alloc _).trans m7)
  have lw6 : w.heap.size < w6.heap.size := Nat.lt_of_lt_of_le z5 m7.size
  clear RX MX H B1 c18 f18 a3 ks kf SX k7 m7 z5
  go_wp2_with (go_at_call 32; refine ky.mono ?_; rintro e w7 k8; obtain ⟨v, rfl, o8, g8, x8, m8⟩ := k8)
  go_returns
  exact ⟨v, rfl, o8, fun g e => Nat.le_trans M6.out.size (g8 g e), x8, M6.out.trans m8⟩
set_option maxRecDepth 100000 in
set_option maxHeartbeats 4000000 in
theorem feed_none {w : World} {bb mb : Nat} {L : List Ent} (h : BookA w bb mb L) (nm : ByteArray) (hs : nm.size ≤ maxLen) (hb : blkOf L nm = none) (at' v1 v0 : Int) (is : Bool) :
    Calls Try.prog 12 #[.pointer (some ⟨bb, 0, none⟩), .string nm, .int .i64 at', .agg #[.bool is, .int .i64 v1, .int .u64 v0]] w fun e w' => e = .returned (.tuple #[.slice none 0 0, .int .i64 231]) ∧ Below w.heap.size w w' := by
  have kf := fun (W : World) (k : Below w.heap.size w W) => find_spec (h.later k) nm hs
  rw [hb] at kf
  simp only [pv, Option.isSome] at kf
  clear h hb
  have B1 : Below w.heap.size w (w.alloc (.cells #[.bool is, .int .i64 v1, .int .u64 v0] 38)) := (Below.refl _ _).alloc (Nat.le_refl _) _
  go_enter Try.func12, Try.ntmps12
  go_wp2_with (go_at_call 28; refine (kf _ B1).mono ?_; rintro e w' ⟨rfl, rfl⟩)
  go_returns
  exact ⟨rfl, B1⟩
set_option maxRecDepth 100000 in
set_option maxHeartbeats 4000000 in
theorem feed_arg {w : World} {bb mb b : Nat} {L : List Ent} (h : BookA w bb mb L) (nm : ByteArray) (hs : nm.size ≤ maxLen) (hb : blkOf L nm = some b) (at' v1 v0 : Int) (is : Bool) (na : ¬ (0 ≤ at' ∧ at' ≤ 1099511627775)) :
    Calls Try.prog 12 #[.pointer (some ⟨bb, 0, none⟩), .string nm, .int .i64 at', .agg #[.bool is, .int .i64 v1, .int .u64 v0]] w fun e w' => e = .returned (.tuple #[.slice none 0 0, .int .i64 1]) ∧ Below w.heap.size w w' := by
  have kf := fun (W : World) (k : Below w.heap.size w W) => find_spec (h.later k) nm hs
  rw [hb] at kf
  simp only [pv, Option.isSome, if_true] at kf
  have ks := second_spec at'
  rw [decide_eq_false na] at ks
  clear h hb na
  have B1 : Below w.heap.size w (w.alloc (.cells #[.bool is, .int .i64 v1, .int .u64 v0] 38)) := (Below.refl _ _).alloc (Nat.le_refl _) _
  go_enter Try.func12, Try.ntmps12
  go_wp2_with (first | (go_at_call 28; refine (kf _ B1).mono ?_; rintro e w' ⟨rfl, rfl⟩) | (go_at_call 29; refine (ks _).mono ?_; rintro e w' ⟨rfl, rfl⟩))
  go_returns
  exact ⟨rfl, B1⟩
set_option maxRecDepth 100000 in
set_option maxHeartbeats 4000000 in
theorem feed_past {w : World} {bb mb b : Nat} {L : List Ent} (h : BookA w bb mb L) (nm : ByteArray) (hs : nm.size ≤ maxLen) (R : Ru) (s : St) (hx : (R, s, b) ∈ L) (hb : blkOf L nm = some b) (at' v1 v0 : Int) (is : Bool) (a1 : 0 ≤ at') (a2 : at' ≤ 1099511627775) (a3 : at' ≤ s.last) :
    Calls Try.prog 12 #[.pointer (some ⟨bb, 0, none⟩), .string nm, .int .i64 at', .agg #[.bool is, .int .i64 v1, .int .u64 v0]] w fun e w' => e = .returned (.tuple #[.slice none 0 0, .int .i64 232]) ∧ Below w.heap.size w w' := by
  have kf := fun (W : World) (k : Below w.heap.size w W) => find_spec (h.later k) nm hs
  rw [hb] at kf
  simp only [pv, Option.isSome, if_true] at kf
  have ks := second_spec at'
  rw [decide_eq_true ⟨a1, a2⟩] at ks
  have H := h.wat _ hx
  simp only at H
  have c18 := H.at0 18 _ rfl
  have lt := H.lt
  clear h hb H hx
  have B1 : Below w.heap.size w (w.alloc (.cells #[.bool is, .int .i64 v1, .int .u64 v0] 38)) := (Below.refl _ _).alloc (Nat.le_refl _) _
  go_enter Try.func12, Try.ntmps12
  go_wp2_with (first | (go_at_call 28; refine (kf _ B1).mono ?_; rintro e w' ⟨rfl, rfl⟩) | (go_at_call 29; refine (ks _).mono ?_; rintro e w' ⟨rfl, rfl⟩))
  go_returns
  exact ⟨rfl, B1⟩
/-- Mute: its answer. -/
def muE (o : Option Nat) (t : Int) : Int := if o.isSome then if 0 ≤ t ∧ t ≤ 1099511627775 then 0 else 1 else 231
set_option maxRecDepth 100000 in
set_option maxHeartbeats 4000000 in
theorem mute_no {w : World} {bb mb : Nat} {L : List Ent} (h : BookA w bb mb L) (nm : ByteArray) (hs : nm.size ≤ maxLen) (t : Int) (hb : blkOf L nm = none ∨ ¬ (0 ≤ t ∧ t ≤ 1099511627775)) :
    CalcN 15 #[.pointer (some ⟨bb, 0, none⟩), .string nm, .int .i64 t] w (.int .i64 (muE (blkOf L nm) t)) := by
  have kf := find_spec h nm hs
  have ks := second_spec t
  clear h
  generalize blkOf L nm = o at kf hb ⊢
  cases o with
  | none =>
    simp only [pv, Option.isSome] at kf
    clear hb
    go_enter Try.func15, Try.ntmps15
    go_wp2_with (first | (go_at_call 28; refine kf.mono ?_; rintro e w' ⟨rfl, rfl⟩))
    go_returns
    exact ⟨rfl, rfl⟩
  | some b =>
    have hb := hb.resolve_left (by simp)
    rw [decide_eq_false hb] at ks
    simp only [pv, Option.isSome, if_true] at kf
    have E : Hid (muE (some b) t = 1) := by show _ = _; unfold muE; simp [hb]
    clear hb
    go_enter Try.func15, Try.ntmps15
    go_wp2_with (first | (go_at_call 28; refine kf.mono ?_; rintro e w' ⟨rfl, rfl⟩) | (go_at_call 29; refine (ks _).mono ?_; rintro e w' ⟨rfl, rfl⟩))
    go_returns
    exact ⟨by rw [E.out]; rfl, rfl⟩
set_option maxRecDepth 100000 in
set_option maxHeartbeats 4000000 in
theorem mute_yes {w : World} {bb mb b : Nat} {L : List Ent} (h : BookA w bb mb L) (nm : ByteArray) (hs : nm.size ≤ maxLen) (R : Ru) (s : St) (hx : (R, s, b) ∈ L) (hb : blkOf L nm = some b) (t : Int) (a1 : 0 ≤ t) (a2 : t ≤ 1099511627775) :
    Calls Try.prog 15 #[.pointer (some ⟨bb, 0, none⟩), .string nm, .int .i64 t] w fun e w' => e = .returned (.int .i64 0) ∧ WatchAt w' b R { s with mute := t } ∧ Mod [b] w w' := by
  have kf := find_spec h nm hs
  rw [hb] at kf
  simp only [pv, Option.isSome, if_true] at kf
  have ks := second_spec t
  rw [decide_eq_true ⟨a1, a2⟩] at ks
  have H := hide (h.wat _ hx)
  simp only at H
  have c19 := H.out.at0 19 _ rfl
  have f19 := H.out.fr0 19 (by simp [wlx])
  have lt := H.out.lt
  clear h hb hx a1 a2
  go_enter Try.func15, Try.ntmps15
  go_wp2_with (first | (go_at_call 28; refine kf.mono ?_; rintro e w' ⟨rfl, rfl⟩) | (go_at_call 29; refine (ks _).mono ?_; rintro e w' ⟨rfl, rfl⟩))
  go_returns
  exact ⟨rfl, H.out.set0 19 (by simp [wlx]) (.int .i64 t), (Mod.refl [b] w).setCell (by simp) _⟩
set_option maxRecDepth 100000 in
set_option maxHeartbeats 4000000 in
theorem state_no {w : World} {bb mb : Nat} {L : List Ent} (h : BookA w bb mb L) (nm : ByteArray) (hs : nm.size ≤ maxLen) (hb : blkOf L nm = none) :
    CalcN 17 #[.pointer (some ⟨bb, 0, none⟩), .string nm] w (.tuple #[.int .i64 0, .bool false]) := by
  have kf := find_spec h nm hs
  rw [hb] at kf
  simp only [pv, Option.isSome] at kf
  clear h hb
  go_enter Try.func17, Try.ntmps17
  go_wp2_with (first | (go_at_call 28; refine kf.mono ?_; rintro e w' ⟨rfl, rfl⟩))
  go_returns
  exact ⟨rfl, rfl⟩
set_option maxRecDepth 100000 in
set_option maxHeartbeats 4000000 in
theorem state_yes {w : World} {bb mb b : Nat} {L : List Ent} (h : BookA w bb mb L) (nm : ByteArray) (hs : nm.size ≤ maxLen) (R : Ru) (s : St) (hx : (R, s, b) ∈ L) (hb : blkOf L nm = some b) :
    CalcN 17 #[.pointer (some ⟨bb, 0, none⟩), .string nm] w (.tuple #[.int .i64 s.st, .bool true]) := by
  have kf := find_spec h nm hs
  rw [hb] at kf
  simp only [pv, Option.isSome, if_true] at kf
  have H := h.wat _ hx
  simp only at H
  have c11 := H.at0 11 _ rfl
  have lt := H.lt
  clear h hb hx H
  go_enter Try.func17, Try.ntmps17
  go_wp2_with (first | (go_at_call 28; refine kf.mono ?_; rintro e w' ⟨rfl, rfl⟩))
  go_returns
  exact ⟨rfl, rfl⟩
end Go.Proofs.Ytnlefakicjojdaa
/- alarm: New. -/
namespace Go.Proofs.Ytnlefakicjojdaa
set_option linter.unusedVariables false
set_option linter.unusedSimpArgs false
open Go.RowKit W Go.Maps
/-- The rules that a slice reads as. -/
structure RulesAt (w : World) (g o : Nat) (L : List Ru) : Prop where
  lt : g < w.heap.size
  cell : ∀ j (hj : j < L.length) k v, (ruL L[j])[k]? = some v → w.cell? ⟨g, o + j * 11 + k, none⟩ = some v
def IsRules (w : World) (a : Option Addr) (L : List Ru) : Prop := L = [] ∨ ∃ g o, a = some ⟨g, o, none⟩ ∧ RulesAt w g o L
theorem RulesAt.later {w w' : World} {g o : Nat} {L : List Ru} (h : RulesAt w g o L) (k : Below w.heap.size w w') : RulesAt w' g o L :=
  ⟨Nat.lt_of_lt_of_le h.lt k.size, fun j hj i v e => (k.cell (p := ⟨g, o + j * 11 + i, none⟩) h.lt).trans (h.cell j hj i v e)⟩
def badI (done : List Ru) : List Ru → Nat → Option Nat
  | [], _ => none
  | R :: r, i => if (∃ x ∈ done, x.nm = R.nm) ∨ mayB R = false then some i else badI (done ++ [R]) r (i + 1)
theorem badI_cons (done : List Ru) (R : Ru) (r : List Ru) (i : Nat) : badI done (R :: r) i = if (∃ x ∈ done, x.nm = R.nm) ∨ mayB R = false then some i else badI (done ++ [R]) r (i + 1) := rfl
theorem RuOk.of {R : Ru} (i : RuW R) (m : mayB R = true) : RuOk R := by
  unfold mayB at m
  simp only [Bool.and_eq_true, decide_eq_true_eq] at m
  exact ⟨i.iw, i.ic, i.is, m.2.1, m.2.2.1, m.2.2.2.1, m.2.2.2.2.1⟩
def NewA (w : World) (L : List Ru) (e : Ending) (w' : World) : Prop :=
  if 64 < L.length then e = .returned (.tuple #[.pointer none, .int .i64 64, .int .i64 3]) ∧ Below w.heap.size w w'
  else match badI [] L 0 with
    | some i => e = .returned (.tuple #[.pointer none, .int .i64 i, .int .i64 230]) ∧ Below w.heap.size w w'
    | none => ∃ bb mb E, e = .returned (.tuple #[.pointer (some ⟨bb, 0, none⟩), .int .i64 0, .int .i64 0]) ∧ BookA w' bb mb E ∧ E.map (fun x => x.1) = L ∧ (∀ x ∈ E, x.2.1 = st0 ∧ w.heap.size ≤ x.2.2) ∧ w.heap.size ≤ bb ∧ w.heap.size ≤ mb ∧ Below w.heap.size w w'
set_option maxRecDepth 100000 in
set_option maxHeartbeats 4000000 in
theorem new_many (L : List Ru) (a : Option Addr) (cap : Nat) (w : World) (n : 64 < L.length) : Calls Try.prog 9 #[.slice a L.length cap] w (NewA w L) := by
  have E : Hid (NewA w L = fun e w' => e = .returned (.tuple #[.pointer none, .int .i64 64, .int .i64 3]) ∧ Below w.heap.size w w') := by
    show _ = _; funext e w'; unfold NewA; rw [if_pos n]
  have n' : (64 : Int) < (L.length : Int) := by omega
  rw [E.out]
  clear E n
  generalize L.length = m at *
  go_enter Try.func9, Try.ntmps9
  go_wp2_with fail
  go_returns
  exact ⟨rfl, Below.refl _ _⟩
theorem NewA.bad {w w' : World} {L : List Ru} {i : Nat} {e : Ending} (n : L.length ≤ 64) (h : badI [] L 0 = some i) (he : e = .returned (.tuple #[.pointer none, .int .i64 i, .int .i64 230])) (hb : Below w.heap.size w w') : NewA w L e w' := by
  unfold NewA; rw [if_neg (by omega), h]; exact ⟨he, hb⟩
theorem NewA.good {w w' : World} {L : List Ru} {bb mb : Nat} {E : List Ent} {e : Ending} (n : L.length ≤ 64) (h : badI [] L 0 = none) (he : e = .returned (.tuple #[.pointer (some ⟨bb, 0, none⟩), .int .i64 0, .int .i64 0])) (bk : BookA w' bb mb E) (f : E.map (fun x => x.1) = L) (each : ∀ x ∈ E, x.2.1 = st0 ∧ w.heap.size ≤ x.2.2) (lb : w.heap.size ≤ bb ∧ w.heap.size ≤ mb) (hb : Below w.heap.size w w') : NewA w L e w' := by
  unfold NewA; rw [if_neg (by omega), h]; exact ⟨bb, mb, E, he, bk, f, each, lb.1, lb.2, hb⟩
/-- Between the rounds. -/
structure NewI (w wr : World) (bb mb : Nat) (L : List Ru) (k : Nat) (E : List Ent) : Prop where
  bk : BookA wr bb mb E
  fst : E.map (fun x => x.1) = L.take k
  each : ∀ x ∈ E, x.2.1 = st0 ∧ w.heap.size ≤ x.2.2
  below : Below w.heap.size w wr
  lb : w.heap.size ≤ bb ∧ w.heap.size ≤ mb
  bad : badI (L.take k) (L.drop k) k = badI [] L 0
theorem turnedM {w w' : World} {b : Nat} (h : w.mapTurned w' b) : Mod [b] w w' := (Mod.refl _ _).grown h.grown (fun k hk => by injection hk with hk; exact .inl (by simp [hk]))
theorem kS_ne {a b : ByteArray} (h : a ≠ b) : kS a ≠ kS b := fun e => h (by
  injection e with e
  exact ByteArray.ext (Array.toList_inj.1 e))
theorem blkOf_snoc (E : List Ent) (x : Ent) (nm : ByteArray) : blkOf (E ++ [x]) nm = (blkOf E nm).or (if x.1.nm = nm then some x.2.2 else none) := by
  unfold blkOf
  rw [List.find?_append]
  cases E.find? fun x => decide (x.1.nm = nm) with
  | some y => simp
  | none => by_cases h : x.1.nm = nm <;> simp [h]
theorem NewI.step {w wr w6 w7 : World} {bb mb k b6 : Nat} {L : List Ru} {E : List Ent} {R : Ru} {D : DataW Unit} (h : NewI w wr bb mb L k E) (k6 : Below wr.heap.size wr w6) (hb : blkOf E R.nm = none) (ok : RuOk R) (l6 : wr.heap.size ≤ b6) (wat : WatchAt w6 b6 R st0)
    (s : ∀ nm : ByteArray, D.atKey (kS nm) (pd none) = pd (blkOf E nm)) (td : IsMap D) (oz : w7.ownsMap Try.prog 9 (ptrElem (H := Unit)) mb (E.length + 1) (D.put (kS R.nm) (pd (some b6)))) (tz : w6.mapTurned w7 mb)
    (tk : L.take (k + 1) = L.take k ++ [R]) (bad : badI (L.take k ++ [R]) (L.drop (k + 1)) (k + 1) = badI [] L 0) : NewI w w7 bb mb L (k + 1) (E ++ [(R, st0, b6)]) := by
  have b0 := h.bk.later k6
  have m7 := turnedM tz
  have lbb := h.bk.lt
  have lmb := h.bk.map.lt
  have lw : ∀ x ∈ E, x.2.2 < wr.heap.size := fun x hx => (h.bk.wat x hx).lt
  have sz := h.below.size
  have nbb : bb ∉ [mb] := by simp; exact fun e => h.bk.ne e.symm
  refine ⟨⟨(m7.cell b0.lt nbb).trans b0.c0, (m7.cell b0.lt nbb).trans b0.c1, Nat.lt_of_lt_of_le b0.lt m7.size, b0.ne, ⟨_, by rw [List.length_append]; exact oz, fun nm => ?_⟩, ?_, ?_, ?_⟩, ?_, ?_, ?_, h.lb, ?_⟩
  · rw [blkOf_snoc]
    by_cases e : R.nm = nm
    · subst e
      rw [atKey_put_same td (show WideAt.IsKeyLit (kS R.nm) from trivial), hb]
      simp
    · rw [atKey_put_other (kS_ne fun q => e q.symm), s nm]
      simp [e]
  · intro x hx
    rcases List.mem_append.1 hx with q | q
    · exact (b0.wat x q).mod m7 (by simp; exact (b0.ok x q).2.2)
    · rw [List.mem_singleton] at q
      subst q
      exact Row.mod wat m7 (by simp; omega)
  · intro x hx
    rcases List.mem_append.1 hx with q | q
    · exact b0.ok x q
    · rw [List.mem_singleton] at q
      subst q
      exact ⟨ok, by simp; omega, by simp; omega⟩
  · refine List.pairwise_append.2 ⟨b0.names, List.pairwise_singleton _ _, fun x hx y hy => ?_⟩
    rw [List.mem_singleton] at hy
    subst hy
    refine ⟨fun e => ?_, by have := lw x hx; simp; omega⟩
    unfold blkOf at hb
    simp only [Option.map_eq_none_iff, List.find?_eq_none] at hb
    exact hb x hx (by simpa using e)
  · rw [List.map_append, h.fst, tk]; rfl
  · intro x hx
    rcases List.mem_append.1 hx with q | q
    · exact h.each x q
    · rw [List.mem_singleton] at q
      subst q
      exact ⟨rfl, by simp; omega⟩
  · exact (h.below.trans (k6.mono sz)).trans (m7.below (Nat.le_trans sz k6.size) (by intro x hx; simp at hx; have := h.lb; omega))
  · rw [tk]; exact bad
set_option maxRecDepth 100000 in
set_option maxHeartbeats 4000000 in
theorem new_few (L : List Ru) (a : Option Addr) (cap : Nat) (w : World) (n : L.length ≤ 64) (hr : IsRules w a L) (hw : ∀ R ∈ L, RuW R ∧ R.nm.size ≤ maxLen) : Calls Try.prog 9 #[.slice a L.length cap] w (NewA w L) := by
  have n' : ¬ (64 : Int) < (L.length : Int) := by omega
  have HR := hide hr
  have HW := hide hw
  have hmm := @run_makeMap Try.prog
  have ES : Hid (NewA w L = NewA w L) := rfl
  obtain ⟨m, hm⟩ : ∃ m, m = L.length := ⟨_, rfl⟩
  rw [← hm] at n n' ⊢
  have HM := hide hm
  clear hr hw hm
  go_enter Try.func9, Try.ntmps9
  go_wp2_with fail
  refine abs_wp (fun W => Hid (NewI w W (w.heap.size + 1) w.heap.size L 0 [])) ?_ ?_
  · refine ⟨⟨by simp [go_sem], by simp [go_sem], by simp, by omega, ⟨.map [], (World.ownsMap_made w _ _ _).alloc _, fun nm => rfl⟩, by simp, by simp, .nil⟩, by simp, by simp, (((Below.refl _ _).alloc (Nat.le_refl _) _).alloc (by simp) _), ⟨by omega, by omega⟩, by simp⟩
  rintro W NW
  obtain ⟨bb, hbb⟩ : ∃ bb, bb = w.heap.size + 1 := ⟨_, rfl⟩
  obtain ⟨mb, hmb⟩ : ∃ mb, mb = w.heap.size := ⟨_, rfl⟩
  rw [← hbb] at NW ⊢
  rw [← hmb] at NW
  clear hbb hmb hmm
  go_loopw [20] (fun i wr => ∃ (k : Nat) (E : List Ent), k ≤ m ∧ i = .int .i64 k ∧ Hid (NewI w wr bb mb L k E)) (fun i _ => m - (intOf i).toNat)
  case atStart => exact ⟨0, [], by omega, rfl, NW⟩
  case round =>
    obtain ⟨k, E, hk, rfl, NI⟩ := hrel
    by_cases hlt : k < m
    · have kL : k < L.length := by have := HM.out; omega
      obtain ⟨g, o, rfl, RA⟩ := HR.out.resolve_left (by intro e; rw [e] at kL; simp at kL)
      have RA1 := RA.later NI.out.below
      obtain ⟨R, hR⟩ : ∃ R, R = L[k] := ⟨_, rfl⟩
      have hin : R ∈ L := by rw [hR]; exact List.getElem_mem _
      have RC := fun j v => RA1.cell k kL j v
      rw [← hR] at RC
      have r0 : wr.cell? ⟨g, o + k * 11, none⟩ = some (.string R.nm) := RC 0 _ rfl
      have r1 := RC 1 _ rfl
      have r2 := RC 2 _ rfl
      have r3 := RC 3 _ rfl
      have r4 := RC 4 _ rfl
      have r5 := RC 5 _ rfl
      have r6 := RC 6 _ rfl
      have r7 := RC 7 _ rfl
      have r8 := RC 8 _ rfl
      have r9 := RC 9 _ rfl
      have r10 := RC 10 _ rfl
      have hlt' : (k : Int) < (m : Int) := by omega
      clear RC RA RA1
      have RW := HW.out R hin
      have OK := hide RW.1
      have NS := hide RW.2
      have dk : L.drop k = R :: L.drop (k + 1) := by rw [hR]; exact List.drop_eq_getElem_cons kL
      have tk : L.take (k + 1) = L.take k ++ [R] := by rw [List.take_add_one, List.getElem?_eq_getElem kL, ← hR]; rfl
      have BD := NI.out.bad
      rw [dk, badI_cons] at BD
      have TK := hide tk
      have b0 := NI.out.bk.lt
      clear hR hin dk tk kL RW
      go_wp2_with fail
      refine abs_wp (fun W2 => Hid (Row W2 wr.heap.size 0 (ruL R)) ∧ Hid (Below wr.heap.size wr W2)) ?_ ?_
      · exact ⟨Row.new _ _ _ _ rfl, (Below.refl _ _).alloc (Nat.le_refl _) _⟩
      rintro W2 ⟨RB, BL⟩
      have B2 := hide (NI.out.bk.later BL.out)
      have hl := fun n => (B2.out.map.mod (w' := W2.drewN n) ((Mod.refl [] W2).drewN n) (by simp)).look R.nm NS.out
      have hl0 := B2.out.map.look R.nm NS.out
      have hld := (B2.out.map.mod (w' := W2.drew) ((Mod.refl [] W2).drew) (by simp)).look R.nm NS.out
      have c1 := B2.out.c1
      have lb2 := B2.out.lt
      have q0 := RB.out.at0 0 _ rfl
      have lr := RB.out.lt
      clear r0 r1 r2 r3 r4 r5 r6 r7 r8 r9 r10 b0 hlt
      have FD : (blkOf E R.nm).isSome = true ↔ ∃ x ∈ L.take k, x.nm = R.nm := by
        rw [← NI.out.fst]
        unfold blkOf
        rw [Option.isSome_map, List.find?_isSome]
        simp
      generalize hbo : blkOf E R.nm = bo at hl hl0 hld FD
      have HBO := hide hbo
      clear hbo
      cases bo with
      | some b9 =>
        rw [if_pos (.inl (FD.1 rfl))] at BD
        simp only [pv] at hl hl0 hld
        go_quiet (fail)
        go_wp2_with fail
        go_returns
        exact NewA.bad (by have := HM.out; omega) BD.symm rfl (below_drewN ((NI.out.below).trans (BL.out.mono NI.out.below.size)) _)
      | none =>
        have FN : ¬ ∃ x ∈ L.take k, x.nm = R.nm := fun z => by have := FD.2 z; simp at this
        simp only [pv] at hl hl0 hld
        have km := may_spec R OK.out
        have MB : Hid ((if mayB R = false then some k else badI (L.take k ++ [R]) (L.drop (k + 1)) (k + 1)) = badI [] L 0) := by
          show _ = _
          rw [← BD]
          simp only [FN, false_or]
        have MT : Hid (mayB R = true → RuOk R) := fun z => RuOk.of OK.out z
        have q1 := RB.out.at0 1 _ rfl
        have q2 := RB.out.at0 2 _ rfl
        have q3 := RB.out.at0 3 _ rfl
        have q4 := RB.out.at0 4 _ rfl
        have q5 := RB.out.at0 5 _ rfl
        have q6 := RB.out.at0 6 _ rfl
        have q7 := RB.out.at0 7 _ rfl
        have q8 := RB.out.at0 8 _ rfl
        have q9 := RB.out.at0 9 _ rfl
        have q10 := RB.out.at0 10 _ rfl
        clear BD FD
        have FH := hide FN
        clear FN
        generalize mayB R = mb9 at km MB MT
        unfold ruV at km
        go_region_with (go_at_call 23; (with_reducible refine Calls.mono (km _) ?_); rintro e w5 ⟨rfl, k5⟩; have j5 : Below W2.heap.size W2 w5 := (by first | exact k5 | exact ((Below.refl W2.heap.size W2).drew).trans k5 | exact (below_drewN (Below.refl W2.heap.size W2) _).trans k5))
        all_goals
          have RB5 := hide (RB.out.later j5)
          have B5 := hide (B2.out.later j5)
          have K5 : Hid (Below wr.heap.size wr w5) := BL.out.trans (j5.mono BL.out.size)
          have c1 := B5.out.c1
          have lb5 := B5.out.lt
          have lr5 := RB5.out.lt
          have q0 := RB5.out.at0 0 _ rfl
          have q1 := RB5.out.at0 1 _ rfl
          have q2 := RB5.out.at0 2 _ rfl
          have q3 := RB5.out.at0 3 _ rfl
          have q4 := RB5.out.at0 4 _ rfl
          have q5 := RB5.out.at0 5 _ rfl
          have q6 := RB5.out.at0 6 _ rfl
          have q7 := RB5.out.at0 7 _ rfl
          have q8 := RB5.out.at0 8 _ rfl
          have q9 := RB5.out.at0 9 _ rfl
          have q10 := RB5.out.at0 10 _ rfl
          clear hl hl0 hld k5 j5 RB B2 BL km lb2 lr
          cases mb9
          · have BD := MB.out
            rw [if_pos rfl] at BD
            go_wp2_with fail
            go_returns
            exact NewA.bad (by have := HM.out; omega) BD.symm rfl (NI.out.below.trans (K5.out.mono NI.out.below.size))
          · have BD := MB.out
            rw [if_neg (by simp)] at BD
            have BDD := hide BD
            have RO := hide (MT.out rfl)
            have kn := newWatch_spec R
            unfold ruV at kn
            have few : E.length < maxLen := by
              have := congrArg List.length NI.out.fst
              rw [List.length_map, List.length_take] at this
              unfold maxLen
              omega
            clear MB MT BD
            go_wp2_with fail
            go_region_with (go_at_call 24; (with_reducible refine Calls.mono (kn _) ?_); rintro e w6 ⟨b6, rfl, l6, wat6, k6⟩; have j6 : Below w5.heap.size w5 w6 := (by first | exact k6 | exact ((Below.refl w5.heap.size w5).drew).trans k6 | exact (below_drewN (Below.refl w5.heap.size w5) _).trans k6); have c16 := (B5.out.later j6).c1; have lb6 := (B5.out.later j6).lt; have q06 := (RB5.out.later j6).at0 0 _ rfl; have lr6 := (RB5.out.later j6).lt; obtain ⟨D, oD, sD⟩ := (B5.out.later j6).map; have ld := oD.isMap; obtain ⟨w7, hz, oz, tz⟩ := oD.store lawS Try.underlying66 few (WideMaps.keyOf_string_mk Try.underlying9 NS.out) (ptrElem_pv (some b6)); simp only [pv] at hz; have WAT := hide wat6; have SD := hide sD; have OZ := hide oz; have TZ := hide tz; have LD := hide ld; clear wat6 sD oz tz ld oD)
            all_goals
              have l6' : wr.heap.size ≤ b6 := Nat.le_trans K5.out.size (by first | exact l6 | simpa using l6)
              have NX := hide (NI.out.step (K5.out.trans (j6.mono K5.out.size)) HBO.out RO.out l6' WAT.out SD.out LD.out OZ.out TZ.out TK.out BDD.out)
              clear hz WAT SD LD OZ TZ q0 q1 q2 q3 q4 q5 q6 q7 q8 q9 q10 q06 c16 c1 RB5 B5 K5 kn
              go_wp2_with fail
              go_roundw
              case rel => exact ⟨k + 1, _, by omega, by go_num, NX⟩
              case measure => simp [intOf]; omega
    · obtain rfl : k = m := by omega
      have F : Hid (E.map (fun x => x.1) = L) := by
        show _ = _
        rw [NI.out.fst, HM.out, List.take_length]
      have BN : Hid (badI [] L 0 = none) := by
        show _ = _
        rw [← NI.out.bad, HM.out, List.drop_length]; rfl
      go_wp2_with fail
      go_returns
      exact NewA.good (by have := HM.out; omega) BN.out rfl NI.out.bk F.out NI.out.each NI.out.lb NI.out.below
end Go.Proofs.Ytnlefakicjojdaa
/- alarm: the rule 'up', reckoned. -/
namespace Go.Proofs.Ytnlefakicjojdaa
set_option linter.unusedVariables false
set_option linter.unusedSimpArgs false
open Go.RowKit W Go.Maps
def upR : Ru := ⟨⟨#[117, 112]⟩, true, 0, 10, 0, 20, 0, 2, 1, 0, 0⟩
theorem upOk : RuW upR := ⟨⟨⟨by decide, by decide⟩, ⟨by decide, by decide⟩⟩, ⟨⟨by decide, by decide⟩, ⟨by decide, by decide⟩⟩, ⟨⟨by decide, by decide⟩, ⟨by decide, by decide⟩⟩⟩
theorem upMay : mayB upR = true := by decide
theorem upBad : badI [] [upR] 0 = none := by rw [badI_cons, if_neg (by rw [upMay]; simp)]; rfl
def s25 : St := fedS upR st0 1 true 25
theorem s25_is : s25 = ⟨3, 3, 1, 0, 0, 0, 1, 0⟩ := rfl
theorem o25_is : fedO upR st0 1 true 0 25 = some [.string ⟨#[117, 112]⟩, .int .i64 1, .int .i64 1, .int .i64 3, .bool false, .bool true, .int .i64 0, .int .u64 25] := by rfl
theorem o19_is : fedO upR ⟨3, 3, 1, 0, 0, 0, 1, 0⟩ 2 true 0 19 = none := by rfl
end Go.Proofs.Ytnlefakicjojdaa
/- alarm: the rule 'up'; alive. -/
namespace Go.Proofs.Ytnlefakicjojdaa
set_option linter.unusedVariables false
set_option linter.unusedSimpArgs false
open Go.RowKit W Go.Maps
def zrL : List Value := [.string ⟨#[]⟩, .bool false, .int .i64 0, .int .u64 0, .int .i64 0, .int .u64 0, .int .i64 0, .int .u64 0, .int .i64 0, .int .i64 0, .int .i64 0]
theorem of10 (w : World) : Calls Try.prog 27 #[.int .i64 10] w fun e w' => e = .returned (.agg #[.int .i64 0, .int .u64 10]) ∧ Below w.heap.size w w' := wof_spec 10 ⟨by omega, by omega⟩ w
theorem of20 (w : World) : Calls Try.prog 27 #[.int .i64 20] w fun e w' => e = .returned (.agg #[.int .i64 0, .int .u64 20]) ∧ Below w.heap.size w w' := wof_spec 20 ⟨by omega, by omega⟩ w
theorem of2 (w : World) : Calls Try.prog 27 #[.int .i64 2] w fun e w' => e = .returned (.agg #[.int .i64 0, .int .u64 2]) ∧ Below w.heap.size w w' := wof_spec 2 ⟨by omega, by omega⟩ w
theorem of25 (w : World) : Calls Try.prog 27 #[.int .i64 25] w fun e w' => e = .returned (.agg #[.int .i64 0, .int .u64 25]) ∧ Below w.heap.size w w' := wof_spec 25 ⟨by omega, by omega⟩ w
theorem of19 (w : World) : Calls Try.prog 27 #[.int .i64 19] w fun e w' => e = .returned (.agg #[.int .i64 0, .int .u64 19]) ∧ Below w.heap.size w w' := wof_spec 19 ⟨by omega, by omega⟩ w
set_option maxRecDepth 100000 in
set_option maxHeartbeats 4000000 in
theorem up_end {w W : World} (R : Ru) (a b c d : Value) (RW : Row W w.heap.size 0 (ruL R)) (BW : Below w.heap.size w W) :
    bodyPost Try.prog Try.f26 (fun e w' => e = Ending.returned (ruV R) ∧ Below w.heap.size w w') Exit.ret { tmps := #[.pointer (some ⟨w.heap.size, 0, none⟩), a, b, c, d], defers := [] } W := by
  have r0 := RW.at0 0 _ rfl
  have r1 := RW.at0 1 _ rfl
  have r2 := RW.at0 2 _ rfl
  have r3 := RW.at0 3 _ rfl
  have r4 := RW.at0 4 _ rfl
  have r5 := RW.at0 5 _ rfl
  have r6 := RW.at0 6 _ rfl
  have r7 := RW.at0 7 _ rfl
  have r8 := RW.at0 8 _ rfl
  have r9 := RW.at0 9 _ rfl
  have r10 := RW.at0 10 _ rfl
  have zl := RW.lt
  clear RW
  refine bodyPost_ret (v := ruV R) ?_ rfl ?_
  · obtain ⟨nm, ab, w1, w0, c1, c0, s1, s0, fr, an, ag⟩ := R
    simp only at r0 r1 r2 r3 r4 r5 r6 r7 r8 r9 r10
    simp [results, Try.results26, go_sem, r0, r1, r2, r3, r4, r5, r6, r7, r8, r9, r10, zl]
    try rfl
  exact ⟨rfl, BW⟩
theorem fill_up {w : World} {b : Nat} (h : Row w b 0 zrL) : Row (((((((((((w.setCell ⟨b, 0, none⟩ (.string ⟨#[117, 112]⟩)).setCell ⟨b, 1, none⟩ (.bool true)).setCell ⟨b, 2, none⟩ (.int .i64 0)).setCell ⟨b, 3, none⟩ (.int .u64 10)).setCell ⟨b, 4, none⟩ (.int .i64 0)).setCell ⟨b, 5, none⟩ (.int .u64 20)).setCell ⟨b, 6, none⟩ (.int .i64 0)).setCell ⟨b, 7, none⟩ (.int .u64 2)).setCell ⟨b, 8, none⟩ (.int .i64 1)).setCell ⟨b, 9, none⟩ (.int .i64 0)).setCell ⟨b, 10, none⟩ (.int .i64 0)) b 0 (ruL upR) := by
  have l0 : zrL.length = 11 := rfl
  have h0 := h.set0 0 (by simp only [List.length_set, l0]; omega) (.string ⟨#[117, 112]⟩)
  have h1 := h0.set0 1 (by simp only [List.length_set, l0]; omega) (.bool true)
  have h2 := h1.set0 2 (by simp only [List.length_set, l0]; omega) (.int .i64 0)
  have h3 := h2.set0 3 (by simp only [List.length_set, l0]; omega) (.int .u64 10)
  have h4 := h3.set0 4 (by simp only [List.length_set, l0]; omega) (.int .i64 0)
  have h5 := h4.set0 5 (by simp only [List.length_set, l0]; omega) (.int .u64 20)
  have h6 := h5.set0 6 (by simp only [List.length_set, l0]; omega) (.int .i64 0)
  have h7 := h6.set0 7 (by simp only [List.length_set, l0]; omega) (.int .u64 2)
  have h8 := h7.set0 8 (by simp only [List.length_set, l0]; omega) (.int .i64 1)
  have h9 := h8.set0 9 (by simp only [List.length_set, l0]; omega) (.int .i64 0)
  have h10 := h9.set0 10 (by simp only [List.length_set, l0]; omega) (.int .i64 0)
  simp only [zrL, List.set_cons_zero, List.set_cons_succ] at h10
  exact h10
set_option maxRecDepth 100000 in
set_option maxHeartbeats 4000000 in
theorem up_spec (w : World) : Calls Try.prog 26 #[] w fun e w' => e = .returned (ruV upR) ∧ Below w.heap.size w w' := by
  have Z0 := hide (Row.new w zrL 53 _ rfl)
  have B0 : Below w.heap.size w (w.alloc (.cells zrL.toArray 53)) := (Below.refl _ _).alloc (Nat.le_refl _) _
  go_enter Try.func26, Try.ntmps26
  go_wp2_with fail
  refine (of10 _).mono ?_
  rintro e v1 ⟨rfl, hb1⟩
  have Z1 := hide (Z0.out.later hb1)
  have B1 := B0.trans (hb1.mono B0.size)
  clear hb1
  go_wp2_with fail
  refine (of20 _).mono ?_
  rintro e v2 ⟨rfl, hb2⟩
  have Z2 := hide (Z1.out.later hb2)
  have B2 := B1.trans (hb2.mono B1.size)
  clear hb2
  go_wp2_with fail
  refine (of2 _).mono ?_
  rintro e v3 ⟨rfl, hb3⟩
  have Z3 := hide (Z2.out.later hb3)
  have B3 := B2.trans (hb3.mono B2.size)
  clear hb3
  have zl := Z3.out.lt
  have z0 := Z3.out.at0 0 _ rfl; have y0 := Z3.out.fr0 0 (by simp [zrL]); have z1 := Z3.out.at0 1 _ rfl; have y1 := Z3.out.fr0 1 (by simp [zrL]); have z2 := Z3.out.at0 2 _ rfl; have y2 := Z3.out.fr0 2 (by simp [zrL]); have z3 := Z3.out.at0 3 _ rfl; have y3 := Z3.out.fr0 3 (by simp [zrL]); have z4 := Z3.out.at0 4 _ rfl; have y4 := Z3.out.fr0 4 (by simp [zrL]); have z5 := Z3.out.at0 5 _ rfl; have y5 := Z3.out.fr0 5 (by simp [zrL]); have z6 := Z3.out.at0 6 _ rfl; have y6 := Z3.out.fr0 6 (by simp [zrL]); have z7 := Z3.out.at0 7 _ rfl; have y7 := Z3.out.fr0 7 (by simp [zrL]); have z8 := Z3.out.at0 8 _ rfl; have y8 := Z3.out.fr0 8 (by simp [zrL]); have z9 := Z3.out.at0 9 _ rfl; have y9 := Z3.out.fr0 9 (by simp [zrL]); have z10 := Z3.out.at0 10 _ rfl; have y10 := Z3.out.fr0 10 (by simp [zrL])
  go_wp2_with fail
  have s3 := B3.size
  refine up_end upR _ _ _ _ (fill_up Z3.out) ?_
  iterate 11 refine Below.setCell ?_ (by simp) _
  exact B3
end Go.Proofs.Ytnlefakicjojdaa
/- alarm: each call on a book: what it answers, what it leaves. -/
namespace Go.Proofs.Ytnlefakicjojdaa
set_option linter.unusedVariables false
set_option linter.unusedSimpArgs false
open Go.RowKit W Go.Maps
def updL (L : List Ent) (b : Nat) (s' : St) : List Ent := L.map fun x => if x.2.2 = b then (x.1, s', x.2.2) else x
theorem updL_one (R : Ru) (s s' : St) (b : Nat) : updL [(R, s, b)] b s' = [(R, s', b)] := by simp [updL]
theorem blkOf_upd (L : List Ent) (b : Nat) (s' : St) (nm : ByteArray) : blkOf (updL L b s') nm = blkOf L nm := by
  induction L with
  | nil => rfl
  | cons x r ih =>
    unfold blkOf updL at ih ⊢
    rw [List.map_cons]
    by_cases h : x.1.nm = nm
    · rw [List.find?_cons_of_pos (by by_cases q : x.2.2 = b <;> simp [q, h]), List.find?_cons_of_pos (by simp [h])]
      by_cases q : x.2.2 = b <;> simp [q]
    · rw [List.find?_cons_of_neg (by by_cases q : x.2.2 = b <;> simp [q, h]), List.find?_cons_of_neg (by simp [h])]
      exact ih
theorem ent_inj {L : List Ent} (h : L.Pairwise fun x y => x.1.nm ≠ y.1.nm ∧ x.2.2 ≠ y.2.2) {x y : Ent} (hx : x ∈ L) (hy : y ∈ L) (e : x.2.2 = y.2.2) : x = y := by
  induction L with
  | nil => cases hx
  | cons z r ih =>
    obtain ⟨h1, h2⟩ := List.pairwise_cons.1 h
    rcases List.mem_cons.1 hx with h3 | h3
    · rcases List.mem_cons.1 hy with h4 | h4
      · rw [h3, h4]
      · exact absurd (h3 ▸ e) (h1 y h4).2
    · rcases List.mem_cons.1 hy with h4 | h4
      · exact absurd (h4 ▸ e.symm) (h1 x h3).2
      · exact ih h2 h3 h4
theorem blkOf_mem {L : List Ent} (h : L.Pairwise fun x y => x.1.nm ≠ y.1.nm ∧ x.2.2 ≠ y.2.2) {R : Ru} {s : St} {b : Nat} (hx : (R, s, b) ∈ L) : blkOf L R.nm = some b := by
  induction L with
  | nil => cases hx
  | cons z r ih =>
    obtain ⟨h1, h2⟩ := List.pairwise_cons.1 h
    unfold blkOf at ih ⊢
    rcases List.mem_cons.1 hx with rfl | hx
    · rw [List.find?_cons_of_pos (by simp)]; rfl
    · rw [List.find?_cons_of_neg (by have := (h1 _ hx).1; simpa using this)]
      exact ih h2 hx
theorem BookA.upd {w w' : World} {bb mb : Nat} {L : List Ent} {R : Ru} {s s' : St} {b : Nat} (h : BookA w bb mb L) (hx : (R, s, b) ∈ L) (m : Mod [b] w w') (wat : WatchAt w' b R s') : BookA w' bb mb (updL L b s') := by
  have ok := h.ok _ hx
  simp only at ok
  refine ⟨(m.cell h.lt (by simp; exact fun e => ok.2.1 e.symm)).trans h.c0, (m.cell h.lt (by simp; exact fun e => ok.2.1 e.symm)).trans h.c1, Nat.lt_of_lt_of_le h.lt m.size, h.ne, ?_, ?_, ?_, ?_⟩
  · obtain ⟨D, o, q⟩ := h.map.mod m (by simp; exact fun e => ok.2.2 e.symm)
    exact ⟨D, by unfold updL; rw [List.length_map]; exact o, fun nm => by rw [blkOf_upd]; exact q nm⟩
  · intro y hy
    obtain ⟨x, hxx, rfl⟩ := List.mem_map.1 hy
    by_cases e : x.2.2 = b
    · have := ent_inj h.names hxx hx e
      subst this
      simpa using wat
    · rw [if_neg e]
      exact (h.wat x hxx).mod m (by simpa using e)
  · intro y hy
    obtain ⟨x, hxx, rfl⟩ := List.mem_map.1 hy
    by_cases e : x.2.2 = b
    · rw [if_pos e]; exact h.ok x hxx
    · rw [if_neg e]; exact h.ok x hxx
  · unfold updL
    rw [List.pairwise_map]
    have key : ∀ z : Ent, (if z.2.2 = b then (z.1, s', z.2.2) else z).1 = z.1 ∧ (if z.2.2 = b then (z.1, s', z.2.2) else z).2.2 = z.2.2 := by intro z; split <;> exact ⟨rfl, rfl⟩
    refine h.names.imp fun {x y} q => ?_
    rw [(key x).1, (key y).1, (key x).2, (key y).2]
    exact q
/-- What Feed answers and leaves at a rule. -/
def feE (s : St) (t : Int) : Int := if 0 ≤ t ∧ t ≤ 1099511627775 then if t ≤ s.last then 232 else 0 else 1
def feO (R : Ru) (s : St) (t : Int) (is : Bool) (v1 v0 : Int) : Option (List Value) := if feE s t = 0 then fedO R s t is v1 v0 else none
def feS (R : Ru) (s : St) (t : Int) (is : Bool) (v : Int) : St := if feE s t = 0 then fedS R s t is v else s
def FeedPost (w : World) (bb mb : Nat) (L : List Ent) (b : Nat) (s' : St) (er : Int) (o : Option (List Value)) (e : Ending) (w' : World) : Prop :=
  ∃ v, e = .returned (.tuple #[v, .int .i64 er]) ∧ AlOut w' v o ∧ (∀ g, v.ownBlock = some g → w.heap.size ≤ g) ∧ BookA w' bb mb (updL L b s') ∧ Mod [b] w w'
theorem updL_same {L : List Ent} (h : L.Pairwise fun x y => x.1.nm ≠ y.1.nm ∧ x.2.2 ≠ y.2.2) {R : Ru} {s : St} {b : Nat} (hx : (R, s, b) ∈ L) : updL L b s = L := by
  unfold updL
  refine (List.map_congr_left fun x hxx => ?_).trans (List.map_id L)
  by_cases e : x.2.2 = b
  · have := ent_inj h hxx hx e
    subst this
    simp
  · rw [if_neg e]; rfl
theorem feed_any {w : World} {bb mb b : Nat} {L : List Ent} (h : BookA w bb mb L) (R : Ru) (s : St) (hx : (R, s, b) ∈ L) (hs : R.nm.size ≤ maxLen) (t v1 v0 : Int) (is : Bool) (iv : IsW (v1, v0)) :
    Calls Try.prog 12 #[.pointer (some ⟨bb, 0, none⟩), .string R.nm, .int .i64 t, .agg #[.bool is, .int .i64 v1, .int .u64 v0]] w (FeedPost w bb mb L b (feS R s t is (V v1 v0)) (feE s t) (feO R s t is v1 v0)) := by
  have hb := blkOf_mem h.names hx
  by_cases a : 0 ≤ t ∧ t ≤ 1099511627775
  · by_cases p : t ≤ s.last
    · have e : feE s t = 232 := by unfold feE; rw [if_pos a, if_pos p]
      have q1 : feS R s t is (V v1 v0) = s := by unfold feS; rw [e]; rfl
      have q2 : feO R s t is v1 v0 = none := by unfold feO; rw [e]; rfl
      rw [e, q1, q2]
      refine (feed_past h R.nm hs R s hx hb t v1 v0 is a.1 a.2 p).mono ?_
      rintro x w' ⟨rfl, k⟩
      exact ⟨_, rfl, rfl, (fun g e => by cases e), by rw [updL_same h.names hx]; exact h.later k, Mod.of_below k⟩
    · have e : feE s t = 0 := by unfold feE; rw [if_pos a, if_neg p]
      have q1 : feS R s t is (V v1 v0) = fedS R s t is (V v1 v0) := by unfold feS; rw [if_pos e]
      have q2 : feO R s t is v1 v0 = fedO R s t is v1 v0 := by unfold feO; rw [if_pos e]
      rw [e, q1, q2]
      have fin : ∀ x w', FedPost w b R (fedS R s t is (V v1 v0)) (fedO R s t is v1 v0) x w' → FeedPost w bb mb L b (fedS R s t is (V v1 v0)) 0 (fedO R s t is v1 v0) x w' := by
        rintro x w' ⟨v, rfl, o, g, wat, m⟩
        exact ⟨v, rfl, o, g, h.upd hx m wat, m⟩
      cases is
      · exact (feed_gap h R.nm hs R s hx hb t v1 v0 a.1 a.2 (by omega)).mono fin
      · by_cases s2 : s.st = 2
        · exact (feed_val2 h R.nm hs R s hx hb t v1 v0 a.1 a.2 (by omega) iv s2).mono fin
        · by_cases s3 : s.st = 3
          · exact (feed_val3 h R.nm hs R s hx hb t v1 v0 a.1 a.2 (by omega) iv s2 s3).mono fin
          · exact (feed_val1 h R.nm hs R s hx hb t v1 v0 a.1 a.2 (by omega) iv s2 s3).mono fin
  · have e : feE s t = 1 := by unfold feE; rw [if_neg a]
    have q1 : feS R s t is (V v1 v0) = s := by unfold feS; rw [e]; rfl
    have q2 : feO R s t is v1 v0 = none := by unfold feO; rw [e]; rfl
    rw [e, q1, q2]
    refine (feed_arg h R.nm hs hb t v1 v0 is a).mono ?_
    rintro x w' ⟨rfl, k⟩
    exact ⟨_, rfl, rfl, (fun g e => by cases e), by rw [updL_same h.names hx]; exact h.later k, Mod.of_below k⟩
def muS (s : St) (t : Int) : St := if 0 ≤ t ∧ t ≤ 1099511627775 then { s with mute := t } else s
def muR (t : Int) : Int := if 0 ≤ t ∧ t ≤ 1099511627775 then 0 else 1
theorem mute_any {w : World} {bb mb b : Nat} {L : List Ent} (h : BookA w bb mb L) (R : Ru) (s : St) (hx : (R, s, b) ∈ L) (hs : R.nm.size ≤ maxLen) (t : Int) :
    Calls Try.prog 15 #[.pointer (some ⟨bb, 0, none⟩), .string R.nm, .int .i64 t] w fun e w' => e = .returned (.int .i64 (muR t)) ∧ BookA w' bb mb (updL L b (muS s t)) ∧ Mod [b] w w' := by
  have hb := blkOf_mem h.names hx
  by_cases a : 0 ≤ t ∧ t ≤ 1099511627775
  · unfold muR muS
    rw [if_pos a, if_pos a]
    refine (mute_yes h R.nm hs R s hx hb t a.1 a.2).mono ?_
    rintro e w' ⟨rfl, wat, m⟩
    exact ⟨rfl, h.upd hx m wat, m⟩
  · unfold muR muS
    rw [if_neg a, if_neg a]
    refine (mute_no h R.nm hs t (.inr a)).mono ?_
    rintro e w' ⟨rfl, rfl⟩
    exact ⟨by rw [hb]; unfold muE; simp [a], by rw [updL_same h.names hx]; exact h, Mod.refl _ _⟩
theorem state_any {w : World} {bb mb b : Nat} {L : List Ent} (h : BookA w bb mb L) (R : Ru) (s : St) (hx : (R, s, b) ∈ L) (hs : R.nm.size ≤ maxLen) :
    CalcN 17 #[.pointer (some ⟨bb, 0, none⟩), .string R.nm] w (.tuple #[.int .i64 s.st, .bool true]) := state_yes h R.nm hs R s hx (blkOf_mem h.names hx)
def OnePost (w : World) (R : Ru) (e : Ending) (w' : World) : Prop := ∃ bb mb b, e = .returned (.tuple #[.pointer (some ⟨bb, 0, none⟩), .int .i64 0, .int .i64 0]) ∧ BookA w' bb mb [(R, st0, b)] ∧ w.heap.size ≤ bb ∧ w.heap.size ≤ mb ∧ w.heap.size ≤ b ∧ Below w.heap.size w w'
theorem new_one (R : Ru) (i : RuW R) (hs : R.nm.size ≤ maxLen) (m : mayB R = true) (w : World) (g cap : Nat) (ra : RulesAt w g 0 [R]) : Calls Try.prog 9 #[.slice (some ⟨g, 0, none⟩) 1 cap] w (OnePost w R) := by
  have nb : badI [] [R] 0 = none := by rw [badI_cons, if_neg (by rw [m]; simp)]; rfl
  have K := new_few [R] (some ⟨g, 0, none⟩) cap w (by simp) (.inr ⟨g, 0, rfl, ra⟩) (by intro x hx; rw [List.mem_singleton] at hx; subst hx; exact ⟨i, hs⟩)
  rw [List.length_singleton] at K
  refine K.mono ?_
  intro e w' h
  unfold NewA at h
  rw [if_neg (by simp), nb] at h
  obtain ⟨bb, mb, E, rfl, bk, f, each, l1, l2, k⟩ := h
  rcases E with _ | ⟨⟨R', s, b⟩, _ | ⟨y, r⟩⟩
  · simp at f
  · have e1 : R' = R := by simpa using f
    obtain ⟨z, l3⟩ := each (R', s, b) List.mem_cons_self
    have z : s = st0 := z
    have l3 : w.heap.size ≤ b := l3
    rw [e1, z] at bk
    exact ⟨bb, mb, b, rfl, bk, l1, l2, l3, k⟩
  · simp at f
theorem new_bad1 (R : Ru) (i : RuW R) (hs : R.nm.size ≤ maxLen) (m : mayB R = false) (w : World) (g cap : Nat) (ra : RulesAt w g 0 [R]) : Calls Try.prog 9 #[.slice (some ⟨g, 0, none⟩) 1 cap] w fun e w' => e = .returned (.tuple #[.pointer none, .int .i64 0, .int .i64 230]) ∧ Below w.heap.size w w' := by
  have nb : badI [] [R] 0 = some 0 := by rw [badI_cons, if_pos (.inr m)]
  have K := new_few [R] (some ⟨g, 0, none⟩) cap w (by simp) (.inr ⟨g, 0, rfl, ra⟩) (by intro x hx; rw [List.mem_singleton] at hx; subst hx; exact ⟨i, hs⟩)
  rw [List.length_singleton] at K
  refine K.mono ?_
  intro e w' h
  unfold NewA at h
  rw [if_neg (by simp), nb] at h
  exact h
theorem rules_one {w : World} {b : Nat} {R : Ru} (h : Row w b 0 (ruL R)) : RulesAt w b 0 [R] := ⟨h.lt, fun j hj k v e => by
  have : j = 0 := by simpa using hj
  subst this
  have := h.at k v (by simpa using e)
  simpa using this⟩
end Go.Proofs.Ytnlefakicjojdaa
/- alarm: books that nobody made. -/
namespace Go.Proofs.Ytnlefakicjojdaa
set_option linter.unusedVariables false
set_option linter.unusedSimpArgs false
open Go.RowKit W Go.Maps
/-- No book, or one that New did not make. -/
def Unm (w : World) (v : Value) : Prop := v = .pointer none ∨ ∃ b, v = .pointer (some ⟨b, 0, none⟩) ∧ w.cell? ⟨b, 0, none⟩ = some (.pointer none) ∧ b < w.heap.size
theorem Unm.later {w w' : World} {v : Value} (h : Unm w v) (k : Below w.heap.size w w') : Unm w' v := by
  rcases h with h | ⟨b, h, c, l⟩
  · exact .inl h
  · exact .inr ⟨b, h, (k.cell (p := ⟨b, 0, none⟩) l).trans c, Nat.lt_of_lt_of_le l k.size⟩
set_option maxRecDepth 100000 in
theorem made_not {w : World} {v : Value} (h : Unm w v) : CalcN 47 #[v] w (.bool false) := by
  rcases h with rfl | ⟨b, rfl, c0, lt⟩
  · go_enter Try.func47, Try.ntmps47
    go_wp2
    go_returns
    exact ⟨rfl, rfl⟩
  · have q : ∀ w, (binOp .eql 24 (.pointer none) (.pointer (some ⟨b, 0, none⟩))).run Try.prog w = .ok (.bool false) w := fun _ => by kernel_rfl
    go_enter Try.func47, Try.ntmps47
    go_wp2
    go_returns
    exact ⟨rfl, rfl⟩
set_option maxRecDepth 100000 in
theorem find_not {w : World} {v : Value} (h : Unm w v) (nm : ByteArray) : CalcN 28 #[v, .string nm] w (.tuple #[.pointer none, .int .i64 4]) := by
  have k := made_not h
  clear h
  go_enter Try.func28, Try.ntmps28
  go_wp2_with (go_at_call 47; refine k.mono ?_; rintro e w' ⟨rfl, rfl⟩)
  go_returns
  exact ⟨rfl, rfl⟩
set_option maxRecDepth 100000 in
theorem feed_not {w : World} {v : Value} (h : Unm w v) (nm : ByteArray) (at' v1 v0 : Int) (is : Bool) :
    Calls Try.prog 12 #[v, .string nm, .int .i64 at', .agg #[.bool is, .int .i64 v1, .int .u64 v0]] w fun e w' => e = .returned (.tuple #[.slice none 0 0, .int .i64 4]) ∧ Below w.heap.size w w' := by
  have kf := fun (W : World) (k : Below w.heap.size w W) => find_not (h.later k) nm
  clear h
  have B1 : Below w.heap.size w (w.alloc (.cells #[.bool is, .int .i64 v1, .int .u64 v0] 38)) := (Below.refl _ _).alloc (Nat.le_refl _) _
  go_enter Try.func12, Try.ntmps12
  go_wp2_with (go_at_call 28; refine (kf _ B1).mono ?_; rintro e w' ⟨rfl, rfl⟩)
  go_returns
  exact ⟨rfl, B1⟩
set_option maxRecDepth 100000 in
theorem mute_not {w : World} {v : Value} (h : Unm w v) (nm : ByteArray) (t : Int) : CalcN 15 #[v, .string nm, .int .i64 t] w (.int .i64 4) := by
  have kf := find_not h nm
  clear h
  go_enter Try.func15, Try.ntmps15
  go_wp2_with (go_at_call 28; refine kf.mono ?_; rintro e w' ⟨rfl, rfl⟩)
  go_returns
  exact ⟨rfl, rfl⟩
set_option maxRecDepth 100000 in
theorem state_not {w : World} {v : Value} (h : Unm w v) (nm : ByteArray) : CalcN 17 #[v, .string nm] w (.tuple #[.int .i64 0, .bool false]) := by
  have kf := find_not h nm
  clear h
  go_enter Try.func17, Try.ntmps17
  go_wp2_with (go_at_call 28; refine kf.mono ?_; rintro e w' ⟨rfl, rfl⟩)
  go_returns
  exact ⟨rfl, rfl⟩
end Go.Proofs.Ytnlefakicjojdaa
