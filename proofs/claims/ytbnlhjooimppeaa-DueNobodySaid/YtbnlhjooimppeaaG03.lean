/- Texts that belong together: Sd Sp Qa Qb Sq Se Si Sj Sall Sgk Ssrt Salw Srd Sf Sg. -/
import Derived.Test.YtbnlhjooimppeaaG02
import Derived.Deep.Slices
import Derived.Test.YtbnlhjooimppeaaG01
import Derived.Deep.CutRange
import Derived.Maps.RangeWalk
import Derived.Sort.MapsRangeIn
import Derived.Shelf.SlSortCmp.WholeK
import Derived.Shelf.SlSortCmp.NoneTotal
import Derived.Test.YtbnlhjooimppeaaShelf
import Derived.Test.YtbnlhjooimppeaaShelg
import Derived.Deep.SlicePairs
import Derived.ChangeArms
import Derived.ChangeAlike
import Derived.ChangeOld
import Derived.OpenShut
set_option linter.unusedSimpArgs false
set_option linter.unusedVariables false
/- source: hear. -/
namespace Go.Proofs.Ytbnlhjooimppeaa
set_option linter.unusedVariables false
set_option linter.unusedSimpArgs false
open Go.RowKit W Go.Maps
def srcOf (A : List Sr) (name : ByteArray) : Sr := (findS A name).getD (ByteArray.empty, 0, 0)
/-- What becomes of a source that is heard. -/
def newS (A : List Sr) (name : ByteArray) (at' now : Int) : Sr := (name, max (srcOf A name).2.1 at', max (srcOf A name).2.2 now)
def HearP (B : Nat) (w : World) (b : Tb) (lim : Nat) (late idle : Int) (v1 v2 : Value) (A : List Sr) (mark c : Int) (e : Ending) (w' : World) : Prop :=
  ∃ v1' v2' r1' r2', e = .returned (.int .i64 c) ∧ TM B w' b lim late idle v1' v2' A r1' r2' mark ∧ Chg (tS b v1 v2) w w' ∧ Mvd w v1 v1' ∧ Mvd w v2 v2'
theorem rkM_mark {A : List Sr} {r : List En} (h : QS (fun s => s.2.1) A r) (hs : Sorted ltE r) (late mark : Int) : rkM r late mark = markS A late mark := by
  unfold markS
  rw [h.head hs]
  cases r <;> rfl
theorem markS_bounds {A : List Sr} {late mark : Int} (hs : ∀ s ∈ A, (0 ≤ s.2.1 ∧ s.2.1 ≤ 1099511627775)) (hl : 0 ≤ late ∧ late ≤ 1099511627775) (hm : 0 ≤ mark ∧ mark ≤ 1099511627775) : 0 ≤ markS A late mark ∧ markS A late mark ≤ 1099511627775 := by
  unfold markS
  cases e : leastS A with
  | none => exact hm
  | some m =>
    obtain ⟨_, t, ht, rfl⟩ := leastS_spec e
    have := hs t ht
    simp only
    omega
/-- A table behind a source that was heard, put together. -/
theorem TPl.hear {lim : Nat} {late idle : Int} {A : List Sr} {r1 r2 : List En} {mark : Int} {s : Sr} (h : TPl lim late idle A r1 r2 mark) (k1 : Keys r1) (k2 : Keys r2) (hs : (0 ≤ s.2.1 ∧ s.2.1 ≤ 1099511627775) ∧ (0 ≤ s.2.2 ∧ s.2.2 ≤ 1099511627775) ∧ s.1.size ≤ maxLen) :
    TPl lim late idle (putS A s) (setR r1 s.1 (s.2.2 + idle)) (setR r2 s.1 s.2.1) (markS (putS A s) late mark) := by
  have sec : ∀ t ∈ putS A s, (0 ≤ t.2.1 ∧ t.2.1 ≤ 1099511627775) ∧ (0 ≤ t.2.2 ∧ t.2.2 ≤ 1099511627775) ∧ t.1.size ≤ maxLen := fun t ht => by
    rcases (mem_putS h.names).1 ht with q | ⟨q, _⟩
    · subst q; exact hs
    · exact h.sec t q
  exact ⟨h.names.put s, h.s1.put h.names k1 s, h.s2.put h.names k2 s, sec, h.lt, h.id, markS_bounds (fun t ht => (sec t ht).1) h.lt h.mkb, h.lim⟩
section
variable {B : Nat} {w : World} {b : Tb} {lim : Nat} {late idle : Int} {v1 v2 : Value} {A : List Sr} {r1 r2 : List En} {mark : Int}
theorem look11 {n : Nat} {M : ByteArray → Option Sr} {sb : Nat} (h : MapG elS w sb n M) (name : ByteArray) (hs : name.size ≤ maxLen) :
    (Instr.lookup 110 (.map (some sb)) (.string name) false).run Try.prog w = .ok (srV ((M name).getD (ByteArray.empty, 0, 0))) w := h.look1 unMapS (z := (ByteArray.empty, 0, 0)) (zeroS w) name hs
set_option maxRecDepth 100000 in
set_option maxHeartbeats 8000000 in
theorem hear_yes (h : TM B w b lim late idle v1 v2 A r1 r2 mark) (hB : B ≤ w.heap.size) (name : ByteArray) (hs : name.size ≤ maxLen) (at' now : Int) (ha : 0 ≤ at' ∧ at' ≤ 1099511627775) (hn : 0 ≤ now ∧ now ≤ 1099511627775) (cc : (findS A name).isSome = true ∨ A.length < lim) :
    Calls Try.prog 66 #[.pointer (some ⟨b.ib, 0, none⟩), .string name, .int .i64 at', .int .i64 now] w (HearP B w b lim late idle v1 v2 (putS A (newS A name at' now)) (markS (putS A (newS A name at' now)) late mark) 0) := by
  have sb : (0 ≤ (srcOf A name).2.1 ∧ (srcOf A name).2.1 ≤ 1099511627775) ∧ (0 ≤ (srcOf A name).2.2 ∧ (srcOf A name).2.2 ≤ 1099511627775) := by
    unfold srcOf
    cases e : findS A name with
    | none => simp
    | some s => exact ⟨(h.pl.sec s ((findS_some h.pl.names).1 e).1).1, (h.pl.sec s ((findS_some h.pl.names).1 e).1).2.1⟩
  have hz := look11 h.mem.m name hs
  rw [show (findS A name).getD (ByteArray.empty, 0, 0) = srcOf A name from rfl] at hz
  obtain ⟨so, hso⟩ : ∃ so, so = srcOf A name := ⟨_, rfl⟩
  have SN : Hid (newS A name at' now = (name, max so.2.1 at', max so.2.2 now)) := by show _ = _; rw [hso]; rfl
  rw [← hso] at hz sb
  have hx1 : hasK r1 name = (findS A name).isSome := h.pl.s1.has h.pl.names name
  have hx2 : hasK r2 name = (findS A name).isSome := h.pl.s2.has h.pl.names name
  have l1 := h.pl.s1.len
  have l2 := h.pl.s2.len
  have ksz := h.mem.old
  have H := hide h
  have c1 := h.mem.i.cell 1 _ rfl
  have li := h.mem.i.lt
  obtain ⟨⟨s1a, s1b⟩, s2a, s2b⟩ := sb
  obtain ⟨ha1, ha2⟩ := ha
  obtain ⟨hn1, hn2⟩ := hn
  obtain ⟨id1, id2⟩ := h.pl.id
  obtain ⟨mx, hmx⟩ : ∃ mx, mx = max so.2.1 at' := ⟨_, rfl⟩
  obtain ⟨ls, hls⟩ : ∃ ls, ls = max so.2.2 now := ⟨_, rfl⟩
  have m1 : 0 ≤ mx ∧ mx ≤ 1099511627775 := by omega
  have m2 : 0 ≤ ls ∧ ls ≤ 1099511627775 := by omega
  have HMX := hide hmx
  have HLS := hide hls
  clear h hso
  go_enter Try.func66, Try.ntmps66
  go_wp2_with fail
  rw [← hmx, ← hls]
  refine abs_wp (fun W1 => Hid (TMem B W1 b lim late idle v1 v2 r1 r2 A.length (findS A) mark) ∧ Hid (Below w.heap.size w W1) ∧ W1.cell? ⟨w.heap.size, 0, none⟩ = some (.string name) ∧ W1.cell? ⟨w.heap.size, 1, none⟩ = some (.int .i64 mx) ∧ W1.cell? ⟨w.heap.size, 2, none⟩ = some (.int .i64 ls) ∧ w.heap.size < W1.heap.size)
    ⟨hide (H.out.mem.later ((Below.refl _ _).alloc (Nat.le_refl _) _)), hide ((Below.refl _ _).alloc (Nat.le_refl _) _), by simp [go_sem], by simp [go_sem], by simp [go_sem], by simp⟩ ?_
  rintro W1 ⟨M1, B1, x0, x1, x2, z1⟩
  have d0 := M1.out.i.cell 0 _ rfl
  have d4 := M1.out.i.cell 4 _ rfl
  have li1 := M1.out.i.lt
  have hB1 : B ≤ W1.heap.size := by omega
  have ks1 := fun (W : World) (q : Below W1.heap.size W1 W) => qset_spec ((M1.out.later q).qa1) (Nat.le_trans hB1 q.size) name hs (ls + idle)
  rw [hx1, l1] at ks1
  have nS1 : ¬ kS3 b.k1 b.m1 v1 w.heap.size := fun q => by have := (ksz _ (.inr (.inr (.inl q)))).2; omega
  have nS2 : ¬ kS3 b.k2 b.m2 v2 w.heap.size := fun q => by have := (ksz _ (.inr (.inr (.inr q)))).2; omega
  have wrp : IntKind.i64.wrap (ls + idle) = ls + idle := by rw [IntKind.wrap_i64]; omega
  clear c1 hz hmx hls
  simp only [if_pos cc] at ks1
  go_cut [39] from 26 (fun s39 w2 => ∃ v1', s39 = .bool false ∧ Hid (TMem B w2 b lim late idle v1' v2 (setR r1 name (ls + idle)) r2 A.length (findS A) mark) ∧ Hid (Chg (kS3 b.k1 b.m1 v1) W1 w2) ∧ Hid (Mvd W1 v1 v1'))
  case first =>
    go_region_with (go_at_call 21; (with_reducible refine Calls.mono (ks1 _ (by first | exact Below.refl _ _ | exact (Below.refl _ _).drew | exact below_drewN (Below.refl _ _) _)) ?_); rintro e w2 ⟨v1', rfl, q2, c2, mv2⟩; have M2 := hide ((M1.out.later (by first | exact Below.refl _ _ | exact (Below.refl _ _).drew | exact below_drewN (Below.refl _ _) _)).set1 q2 c2 mv2); have C2 : Hid (Chg (kS3 b.k1 b.m1 v1) W1 w2) := hide ((Chg.of_below (S := kS3 b.k1 b.m1 v1) (by first | exact Below.refl _ _ | exact (Below.refl _ _).drew | exact below_drewN (Below.refl _ _) _)).trans c2 (fun _ _ q => q)); have V2 : Hid (Mvd W1 v1 v1') := mv2; clear q2 c2 mv2)
    all_goals
      go_wp2_with fail
      go_meet
      case rel => exact ⟨v1', rfl, M2, C2, V2⟩
  rename World => w2
  obtain ⟨v1', rfl, M2, C2, V2⟩ := hcut
  have y0 : w2.cell? ⟨w.heap.size, 0, none⟩ = some (.string name) := (C2.out.cell z1 nS1).trans x0
  have y1 : w2.cell? ⟨w.heap.size, 1, none⟩ = some (.int .i64 mx) := (C2.out.cell z1 nS1).trans x1
  have y2 : w2.cell? ⟨w.heap.size, 2, none⟩ = some (.int .i64 ls) := (C2.out.cell z1 nS1).trans x2
  have z2 := C2.out.size
  have d2 := M2.out.i.cell 2 _ rfl
  have li2 := M2.out.i.lt
  have ks2 := fun (W : World) (q : Below w2.heap.size w2 W) => qset_spec ((M2.out.later q).qa2) (Nat.le_trans (Nat.le_trans hB1 z2) q.size) name hs mx
  rw [hx2, l2] at ks2
  simp only [if_pos cc] at ks2
  clear ks1 x0 x1 x2 d0 d4
  go_wp2_with fail
  go_cut [] from 40 (fun w3 => ∃ v2', Hid (TMem B w3 b lim late idle v1' v2' (setR r1 name (ls + idle)) (setR r2 name mx) A.length (findS A) mark) ∧ Hid (Chg (kS3 b.k2 b.m2 v2) w2 w3) ∧ Hid (Mvd w2 v2 v2'))
  case first =>
    go_region_with (go_at_call 21; (with_reducible refine Calls.mono (ks2 _ (by first | exact Below.refl _ _ | exact (Below.refl _ _).drew | exact below_drewN (Below.refl _ _) _)) ?_); rintro e w3 ⟨v2', rfl, q3, c3, mv3⟩; have M3 := hide ((M2.out.later (by first | exact Below.refl _ _ | exact (Below.refl _ _).drew | exact below_drewN (Below.refl _ _) _)).set2 q3 c3 mv3); have C3 : Hid (Chg (kS3 b.k2 b.m2 v2) w2 w3) := hide ((Chg.of_below (S := kS3 b.k2 b.m2 v2) (by first | exact Below.refl _ _ | exact (Below.refl _ _).drew | exact below_drewN (Below.refl _ _) _)).trans c3 (fun _ _ q => q)); have V3 : Hid (Mvd w2 v2 v2') := mv3; clear q3 c3 mv3)
    all_goals
      go_wp2_with fail
      go_meet
      case rel => exact ⟨v2', M3, C3, V3⟩
  rename World => w3
  obtain ⟨v2', M3, C3, V3⟩ := hcut
  have z3 := C3.out.size
  have x0 : w3.cell? ⟨w.heap.size, 0, none⟩ = some (.string name) := (C3.out.cell (by omega) nS2).trans y0
  have x1 : w3.cell? ⟨w.heap.size, 1, none⟩ = some (.int .i64 mx) := (C3.out.cell (by omega) nS2).trans y1
  have x2 : w3.cell? ⟨w.heap.size, 2, none⟩ = some (.int .i64 ls) := (C3.out.cell (by omega) nS2).trans y2
  have d1 := M3.out.i.cell 1 _ rfl
  have Mm : MapG elS w3.drew b.sb A.length (findS A) := M3.out.m.chg (S := fun _ => False) ((Chg.refl _ _).drew) (fun q => q)
  have lA : A.length < maxLen := by have := H.out.mem.qa1.le; have := H.out.pl.lim; have := H.out.pl.s1.len; unfold maxLen; omega
  obtain ⟨w4, hz, mz, tz⟩ := Mm.put unMapS lA name hs (name, mx, ls)
  rw [elS_enc] at hz
  have M4 := hide ((M3.out.later (w' := w3.drew) ((Below.refl _ _).drew)).setM mz (mapTurned_chg tz))
  have C4 := hide (mapTurned_chg tz)
  have kr := reckon_spec M4.out.i M4.out.qa2 H.out.pl.lt (fun x hx => by
    rcases mem_setR.1 hx with q | ⟨q, _⟩
    · rw [q]; exact m1
    · obtain ⟨t, ht, rfl⟩ := (H.out.pl.s2.mem x).1 q
      exact (H.out.pl.sec t ht).1)
  clear Mm mz tz ks2 y0 y1 y2 d2
  go_wp2_with fail
  go_region
  all_goals
    go_wp2_with (go_at_call 77; refine kr.mono ?_; rintro e w5 ⟨rfl, b5, c5⟩)
    go_returns
    obtain ⟨e, he⟩ : ∃ s', s' = newS A name at' now := ⟨_, rfl⟩
    rw [← he]
    rw [SN.out] at he
    rw [← HMX.out, ← HLS.out] at he
    subst he
    have PL := H.out.pl.hear (s := (name, mx, ls)) H.out.mem.qa1.keys H.out.mem.qa2.keys ⟨m1, m2, hs⟩
    have M5 := M4.out.setK b5 c5
    rw [rkM_mark PL.s2 (M4.out.qa2.srt)] at M5
    have e1 : (if (findS A name).isSome = true then A.length else A.length + 1) = (putS A (name, mx, ls)).length := (putS_len H.out.pl.names (name, mx, ls)).symm
    have e2 : updM (findS A) name (some (name, mx, ls)) = findS (putS A (name, mx, ls)) := by
      funext k
      rw [find_putS H.out.pl.names]
      rfl
    rw [e1, e2] at M5
    refine ⟨v1', v2', _, _, rfl, ⟨M5, PL⟩, ?_, ?_, ?_⟩
    · have q1 : Chg (tS b v1 v2) w W1 := Chg.of_below B1.out
      have q2 : Chg (tS b v1 v2) W1 w2 := C2.out.mono (fun k q => .inr (.inr (.inl q)))
      have q3 : Chg (tS b v1 v2) w2 w3 := C3.out.mono (fun k q => .inr (.inr (.inr q)))
      have q4 : Chg (tS b v1 v2) w3 w4 := (Chg.refl (tS b v1 v2) w3).drew.trans (C4.out.mono (S' := tS b v1 v2) (fun k (q : k = b.sb) => .inr (.inl q))) (fun _ _ q => q)
      have q5 : Chg (tS b v1 v2) w4 w5 := c5.mono (fun k (q : k = b.ib) => .inl q)
      exact (((q1.trans q2 (fun _ _ q => q)).trans q3 (fun _ _ q => q)).trans q4 (fun _ _ q => q)).trans q5 (fun _ _ q => q)
    · exact fun k q => (V2.out k q).imp id (fun z => by omega)
    · exact fun k q => (V3.out k q).imp id (fun z => by omega)
set_option maxRecDepth 100000 in
set_option maxHeartbeats 8000000 in
theorem hear_no (h : TM B w b lim late idle v1 v2 A r1 r2 mark) (hB : B ≤ w.heap.size) (name : ByteArray) (hs : name.size ≤ maxLen) (at' now : Int) (ha : 0 ≤ at' ∧ at' ≤ 1099511627775) (hn : 0 ≤ now ∧ now ≤ 1099511627775) (cc : ¬ ((findS A name).isSome = true ∨ A.length < lim)) :
    Calls Try.prog 66 #[.pointer (some ⟨b.ib, 0, none⟩), .string name, .int .i64 at', .int .i64 now] w (HearP B w b lim late idle v1 v2 A mark 110) := by
  have sb : (0 ≤ (srcOf A name).2.1 ∧ (srcOf A name).2.1 ≤ 1099511627775) ∧ (0 ≤ (srcOf A name).2.2 ∧ (srcOf A name).2.2 ≤ 1099511627775) := by
    unfold srcOf
    cases e : findS A name with
    | none => simp
    | some s => exact ⟨(h.pl.sec s ((findS_some h.pl.names).1 e).1).1, (h.pl.sec s ((findS_some h.pl.names).1 e).1).2.1⟩
  have hz := look11 h.mem.m name hs
  rw [show (findS A name).getD (ByteArray.empty, 0, 0) = srcOf A name from rfl] at hz
  obtain ⟨so, hso⟩ : ∃ so, so = srcOf A name := ⟨_, rfl⟩
  have SN : Hid (newS A name at' now = (name, max so.2.1 at', max so.2.2 now)) := by show _ = _; rw [hso]; rfl
  rw [← hso] at hz sb
  have hx1 : hasK r1 name = (findS A name).isSome := h.pl.s1.has h.pl.names name
  have hx2 : hasK r2 name = (findS A name).isSome := h.pl.s2.has h.pl.names name
  have l1 := h.pl.s1.len
  have l2 := h.pl.s2.len
  have ksz := h.mem.old
  have H := hide h
  have c1 := h.mem.i.cell 1 _ rfl
  have li := h.mem.i.lt
  obtain ⟨⟨s1a, s1b⟩, s2a, s2b⟩ := sb
  obtain ⟨ha1, ha2⟩ := ha
  obtain ⟨hn1, hn2⟩ := hn
  obtain ⟨id1, id2⟩ := h.pl.id
  obtain ⟨mx, hmx⟩ : ∃ mx, mx = max so.2.1 at' := ⟨_, rfl⟩
  obtain ⟨ls, hls⟩ : ∃ ls, ls = max so.2.2 now := ⟨_, rfl⟩
  have m1 : 0 ≤ mx ∧ mx ≤ 1099511627775 := by omega
  have m2 : 0 ≤ ls ∧ ls ≤ 1099511627775 := by omega
  have HMX := hide hmx
  have HLS := hide hls
  clear h hso
  go_enter Try.func66, Try.ntmps66
  go_wp2_with fail
  rw [← hmx, ← hls]
  refine abs_wp (fun W1 => Hid (TMem B W1 b lim late idle v1 v2 r1 r2 A.length (findS A) mark) ∧ Hid (Below w.heap.size w W1) ∧ W1.cell? ⟨w.heap.size, 0, none⟩ = some (.string name) ∧ W1.cell? ⟨w.heap.size, 1, none⟩ = some (.int .i64 mx) ∧ W1.cell? ⟨w.heap.size, 2, none⟩ = some (.int .i64 ls) ∧ w.heap.size < W1.heap.size)
    ⟨hide (H.out.mem.later ((Below.refl _ _).alloc (Nat.le_refl _) _)), hide ((Below.refl _ _).alloc (Nat.le_refl _) _), by simp [go_sem], by simp [go_sem], by simp [go_sem], by simp⟩ ?_
  rintro W1 ⟨M1, B1, x0, x1, x2, z1⟩
  have d0 := M1.out.i.cell 0 _ rfl
  have d4 := M1.out.i.cell 4 _ rfl
  have li1 := M1.out.i.lt
  have hB1 : B ≤ W1.heap.size := by omega
  have ks1 := fun (W : World) (q : Below W1.heap.size W1 W) => qset_spec ((M1.out.later q).qa1) (Nat.le_trans hB1 q.size) name hs (ls + idle)
  rw [hx1, l1] at ks1
  have nS1 : ¬ kS3 b.k1 b.m1 v1 w.heap.size := fun q => by have := (ksz _ (.inr (.inr (.inl q)))).2; omega
  have nS2 : ¬ kS3 b.k2 b.m2 v2 w.heap.size := fun q => by have := (ksz _ (.inr (.inr (.inr q)))).2; omega
  have wrp : IntKind.i64.wrap (ls + idle) = ls + idle := by rw [IntKind.wrap_i64]; omega
  clear c1 hz hmx hls
  simp only [if_neg cc] at ks1
  go_cut [39] from 26 (fun s39 w2 => ∃ v1', s39 = .bool true ∧ Hid (TMem B w2 b lim late idle v1' v2 r1 r2 A.length (findS A) mark) ∧ Hid (Chg (kS3 b.k1 b.m1 v1) W1 w2) ∧ Hid (Mvd W1 v1 v1'))
  case first =>
    go_region_with (go_at_call 21; (with_reducible refine Calls.mono (ks1 _ (by first | exact Below.refl _ _ | exact (Below.refl _ _).drew | exact below_drewN (Below.refl _ _) _)) ?_); rintro e w2 ⟨v1', rfl, q2, c2, mv2⟩; have M2 := hide ((M1.out.later (by first | exact Below.refl _ _ | exact (Below.refl _ _).drew | exact below_drewN (Below.refl _ _) _)).set1 q2 c2 mv2); have C2 : Hid (Chg (kS3 b.k1 b.m1 v1) W1 w2) := hide ((Chg.of_below (S := kS3 b.k1 b.m1 v1) (by first | exact Below.refl _ _ | exact (Below.refl _ _).drew | exact below_drewN (Below.refl _ _) _)).trans c2 (fun _ _ q => q)); have V2 : Hid (Mvd W1 v1 v1') := mv2; clear q2 c2 mv2)
    all_goals
      go_wp2_with fail
      go_meet
      case rel => exact ⟨v1', rfl, M2, C2, V2⟩
  obtain ⟨v1', rfl, M2, C2, V2⟩ := hcut
  go_wp2_with fail
  go_returns
  refine ⟨v1', v2, _, _, rfl, ⟨M2.out, H.out.pl⟩, ?_, ?_, Mvd.refl _ _⟩
  · exact (Chg.of_below (S := tS b v1 v2) B1.out).trans (C2.out.mono (fun k q => .inr (.inr (.inl q)))) (fun _ _ q => q)
  · exact fun k q => (V2.out k q).imp id (fun z => by omega)
end
end Go.Proofs.Ytbnlhjooimppeaa
/- source: who goes at a tick, plainly. -/
namespace Go.Proofs.Ytbnlhjooimppeaa
set_option linter.unusedVariables false
set_option linter.unusedSimpArgs false
def dS (A : List Sr) (key : ByteArray) : List Sr := A.filter fun s => !decide (s.1 = key)
def dropL (A : List Sr) (t : List En) : List Sr := A.filter fun s => !hasK t s.1
def stayS (A : List Sr) (idle now : Int) : List Sr := A.filter fun s => decide (now - idle < s.2.2)
def goS (A : List Sr) (idle now : Int) : List Sr := A.filter fun s => !decide (now - idle < s.2.2)
theorem mem_dS {A : List Sr} {key : ByteArray} {s : Sr} : s ∈ dS A key ↔ s ∈ A ∧ s.1 ≠ key := by simp [dS]
theorem Names.dS {A : List Sr} (h : Names A) (key : ByteArray) : Names (dS A key) := h.filter _
theorem find_dS {A : List Sr} (h : Names A) (key k : ByteArray) : findS (dS A key) k = if k = key then none else findS A k := by
  by_cases e : k = key
  · rw [if_pos e, findS_none]
    intro s hs q
    exact (mem_dS.1 hs).2 (q.trans e)
  · rw [if_neg e]
    cases f : findS A k with
    | none =>
      rw [findS_none] at f ⊢
      exact fun s hs => f s (mem_dS.1 hs).1
    | some t =>
      obtain ⟨t1, t2⟩ := (findS_some h).1 f
      exact (findS_some (h.dS key)).2 ⟨mem_dS.2 ⟨t1, fun q => e (t2.symm.trans q)⟩, t2⟩
theorem dS_none {A : List Sr} {key : ByteArray} (h : (findS A key).isSome = false) : dS A key = A := by
  rw [Option.isSome_eq_false_iff, Option.isNone_iff_eq_none, findS_none] at h
  unfold dS
  rw [List.filter_eq_self]
  intro s hs
  simp [h s hs]
theorem dS_len {A : List Sr} (h : Names A) (key : ByteArray) : (dS A key).length = if (findS A key).isSome then A.length - 1 else A.length := by
  induction A with
  | nil => simp [dS, findS]
  | cons a A ih =>
    have h' := List.pairwise_cons.1 h
    by_cases e : a.1 = key
    · have n : (findS A key).isSome = false := by
        rw [Option.isSome_eq_false_iff, Option.isNone_iff_eq_none, findS_none]
        intro s hs q
        exact ltB_ne (h'.1 s hs) (e.trans q.symm)
      have q : dS (a :: A) key = dS A key := by simp [dS, e]
      rw [q, dS_none n]
      simp [findS, e]
    · have q : dS (a :: A) key = a :: dS A key := by simp [dS, e]
      have f : findS (a :: A) key = findS A key := by simp [findS, e]
      rw [q, f, List.length_cons, ih h'.2, List.length_cons]
      cases g : findS A key with
      | none => simp
      | some t =>
        have := List.length_pos_of_mem ((findS_some h'.2).1 g).1
        simp
        omega
theorem QS.drop {f : Sr → Int} {A : List Sr} {r : List En} (h : QS f A r) (hA : Names A) (k : Keys r) (key : ByteArray) : QS f (dS A key) (delK r key) := by
  refine ⟨fun x => ?_, ?_⟩
  · unfold delK
    rw [List.mem_filter, h.mem]
    constructor
    · rintro ⟨⟨s, hs, rfl⟩, q⟩
      exact ⟨s, mem_dS.2 ⟨hs, by simpa using q⟩, rfl⟩
    · rintro ⟨s, hs, rfl⟩
      obtain ⟨h1, h2⟩ := mem_dS.1 hs
      exact ⟨⟨s, h1, rfl⟩, by simpa using h2⟩
  · have e := h.has hA key
    rw [dS_len hA]
    cases q : (findS A key).isSome
    · rw [q] at e
      rw [delK_none e, h.len]; rfl
    · rw [q] at e
      have := delK_len k e
      have := h.len
      simp
      omega
theorem dropL_nil (A : List Sr) : dropL A [] = A := by simp [dropL, hasK]
theorem dropL_snoc (A : List Sr) (t : List En) (x : En) : dropL A (t ++ [x]) = dS (dropL A t) x.1 := by
  unfold dropL dS
  rw [List.filter_filter]
  refine List.filter_congr fun s _ => ?_
  have : hasK (t ++ [x]) s.1 = (hasK t s.1 || decide (s.1 = x.1)) := by simp [hasK, List.any_append, eq_comm]
  rw [this, Bool.not_or, Bool.and_comm]
theorem Names.dropL {A : List Sr} (h : Names A) (t : List En) : Names (dropL A t) := h.filter _
theorem Keys.one {r : List En} (h : Keys r) {x y : En} (hx : x ∈ r) (hy : y ∈ r) (e : x.1 = y.1) : x = y := by
  have a := (atK_some h (key := x.1) (a := x.2)).2 hx
  have b := (atK_some h (key := y.1) (a := y.2)).2 hy
  rw [e, b] at a
  injection a with a
  exact Prod.ext e a.symm
theorem drop_stay {A : List Sr} {r : List En} {idle now : Int} (h : QS (fun s => s.2.2 + idle) A r) (hs : Sorted ltE r) (k : Keys r) : dropL A (tkR r now) = stayS A idle now := by
  refine List.filter_congr fun s hsA => ?_
  have hx : (s.1, s.2.2 + idle) ∈ r := (h.mem _).2 ⟨s, hsA, rfl⟩
  by_cases c : now - idle < s.2.2
  · rw [decide_eq_true c]
    cases q : hasK (tkR r now) s.1
    · rfl
    · obtain ⟨e, he, hk⟩ := hasK_iff.1 q
      have hr : e ∈ r := by rw [← tk_dr r now]; exact List.mem_append_left _ he
      have := k.one hr hx hk
      subst this
      have := tk_le he
      simp only at this
      omega
  · rw [decide_eq_false c]
    have : (s.1, s.2.2 + idle) ∈ tkR r now := by
      rw [← tk_dr r now] at hx
      rcases List.mem_append.1 hx with q | q
      · exact q
      · have := dr_gt hs q
        simp only at this
        omega
    rw [hasK_iff.2 ⟨_, this, rfl⟩]; rfl
theorem QS.perm {f : Sr → Int} {A : List Sr} {r : List En} (h : QS f A r) (hA : Names A) (k : Keys r) : r.Perm (A.map fun s => (s.1, f s)) := by
  have n1 : r.Nodup := k.imp (fun q e => q (by rw [e]))
  have n2 : (A.map fun s => ((s.1, f s) : En)).Nodup := by
    refine List.pairwise_map.2 (List.Pairwise.imp ?_ hA)
    intro a b q e
    have e2 : a.1 = b.1 := congrArg (fun p : En => p.1) e
    exact ltB_ne q e2
  refine (List.perm_ext_iff_of_nodup n1 n2).2 fun x => ?_
  rw [h.mem, List.mem_map]
  exact ⟨fun ⟨s, a, b⟩ => ⟨s, a, b.symm⟩, fun ⟨s, a, b⟩ => ⟨s, a, b.symm⟩⟩
theorem dr_filter {r : List En} {now : Int} (hs : Sorted ltE r) : drR r now = r.filter fun e => decide (now < e.2) := by
  have : r.filter (fun e => decide (now < e.2)) = (tkR r now ++ drR r now).filter (fun e => decide (now < e.2)) := by rw [tk_dr]
  rw [this, List.filter_append]
  have a : (tkR r now).filter (fun e => decide (now < e.2)) = [] := by
    rw [List.filter_eq_nil_iff]
    intro x hx
    have := tk_le hx
    simp; omega
  have b : (drR r now).filter (fun e => decide (now < e.2)) = drR r now := by
    rw [List.filter_eq_self]
    intro x hx
    simpa using dr_gt hs hx
  rw [a, b, List.nil_append]
theorem tk_filter {r : List En} {now : Int} (hs : Sorted ltE r) : tkR r now = r.filter fun e => !decide (now < e.2) := by
  have : r.filter (fun e => !decide (now < e.2)) = (tkR r now ++ drR r now).filter (fun e => !decide (now < e.2)) := by rw [tk_dr]
  rw [this, List.filter_append]
  have a : (drR r now).filter (fun e => !decide (now < e.2)) = [] := by
    rw [List.filter_eq_nil_iff]
    intro x hx
    have := dr_gt hs hx
    simp; omega
  have b : (tkR r now).filter (fun e => !decide (now < e.2)) = tkR r now := by
    rw [List.filter_eq_self]
    intro x hx
    have := tk_le hx
    simp; omega
  rw [a, b, List.append_nil]
theorem QS.stay {A : List Sr} {r : List En} {idle now : Int} (h : QS (fun s => s.2.2 + idle) A r) (hA : Names A) (hs : Sorted ltE r) (k : Keys r) : QS (fun s => s.2.2 + idle) (stayS A idle now) (drR r now) := by
  refine ⟨fun x => ?_, ?_⟩
  · rw [mem_dr hs, h.mem]
    constructor
    · rintro ⟨⟨s, hs, rfl⟩, q⟩
      simp only at q
      exact ⟨s, List.mem_filter.2 ⟨hs, by simp; omega⟩, rfl⟩
    · rintro ⟨s, hs, rfl⟩
      obtain ⟨h1, h2⟩ := List.mem_filter.1 hs
      simp at h2
      exact ⟨⟨s, h1, rfl⟩, by simp only; omega⟩
  · have p := (h.perm hA k).filter (fun e => decide (now < e.2))
    rw [← dr_filter hs, List.filter_map] at p
    rw [p.length_eq, List.length_map]
    unfold stayS
    congr 1
    refine List.filter_congr fun s _ => ?_
    simp only [Function.comp, decide_eq_decide]
    omega
/-- By when they were last heard, then by names. -/
def ltL (a b : Sr) : Bool := ltE (a.1, a.2.2) (b.1, b.2.2)
theorem gone_eq {A G : List Sr} {r : List En} {idle now : Int} (h : QS (fun s => s.2.2 + idle) A r) (hA : Names A) (hs : Sorted ltE r) (k : Keys r) (g1 : G.Pairwise fun a b => ltL a b = true) (g2 : G.Perm (goS A idle now)) : G.map (·.1) = (tkR r now).map (·.1) := by
  have e : G.map (fun s => ((s.1, s.2.2 + idle) : En)) = tkR r now := by
    refine sorted_unique ordE ?_ (hs.tk now) ?_
    · refine List.pairwise_map.2 (g1.imp fun {a b} q => ?_)
      rw [ltL, ltE_iff] at q
      rw [ltE_iff]
      simp only at q ⊢
      rcases q with q | ⟨q, z⟩
      · left; omega
      · right; exact ⟨by omega, z⟩
    · refine (g2.map _).trans ?_
      rw [tk_filter hs]
      refine List.Perm.symm (((h.perm hA k).filter _).trans ?_)
      rw [List.filter_map]
      refine List.Perm.of_eq ?_
      congr 1
      unfold goS
      refine List.filter_congr fun s _ => ?_
      simp only [Function.comp]
      congr 1
      rw [decide_eq_decide]
      omega
  rw [← e, List.map_map]
  rfl
theorem Names.stay {A : List Sr} (h : Names A) (idle now : Int) : Names (stayS A idle now) := h.filter _
/-- A table's plain parts behind a tick. -/
theorem TPl.tick {lim : Nat} {late idle : Int} {A : List Sr} {r1 r2 r2' : List En} {mark : Int} (h : TPl lim late idle A r1 r2 mark) (s1 : Sorted ltE r1) (k1 : Keys r1) (now : Int) (q : QS (fun s => s.2.1) (stayS A idle now) r2') :
    TPl lim late idle (stayS A idle now) (drR r1 now) r2' (markS (stayS A idle now) late mark) := by
  have sec : ∀ s ∈ stayS A idle now, _ := fun s hs => h.sec s (List.mem_filter.1 hs).1
  exact ⟨h.names.stay _ _, h.s1.stay h.names s1 k1, q, sec, h.lt, h.id, markS_bounds (fun t ht => (sec t ht).1) h.lt h.mkb, h.lim⟩
theorem ltL_total (a b : Sr) : (!ltL b a || !ltL a b) = true := by
  cases q : ltL b a
  · rfl
  · have := ordE.asym _ _ q
    unfold ltL
    rw [this]; rfl
theorem ltL_trans (a b c : Sr) (h : (!ltL b a) = true) (k : (!ltL c b) = true) : (!ltL c a) = true := by
  rw [Bool.not_eq_true'] at *
  exact ordE.tr _ _ _ k h
/-- Who goes, by when they were last heard. -/
def goneH (A : List Sr) (idle now : Int) : List Sr := (goS A idle now).mergeSort fun a b => !ltL b a
def goneN (A : List Sr) (idle now : Int) : List ByteArray := (goneH A idle now).map (·.1)
theorem goneH_perm (A : List Sr) (idle now : Int) : (goneH A idle now).Perm (goS A idle now) := List.mergeSort_perm _ _
theorem goneH_pair {A : List Sr} (hA : Names A) (idle now : Int) : (goneH A idle now).Pairwise fun a b => ltL a b = true := by
  have p := List.pairwise_mergeSort (le := fun a b : Sr => !ltL b a) ltL_trans ltL_total (goS A idle now)
  have n0 : (goS A idle now).Pairwise fun a b => a.1 ≠ b.1 := (List.Pairwise.filter _ hA).imp (fun q => ltB_ne q)
  have n1 := (List.Perm.pairwise_iff (fun {_ _} q => Ne.symm q) (goneH_perm A idle now)).2 n0
  refine (p.and n1).imp ?_
  rintro a b ⟨q, ne⟩
  cases e : ltL a b
  · have q : ltL b a = false := by simpa using q
    have := ordE.tot _ _ e q
    exact absurd (congrArg Prod.fst this) ne
  · rfl
theorem goneN_tk {A : List Sr} {r : List En} {idle now : Int} (h : QS (fun s => s.2.2 + idle) A r) (hA : Names A) (hs : Sorted ltE r) (k : Keys r) : goneN A idle now = (tkR r now).map (·.1) :=
  gone_eq h hA hs k (goneH_pair hA idle now) (goneH_perm A idle now)
theorem goneN_of {A G : List Sr} {idle now : Int} (hA : Names A) (g1 : G.Pairwise fun a b => ltL a b = true) (g2 : G.Perm (goS A idle now)) : G.map (·.1) = goneN A idle now := by
  have e : G.map (fun s => ((s.1, s.2.2) : En)) = (goneH A idle now).map (fun s => ((s.1, s.2.2) : En)) := by
    refine sorted_unique ordE (List.pairwise_map.2 g1) (List.pairwise_map.2 (goneH_pair hA idle now)) ?_
    exact (g2.trans (goneH_perm A idle now).symm).map _
  have := congrArg (List.map (·.1)) e
  rw [List.map_map, List.map_map] at this
  exact this
end Go.Proofs.Ytbnlhjooimppeaa
/- due: alive. -/
namespace Go.Proofs.Ytbnlhjooimppeaa
set_option linter.unusedVariables false
set_option linter.unusedSimpArgs false
open Go.RowKit W Go.Maps
def kA : ByteArray := ⟨#[97]⟩
def kB : ByteArray := ⟨#[98]⟩
def kC : ByteArray := ⟨#[99]⟩
theorem ar1 : (if hasK [] kB = true ∨ ([] : List En).length < 2 then setR [] kB 5 else []) = [(kB, 5)] := by rw [if_pos (by simp)]; rfl
theorem ar2 : (if hasK [(kB, 5)] kA = true ∨ [((kB, 5) : En)].length < 2 then setR [(kB, 5)] kA 3 else [(kB, 5)]) = [(kA, 3), (kB, 5)] := by rw [if_pos (by simp)]; rfl
theorem ar3 : ¬ (hasK [(kA, 3), (kB, 5)] kC = true ∨ [((kA, 3) : En), (kB, 5)].length < 2) := by decide
theorem set1 {B : Nat} {w : World} {qb kb mb : Nat} {v : Value} (h : QA B w qb kb mb 2 v []) (hB : B ≤ w.heap.size) : Calls Try.prog 21 #[.pointer (some ⟨qb, 0, none⟩), .string ⟨#[98]⟩, .int .i64 5] w (SetP B w qb kb mb 2 v [(kB, 5)] 0) := by
  have k := qset_spec h hB kB (by decide) 5
  rw [ar1, if_pos (by simp)] at k
  exact k
theorem set2 {B : Nat} {w : World} {qb kb mb : Nat} {v : Value} (h : QA B w qb kb mb 2 v [(kB, 5)]) (hB : B ≤ w.heap.size) : Calls Try.prog 21 #[.pointer (some ⟨qb, 0, none⟩), .string ⟨#[97]⟩, .int .i64 3] w (SetP B w qb kb mb 2 v [(kA, 3), (kB, 5)] 0) := by
  have k := qset_spec h hB kA (by decide) 3
  rw [ar2, if_pos (by simp)] at k
  exact k
theorem set3 {B : Nat} {w : World} {qb kb mb : Nat} {v : Value} (h : QA B w qb kb mb 2 v [(kA, 3), (kB, 5)]) (hB : B ≤ w.heap.size) : Calls Try.prog 21 #[.pointer (some ⟨qb, 0, none⟩), .string ⟨#[99]⟩, .int .i64 1] w (SetP B w qb kb mb 2 v [(kA, 3), (kB, 5)] 70) := by
  have k := qset_spec h hB kC (by decide) 1
  rw [if_neg ar3, if_neg ar3] at k
  exact k
theorem SetP.below {B : Nat} {w w' : World} {qb kb mb lim : Nat} {v : Value} {r r' : List En} (h : QA B w qb kb mb lim v r) (hB : B ≤ w.heap.size) (c : Chg (kS3 kb mb v) w w') : Below B w w' := c.below (fun k q => (h.old k q).1) hB
set_option maxRecDepth 100000 in
set_option maxHeartbeats 4000000 in
theorem alive7_spec (w : World) : Calls Try.prog 16 #[] w fun e w' => e = .returned (.bool true) ∧ Below w.heap.size w w' := by
  have k0 := qnew_ok 2 (by decide) (by decide) w
  rw [show ((2 : Nat) : Int) = 2 from rfl] at k0
  go_enter Try.func16, Try.ntmps16
  go_wp2_with (go_at_call 14; refine k0.mono ?_; rintro e w1 ⟨qb, kb, mb, rfl, q1, b1⟩)
  have z1 := b1.size
  refine (set1 q1 z1).mono ?_
  rintro e w2 ⟨v2, rfl, q2, c2, m2⟩
  have B2 := hide (b1.trans (c2.below (fun k q => (q1.old k q).1) z1))
  clear q1 b1 c2 m2 k0
  go_wp2_with fail
  refine (set2 q2 B2.out.size).mono ?_
  rintro e w3 ⟨v3, rfl, q3, c3, m3⟩
  have B3 := hide (B2.out.trans (c3.below (fun k q => (q2.old k q).1) B2.out.size))
  clear q2 c3 m3 B2
  go_wp2_with fail
  refine (set3 q3 B3.out.size).mono ?_
  rintro e w4 ⟨v4, rfl, q4, c4, m4⟩
  have B4 := hide (B3.out.trans (c4.below (fun k q => (q3.old k q).1) B3.out.size))
  clear q3 c4 m4 B3
  go_wp2_with fail
  refine (qnext_spec q4).mono ?_
  rintro e w5 ⟨rfl, b5⟩
  simp only [nxtV, enV, kA]
  have kl : ∀ W, Below w4.heap.size w4 W → CalcN 18 #[.pointer (some ⟨qb, 0, none⟩)] W (.int .i64 2) := fun W b => qlen (q4.later b)
  have z5 := b5.size
  have B5 := hide (B4.out.trans (b5.mono B4.out.size))
  have szB := B5.out.size
  clear q4
  go_wp2_with (go_at_call 18; (with_reducible refine Calls.mono (kl _ (by go_grown)) ?_); rintro e w' ⟨rfl, rfl⟩)
  go_returns
  exact ⟨rfl, B5.out.alloc szB _⟩
end Go.Proofs.Ytbnlhjooimppeaa
/- due: how a list of entries reads; the reference's Before. -/
namespace Go.Proofs.Ytbnlhjooimppeaa
set_option linter.unusedVariables false
set_option linter.unusedSimpArgs false
open Go.RowKit W Go.Maps
/-- Entries in a block. -/
structure LieE (w : World) (g o : Nat) (l : List En) : Prop where
  lt : g < w.heap.size
  at_ : ∀ i (h : i < l.length), w.cell? ⟨g, o + i * 2, none⟩ = some (.string l[i].1) ∧ w.cell? ⟨g, o + i * 2 + 1, none⟩ = some (.int .i64 l[i].2)
/-- A list of entries, as it reads. -/
def IsE (w : World) (a : Option Addr) (l : List En) : Prop := l = [] ∨ ∃ g o, a = some ⟨g, o, none⟩ ∧ LieE w g o l
theorem LieE.chg {S : Nat → Prop} {w w' : World} {g o : Nat} {l : List En} (h : LieE w g o l) (c : Chg S w w') (n : ¬ S g) : LieE w' g o l :=
  ⟨Nat.lt_of_lt_of_le h.lt c.size, fun i hi => ⟨(c.cell h.lt n).trans (h.at_ i hi).1, (c.cell h.lt n).trans (h.at_ i hi).2⟩⟩
theorem LieE.later {w w' : World} {g o : Nat} {l : List En} (h : LieE w g o l) (b : Below w.heap.size w w') : LieE w' g o l := h.chg (S := fun _ => False) (Chg.of_below b) (fun q => q)
theorem IsE.later {w w' : World} {a : Option Addr} {l : List En} (h : IsE w a l) (b : Below w.heap.size w w') : IsE w' a l := h.imp id (fun ⟨g, o, e, k⟩ => ⟨g, o, e, k.later b⟩)
theorem IsE.at_ {w : World} {a : Option Addr} {l : List En} (h : IsE w a l) {i : Nat} (hi : i < l.length) : ∃ g o, a = some ⟨g, o, none⟩ ∧ g < w.heap.size ∧ w.cell? ⟨g, o + i * 2, none⟩ = some (.string l[i].1) ∧ w.cell? ⟨g, o + i * 2 + 1, none⟩ = some (.int .i64 l[i].2) := by
  rcases h with h | ⟨g, o, e, k⟩
  · subst h; simp at hi
  · exact ⟨g, o, e, k.lt, k.at_ i hi⟩
/-- An own row of entries, as it reads. -/
theorem isE_own {w : World} {B n : Nat} {s : Value} {l : List En} (h : w.ownsRow B 43 2 s n (dues l)) (hn : n = l.length) : ∃ a c, s = .slice a n c ∧ IsE w a l := by
  subst hn
  obtain ⟨A, c, rfl, hc, hA⟩ := own_form h
  refine ⟨A, c, rfl, ?_⟩
  cases A with
  | none => exact .inl (List.eq_nil_of_length_eq_zero (hA rfl).1)
  | some ad =>
    rcases h.2 with ⟨e, _⟩ | ⟨g, cap, cur, e, hb, hh, _⟩
    · cases e
    · injection e with e1 _ _
      injection e1 with e1
      subst e1
      exact .inr ⟨g, 0, rfl, blk_lt hh, fun i hi => by
        rw [Nat.zero_add]
        exact ⟨(row_look h).1 _ _ (dues_key hi), (row_look h).1 _ _ (dues_at hi)⟩⟩
set_option maxRecDepth 100000 in
theorem before_spec (a b : En) (w : World) : Calls Try.prog 23 #[enV a, enV b] w fun e w' => e = .returned (.bool (ltE a b)) ∧ Below w.heap.size w w' := by
  unfold ltE ltB
  by_cases h : a.2 < b.2
  · have d := decide_eq_true h
    rw [d, Bool.true_or]
    go_enter Try.func23, Try.ntmps23
    go_wp2_with fail
    go_returns
    exact ⟨rfl, by go_grown⟩
  · have d := decide_eq_false h
    rw [d, Bool.false_or]
    by_cases k : a.2 = b.2
    · have e : (a.2 == b.2) = true := by simpa using k
      rw [decide_eq_true k, Bool.true_and]
      clear k
      go_enter Try.func23, Try.ntmps23
      go_wp2_with fail
      go_returns
      exact ⟨rfl, by go_grown⟩
    · have e : (a.2 == b.2) = false := by simpa using k
      rw [decide_eq_false k, Bool.false_and]
      clear k
      go_enter Try.func23, Try.ntmps23
      go_wp2_with fail
      go_returns
      exact ⟨rfl, by go_grown⟩
end Go.Proofs.Ytbnlhjooimppeaa
/- source: letGo, Tick. -/
namespace Go.Proofs.Ytbnlhjooimppeaa
set_option linter.unusedVariables false
set_option linter.unusedSimpArgs false
open Go.RowKit W Go.Maps
theorem QA.ne_own {B : Nat} {w : World} {qb kb mb lim : Nat} {v : Value} {r : List En} (h : QA B w qb kb mb lim v r) {base e sz m : Nat} {s : Value} {xs : List Value} (o : w.ownsRow base e sz s m xs) (n1 : e ≠ 97) (n2 : 43 ≠ e) : ∀ k, kS3 kb mb v k → ¬ s.ownBlock = some k := by
  obtain ⟨l, hl, _⟩ := h.hq
  rintro k (q | q | q) z
  · subst q; exact hl.kq.km.k.ne_row o n1 z
  · subst q; exact row_ne_map o hl.kq.km.map z
  · exact own_ne hl.kq.km.row o n2 q z
theorem TMem.row {B : Nat} {w w' : World} {b : Tb} {lim : Nat} {late idle : Int} {v1 v2 : Value} {r1 r2 : List En} {n : Nat} {M : ByteArray → Option Sr} {mark : Int} (h : TMem B w b lim late idle v1 v2 r1 r2 n M mark) {base e sz m : Nat} {s : Value} {xs : List Value} (o : w.ownsRow base e sz s m xs)
    (n1 : e ≠ 97) (n2 : 43 ≠ e) (n3 : e ≠ 59) (n4 : e ≠ 112) (n5 : e ≠ 93) (c : Chg (fun k => s.ownBlock = some k) w w') : TMem B w' b lim late idle v1 v2 r1 r2 n M mark :=
  ⟨h.t.chg c (h.t.ne_row o n5), h.i.chg c (h.i.ne_row o n4), h.qa1.chg c (h.qa1.q.ne_row o n3) (h.qa1.ne_own o n1 n2), h.qa2.chg c (h.qa2.q.ne_row o n3) (h.qa2.ne_own o n1 n2), h.m.chg c (row_ne_map o h.m), h.a12, h.as1, h.as2, h.aq1, h.aq2, h.bt, h.bi, h.bs⟩
def nmsL (t : List En) : List Value := t.map fun e => .string e.1
/-- While letGo goes on. -/
structure GoS (B : Nat) (w : World) (b : Tb) (lim : Nat) (late idle : Int) (v1 v2 : Value) (A : List Sr) (t r1' : List En) (mark : Int) (sv v1' : Value) (i : Nat) (wr : World) (s v2' : Value) (r2' : List En) : Prop where
  mem : TMem B wr b lim late idle v1' v2' r1' r2' (dropL A (t.take i)).length (findS (dropL A (t.take i))) mark
  q2 : QS (fun s => s.2.1) (dropL A (t.take i)) r2'
  row : wr.ownsRow w.heap.size 43 2 sv t.length (dues t)
  ap1 : Apt sv v1'
  ap2 : Apt sv v2'
  gone : wr.ownsRow w.heap.size 9 1 s i (nmsL (t.take i))
  chg : Chg (tS b v1 v2) w wr
  mv2 : Mvd w v2 v2'
section
variable {B : Nat} {w wr w3 w4 w5 : World} {b : Tb} {lim : Nat} {late idle : Int} {v1 v2 v1' v2' v3 sv s s' : Value} {A : List Sr} {t r1' r2' : List En} {mark : Int} {i : Nat}
/-- One more name. -/
theorem GoS.named (h : GoS B w b lim late idle v1 v2 A t r1' mark sv v1' i wr s v2' r2') {W : World} {o1 o2 : Obj} (hW : W = (wr.alloc o1).alloc o2) (hg : W.grownBy w3 s.ownBlock) (hB : w.heap.size ≤ wr.heap.size) :
    TMem B w3 b lim late idle v1' v2' r1' r2' (dropL A (t.take i)).length (findS (dropL A (t.take i))) mark ∧ w3.ownsRow w.heap.size 43 2 sv t.length (dues t) ∧ Chg (fun k => s.ownBlock = some k) wr w3 := by
  have C : Chg (fun k => s.ownBlock = some k) wr w3 := by
    subst hW
    exact (((Chg.refl _ _).alloc o1).alloc o2).trans (Chg.grown hg (fun _ e => e)) (fun _ _ q => q)
  exact ⟨h.mem.row h.gone (by decide) (by decide) (by decide) (by decide) (by decide) C, chg_row h.row C (fun k e q => own_ne h.row h.gone (by decide) e q), C⟩
/-- The round's end. -/
theorem GoS.next (h : GoS B w b lim late idle v1 v2 A t r1' mark sv v1' i wr s v2' r2') (hA : Names A) (hi : i < t.length) (hB : w.heap.size ≤ wr.heap.size) (C3 : Chg (fun k => s.ownBlock = some k) wr w3) (M3 : TMem B w3 b lim late idle v1' v2' r1' r2' (dropL A (t.take i)).length (findS (dropL A (t.take i))) mark)
    (R3 : w3.ownsRow w.heap.size 43 2 sv t.length (dues t)) (g3 : w3.ownsRow w.heap.size 9 1 s' (i + 1) (nmsL (t.take i) ++ [.string t[i].1])) (q3 : QA B w4 b.q2 b.k2 b.m2 lim v3 (delK r2' t[i].1)) (c4 : Chg (kS3 b.k2 b.m2 v2') w3 w4) (mv : Mvd w3 v2' v3)
    (m5 : MapG elS w5 b.sb (if (findS (dropL A (t.take i)) t[i].1).isSome then (dropL A (t.take i)).length - 1 else (dropL A (t.take i)).length) (updM (findS (dropL A (t.take i))) t[i].1 none)) (c5 : Chg (· = b.sb) w4 w5) :
    GoS B w b lim late idle v1 v2 A t r1' mark sv v1' (i + 1) w5 s' v3 (delK r2' t[i].1) := by
  have et : t.take (i + 1) = t.take i ++ [t[i]] := by rw [List.take_add_one, List.getElem?_eq_getElem hi]; rfl
  have nA : Names (dropL A (t.take i)) := hA.dropL _
  have M4 := M3.set2 q3 c4 mv
  have M5 := M4.setM m5 c5
  have z3 := C3.size
  have e1 : (dropL A (t.take (i + 1))).length = if (findS (dropL A (t.take i)) t[i].1).isSome then (dropL A (t.take i)).length - 1 else (dropL A (t.take i)).length := by rw [et, dropL_snoc, dS_len nA]
  have e2 : updM (findS (dropL A (t.take i))) t[i].1 none = findS (dropL A (t.take (i + 1))) := by
    funext k
    rw [et, dropL_snoc, find_dS nA]
    rfl
  rw [← e1, e2] at M5
  have row4 : w4.ownsRow w.heap.size 43 2 sv t.length (dues t) := chg_row R3 c4 (fun k e q => by
    obtain ⟨l, hl, _⟩ := M3.qa2.hq
    rcases q with q | q | q
    · subst q; exact hl.kq.km.k.ne_row R3 (by decide) e
    · subst q; exact row_ne_map R3 hl.kq.km.map e
    · exact h.ap2 k e q)
  have gone4 := chg_row g3 c4 (fun k e q => M3.qa2.ne_own g3 (by decide) (by decide) k q e)
  refine ⟨M5, ?_, chg_row row4 c5 (fun k e q => row_ne_map row4 M4.m (q ▸ e)), h.ap1, ?_, ?_, ?_, ?_⟩
  · rw [et, dropL_snoc]
    exact h.q2.drop nA M3.qa2.keys _
  · intro k e q
    rcases mv k q with z | z
    · exact h.ap2 k e z
    · have := (own_old h.row e).2; omega
  · have e3 : nmsL (t.take (i + 1)) = nmsL (t.take i) ++ [.string t[i].1] := by rw [et]; simp only [nmsL, List.map_append]; rfl
    rw [e3]
    exact chg_row gone4 c5 (fun k e q => row_ne_map gone4 M4.m (q ▸ e))
  · have ow := h.gone
    have q1 : Chg (tS b v1 v2) w w3 := h.chg.trans C3 (fun j hj e => by have := (own_old ow e).1; omega)
    have q2 : Chg (tS b v1 v2) w w4 := q1.trans c4 (fun j hj q => by
      rcases q with q | q | q
      · exact .inr (.inr (.inr (.inl q)))
      · exact .inr (.inr (.inr (.inr (.inl q))))
      · rcases h.mv2 j q with z | z
        · exact .inr (.inr (.inr (.inr (.inr z))))
        · omega)
    exact q2.trans c5 (fun j hj (q : j = b.sb) => .inr (.inl q))
  · intro k q
    rcases mv k q with z | z
    · exact h.mv2 k z
    · right; have := h.chg.size; omega
def TickP (B : Nat) (w : World) (b : Tb) (lim : Nat) (late idle : Int) (v1 v2 : Value) (A : List Sr) (mark : Int) (G : List ByteArray) (e : Ending) (w' : World) : Prop :=
  ∃ v1' v2' r1' r2' s, e = .returned s ∧ w'.ownsRow w.heap.size 9 1 s G.length (G.map Value.string) ∧ TM B w' b lim late idle v1' v2' A r1' r2' mark ∧ Chg (tS b v1 v2) w w' ∧ Mvd w v1 v1' ∧ Mvd w v2 v2'
end
section
variable {B : Nat} {w : World} {b : Tb} {lim : Nat} {late idle : Int} {v1 v2 : Value} {A : List Sr} {r1 r2 : List En} {mark : Int}
theorem letgo_fin {now : Int} (h : TM B w b lim late idle v1 v2 A r1 r2 mark) {wr w5 : World} {sv v1' v2' s : Value} {r2' : List En} (g : GoS B w b lim late idle v1 v2 A (tkR r1 now) (drR r1 now) mark sv v1' (tkR r1 now).length wr s v2' r2') (mv1 : Mvd w v1 v1')
    (b5 : Bw w5 b.ib 112 (ibC b late idle (rkM r2' late mark))) (c5 : Chg (· = b.ib) wr w5) : TickP B w b lim late idle v1 v2 (stayS A idle now) (markS (stayS A idle now) late mark) (goneN A idle now) (.returned s) w5 := by
  have et : (tkR r1 now).take (tkR r1 now).length = tkR r1 now := List.take_length
  have ds := drop_stay (now := now) h.pl.s1 h.mem.qa1.srt h.mem.qa1.keys
  obtain ⟨m, q2, row, ap1, ap2, gone, chg, mv2⟩ := g
  rw [et] at m q2 gone
  rw [ds] at m q2
  have PL := h.pl.tick h.mem.qa1.srt h.mem.qa1.keys now q2
  have M5 := m.setK b5 c5
  rw [rkM_mark q2 m.qa2.srt] at M5
  refine ⟨v1', v2', _, _, s, rfl, ?_, ⟨M5, PL⟩, chg.trans c5 (fun j hj (q : j = b.ib) => .inl q), mv1, mv2⟩
  have g2 := chg_row gone c5 (fun k e (q : k = b.ib) => m.i.ne_row gone (by decide) (q ▸ e))
  rw [goneN_tk h.pl.s1 h.pl.names h.mem.qa1.srt h.mem.qa1.keys, List.length_map, List.map_map]
  exact g2
set_option maxRecDepth 100000 in
set_option maxHeartbeats 8000000 in
theorem letgo_spec (h : TM B w b lim late idle v1 v2 A r1 r2 mark) (hB : B ≤ w.heap.size) (now : Int) :
    Calls Try.prog 65 #[.pointer (some ⟨b.ib, 0, none⟩), .int .i64 now] w (TickP B w b lim late idle v1 v2 (stayS A idle now) (markS (stayS A idle now) late mark) (goneN A idle now)) := by
  have kt := qtake_spec h.mem.qa1 hB now
  have c0 := h.mem.i.cell 0 _ rfl
  have li := h.mem.i.lt
  have H := hide h
  obtain ⟨t, ht⟩ : ∃ t, t = tkR r1 now := ⟨_, rfl⟩
  have HT := hide ht
  have ksz := h.mem.old
  have tl : t.length ≤ 1024 := by
    have := tk_dr_len r1 now
    have := h.mem.qa1.le
    have := h.pl.lim
    rw [ht]; omega
  have tsz : Hid (∀ e ∈ t, e.1.size ≤ maxLen) := fun e he => by
    have : e ∈ r1 := by rw [← tk_dr r1 now, ← ht]; exact List.mem_append_left _ he
    obtain ⟨s, hs, rfl⟩ := (h.pl.s1.mem e).1 this
    exact (h.pl.sec s hs).2.2
  have G0 : ∀ w1 v1' sv, Mvd w v1 v1' → Chg (kS3 b.k1 b.m1 v1) w w1 → QA B w1 b.q1 b.k1 b.m1 lim v1' (drR r1 now) → w1.ownsRow w.heap.size 43 2 sv t.length (dues t) → Apt sv v1' → GoS B w b lim late idle v1 v2 A t (drR r1 now) mark sv v1' 0 w1 (.slice none 0 0) v2 r2 := fun w1 v1' sv mv c qa row ap => by
    refine ⟨?_, ?_, row, ap, fun k e q => ?_, World.ownsRow_nil _ _ _ _, c.mono (fun k q => .inr (.inr (.inl q))), Mvd.refl _ _⟩
    · rw [List.take_zero, dropL_nil]; exact h.mem.set1 qa c mv
    · rw [List.take_zero, dropL_nil]; exact h.pl.s2
    · have := (own_old row e).1
      have := (h.mem.qa2.old k (.inr (.inr q))).2
      omega
  have HG0 := hide G0
  rw [show TakeP B w b.q1 b.k1 b.m1 lim v1 r1 now = fun e w' => ∃ v' s, e = .returned s ∧ w'.ownsRow w.heap.size 43 2 s t.length (dues t) ∧ QA B w' b.q1 b.k1 b.m1 lim v' (drR r1 now) ∧ Chg (kS3 b.k1 b.m1 v1) w w' ∧ Mvd w v1 v' ∧ Apt s v' from by rw [ht]; rfl] at kt
  obtain ⟨i0, hi0⟩ : ∃ i0, Hid (Try.prog.info? 9 = some i0 ∧ i0.zero = some (.string ByteArray.empty) ∧ i0.size = 1 ∧ i0.bytes = 16) := by
    obtain ⟨i0, h1, h2, h3, h4⟩ := info_parts info_txt
    exact ⟨i0, h1, h2, h3, h4⟩
  obtain ⟨n, hn⟩ : ∃ n, n = t.length := ⟨_, rfl⟩
  have HN := hide hn
  clear h ht G0
  rw [← hn] at tl
  clear hn
  go_enter Try.func65, Try.ntmps65
  go_wp2_with (go_at_call 22; refine kt.mono ?_; rintro e w1 ⟨v1', sv, rfl, row1, qa1', c1, mv1, ap1⟩; have MV1 := hide mv1; have ST := hide (HG0.out w1 v1' sv mv1 c1 qa1' row1 ap1); have SZ := c1.size; obtain ⟨A1, cp1, rfl, _, _⟩ := own_form row1; rw [← HN.out]; rw [← HN.out] at ST; clear row1 qa1' c1 mv1 ap1 kt HG0 c0)
  go_loopw [5, 15] (fun s5 s15 wr => ∃ (i : Nat) (A5 : Option Addr) (c5 : Nat) (v2' : Value) (r2' : List En), s5 = .slice A5 i c5 ∧ s15 = .int .i64 (i : Int) ∧ i ≤ n ∧ Hid (GoS B w b lim late idle v1 v2 A t (drR r1 now) mark (.slice A1 n cp1) v1' i wr (.slice A5 i c5) v2' r2')) (fun _ s15 _ => n - (intOf s15).toNat)
  case atStart => exact ⟨0, none, 0, v2, r2, rfl, rfl, by omega, ST⟩
  case round =>
    obtain ⟨i, A5, c5, v2', r2', rfl, rfl, hi, G⟩ := hrel
    by_cases hlt : i < n
    · have d1 : decide ((i : Int) < (n : Int)) = true := by rw [decide_eq_true_eq]; omega
      have d2 : decide (i < n) = true := by rw [decide_eq_true_eq]; omega
      have il : i < t.length := by have := HN.out; omega
      obtain ⟨a9, c9, e9, hE⟩ := isE_own G.out.row rfl
      injection e9 with e1 e2 e3
      subst e1
      clear e2 e3
      obtain ⟨g, o, rfl, gl, x0, x1⟩ := hE.at_ il
      obtain ⟨⟨xk, xa⟩, hx⟩ : ∃ x, x = t[i] := ⟨_, rfl⟩
      have HX := hide hx
      rw [← hx] at x0 x1
      dsimp only at x0 x1
      have zw : w.heap.size ≤ wr.heap.size := G.out.chg.size
      have NB : Hid (some wr.heap.size ≠ (Value.slice A5 i c5).ownBlock) := fun e => by have := (own_old G.out.gone e.symm).2; omega
      have xs : xk.size ≤ maxLen := by have := tsz.out t[i] (List.getElem_mem il); rw [← hx] at this; exact this
      have nS2 : ¬ kS3 b.k2 b.m2 v2' wr.heap.size := fun q => by have := (G.out.mem.qa2.old _ q).2; omega
      have NM : wr.heap.size ≠ b.sb := by have := G.out.mem.m.lt; omega
      clear hE hx
      go_wp2_with (first
          | (at_builtin
             refine wpList_append_own_at _ rfl _ _ 78 rfl w.heap.size 9 i0 (.string ByteArray.empty) 1 16 Try.underlying78 hi0.out.1 hi0.out.2.1 hi0.out.2.2.1 hi0.out.2.2.2 ?a1 ?a2 (.slice A5 i c5) i (nmsL (t.take i)) ?a3 ?a4 ⟨wr.heap.size + 1, 0, none⟩ 1 1 [.string xk] ?a5 ?a6 ?a7 ?a8 ?a9 ?b1 ?b2 ?_
             case a1 => rfl
             case a2 => decide
             case a3 => rfl
             case a4 => exact (G.out.gone.alloc _).alloc _
             case a5 => rfl
             case a6 => rfl
             case a7 => exact cells_new' _ _ _ _ (by simp)
             case a8 => exact one_txt
             case a9 => (unfold maxLen; omega)
             case b1 => omega
             case b2 => (simp; omega)
             intro v3 w3 hown hgrow _ hat
             obtain ⟨A3, c3, rfl, _, _⟩ := own_form hown
             have N3 := hide (G.out.named (o1 := .cells #[.string xk, .int .i64 xa] 43) rfl hgrow zw)
             have O3 := hide hown
             have y0 : w3.cell? ⟨wr.heap.size, 0, none⟩ = some (.string xk) := hgrow.cell (a := ⟨wr.heap.size, 0, none⟩) (by simp [go_sem]) NB.out
             have z3 : wr.heap.size < w3.heap.size := Nat.lt_of_lt_of_le (by simp; omega) hgrow.size
             clear hown hgrow hat))
      have M3 := hide N3.out.1
      have z4 : B ≤ w3.heap.size := by have := hB; omega
      have d2' := M3.out.i.cell 2 _ rfl
      have li3 := M3.out.i.lt
      have kd := fun (W : World) (q : Below w3.heap.size w3 W) => qdrop_spec ((M3.out.later q).qa2) (Nat.le_trans z4 q.size) xk xs
      clear x0 x1
      go_cut [] from 24 to 37 (fun w4 => ∃ v3, Hid (QA B w4 b.q2 b.k2 b.m2 lim v3 (delK r2' xk)) ∧ Hid (Chg (kS3 b.k2 b.m2 v2') w3 w4) ∧ Hid (Mvd w3 v2' v3))
      case first =>
        go_region_with (go_at_call 28; (with_reducible refine Calls.mono (kd _ (by first | exact Below.refl _ _ | exact (Below.refl _ _).drew | exact below_drewN (Below.refl _ _) _)) ?_); rintro e w4 ⟨v3, rfl, q4, c4, mv4⟩; have Q4 := hide q4; have C4 : Hid (Chg (kS3 b.k2 b.m2 v2') w3 w4) := hide ((Chg.of_below (S := kS3 b.k2 b.m2 v2') (by first | exact Below.refl _ _ | exact (Below.refl _ _).drew | exact below_drewN (Below.refl _ _) _)).trans c4 (fun _ _ q => q)); have V4 : Hid (Mvd w3 v2' v3) := (fun k q => (mv4 k q).imp id (fun z => Nat.le_trans (by first | exact Nat.le_refl _ | simp) z)); clear q4 c4 mv4)
        all_goals
          go_wp2_with fail
          go_meet
          case rel => exact ⟨v3, Q4, C4, V4⟩
      rename World => w4
      obtain ⟨v3, Q4, C4, V4⟩ := hcut
      have M4 := hide (M3.out.set2 Q4.out C4.out V4.out)
      have y0' : w4.cell? ⟨wr.heap.size, 0, none⟩ = some (.string xk) := (C4.out.cell z3 nS2).trans y0
      have d1' := M4.out.i.cell 1 _ rfl
      have li4 := M4.out.i.lt
      have z5 := C4.out.size
      have z6 : wr.heap.size < w4.heap.size := by omega
      have Mm : MapG elS w4.drew b.sb _ _ := M4.out.m.chg (S := fun _ => False) ((Chg.refl _ _).drew) (fun q => q)
      obtain ⟨w5, hz0⟩ : ∃ w5, (∀ ty, (Builtin.delete_ #[110, 9] ty #[.map (some b.sb), .string xk]).run Try.prog w4.drew = .ok (.tuple #[]) w5) ∧ MapG elS w5 b.sb (if (findS (dropL A (t.take i)) xk).isSome then (dropL A (t.take i)).length - 1 else (dropL A (t.take i)).length) (updM (findS (dropL A (t.take i))) xk none) ∧ w4.drew.mapTurned w5 b.sb := by
        obtain ⟨w5, hz, mz, tz⟩ := Mm.del unMapS xk xs 0
        refine ⟨w5, fun ty => ?_, mz, tz⟩
        obtain ⟨w6, hz3, _, _⟩ := Mm.del unMapS xk xs ty
        rw [← hz]
        unfold Builtin.delete_
        rfl
      obtain ⟨hz, mz, tz⟩ := hz0
      have HZ := hide hz
      have C5 : Hid (Chg (· = b.sb) w4 w5) := ((Chg.refl (· = b.sb) w4).drew.trans (mapTurned_chg tz) (fun _ _ q => q))
      have G5 : Hid (GoS B w b lim late idle v1 v2 A t (drR r1 now) mark (.slice (some ⟨g, o, none⟩) n cp1) v1' (i + 1) w5 (.slice A3 (i + 1) c3) v3 (delK r2' xk)) := by
        have e : xk = t[i].1 := by rw [← HX.out]
        have o3 := O3.out
        rw [e] at mz o3
        have q4 := Q4.out
        rw [e] at q4
        rw [e]
        exact hide (G.out.next H.out.pl.names il zw N3.out.2.2 M3.out N3.out.2.1 o3 q4 C4.out V4.out mz C5.out)
      have y5 : w5.cell? ⟨wr.heap.size, 0, none⟩ = some (.string xk) := (C5.out.cell z6 NM).trans y0'
      clear mz tz hz Mm kd d2' y0
      go_wp2_with fail
      go_region_law ((refine step_delete (by rfl) _ _ 110 9 (by rfl) (.map (some b.sb)) (.string xk) (by rfl) (by rfl) w5 HZ.out ?_))
      all_goals
        go_wp2_with fail
        go_roundw
        case rel => exact ⟨i + 1, A3, c3, v3, delK r2' xk, rfl, by go_num, by omega, G5⟩
        case measure => (first | (simp [intOf]; done) | (simp [intOf]; omega))
    · obtain rfl : i = n := by omega
      have d1 : decide ((i : Int) < (i : Int)) = false := by rw [decide_eq_false_iff_not]; omega
      have d2 : decide (i < i) = false := by rw [decide_eq_false_iff_not]; omega
      have kr := reckon_spec G.out.mem.i G.out.mem.qa2 H.out.pl.lt (fun x hx => by
        obtain ⟨s, hs, rfl⟩ := (G.out.q2.mem x).1 hx
        exact (H.out.pl.sec s (List.mem_filter.1 hs).1).1)
      go_wp2_with (go_at_call 77; refine kr.mono ?_; rintro e w5 ⟨rfl, b5, c5'⟩)
      go_returns
      have g := G.out
      have e := HT.out
      have hn := HN.out
      subst hn
      subst e
      exact letgo_fin H.out g MV1.out b5 c5'
set_option maxRecDepth 100000 in
set_option maxHeartbeats 4000000 in
theorem ttick_spec (h : TM B w b lim late idle v1 v2 A r1 r2 mark) (hB : B ≤ w.heap.size) (now : Int) :
    Calls Try.prog 38 #[.pointer (some ⟨b.tb, 0, none⟩), .int .i64 now] w
      (TickP B w b lim late idle v1 v2 (if secB now then stayS A idle now else A) (if secB now then markS (stayS A idle now) late mark else mark) (if secB now then goneN A idle now else [])) := by
  have km := tmade h
  have k2 := second11 now
  have c1 := h.mem.t.cell 1 _ rfl
  have kg := letgo_spec h hB now
  have H := hide h
  cases hs : secB now with
  | false =>
    simp only [if_neg Bool.false_ne_true]
    rw [hs] at k2
    clear h hs kg
    go_enter Try.func38, Try.ntmps38
    go_wp2_with (first
      | (go_at_call 61; refine km.mono ?_; rintro e w' ⟨rfl, rfl⟩)
      | (go_at_call 56; refine (k2 _).mono ?_; rintro e w' ⟨rfl, rfl⟩))
    go_returns
    exact ⟨v1, v2, r1, r2, _, rfl, World.ownsRow_nil _ _ _ _, H.out, Chg.refl _ _, Mvd.refl _ _, Mvd.refl _ _⟩
  | true =>
    simp only [if_pos rfl]
    rw [hs] at k2
    generalize goneN A idle now = G at kg ⊢
    generalize markS (stayS A idle now) late mark = mk at kg ⊢
    generalize stayS A idle now = A' at kg ⊢
    clear h hs
    go_enter Try.func38, Try.ntmps38
    go_wp2_with (first
      | (go_at_call 61; refine km.mono ?_; rintro e w' ⟨rfl, rfl⟩)
      | (go_at_call 56; refine (k2 _).mono ?_; rintro e w' ⟨rfl, rfl⟩)
      | (go_at_call 65; refine kg.mono ?_; rintro e w5 ⟨v1', v2', r1', r2', s, rfl, o5, t5, c5, mv1, mv2⟩))
    go_returns
    exact ⟨v1', v2', r1', r2', s, rfl, o5, t5, c5, mv1, mv2⟩
end
end Go.Proofs.Ytbnlhjooimppeaa
/- source: Hear, New. -/
namespace Go.Proofs.Ytbnlhjooimppeaa
set_option linter.unusedVariables false
set_option linter.unusedSimpArgs false
open Go.RowKit W Go.Maps
def heOk (lim : Nat) (A : List Sr) (name : ByteArray) (at' now : Int) : Bool := (secB at' && secB now) && ((findS A name).isSome || decide (A.length < lim))
def heC (lim : Nat) (A : List Sr) (name : ByteArray) (at' now : Int) : Int := if (secB at' && secB now) = false then 1 else if heOk lim A name at' now then 0 else 110
def heA (lim : Nat) (A : List Sr) (name : ByteArray) (at' now : Int) : List Sr := if heOk lim A name at' now then putS A (newS A name at' now) else A
def heM (lim : Nat) (late : Int) (A : List Sr) (mark : Int) (name : ByteArray) (at' now : Int) : Int := if heOk lim A name at' now then markS (putS A (newS A name at' now)) late mark else mark
section
variable {B : Nat} {w : World} {b : Tb} {lim : Nat} {late idle : Int} {v1 v2 : Value} {A : List Sr} {r1 r2 : List En} {mark : Int}
theorem secB_iff (t : Int) : secB t = true ↔ 0 ≤ t ∧ t ≤ 1099511627775 := by simp [secB]
theorem hear_any (h : TM B w b lim late idle v1 v2 A r1 r2 mark) (hB : B ≤ w.heap.size) (name : ByteArray) (hs : name.size ≤ maxLen) (at' now : Int) (ha : secB at' = true) (hn : secB now = true) :
    Calls Try.prog 66 #[.pointer (some ⟨b.ib, 0, none⟩), .string name, .int .i64 at', .int .i64 now] w
      (HearP B w b lim late idle v1 v2 (heA lim A name at' now) (heM lim late A mark name at' now) (heC lim A name at' now)) := by
  unfold heA heM heC heOk
  rw [ha, hn]
  by_cases cc : (findS A name).isSome = true ∨ A.length < lim
  · have e : ((findS A name).isSome || decide (A.length < lim)) = true := by simpa using cc
    rw [e]
    exact hear_yes h hB name hs at' now ((secB_iff _).1 ha) ((secB_iff _).1 hn) cc
  · have e : ((findS A name).isSome || decide (A.length < lim)) = false := by
      cases q : ((findS A name).isSome || decide (A.length < lim))
      · rfl
      · exact absurd (by simpa using q) cc
    rw [e]
    exact hear_no h hB name hs at' now ((secB_iff _).1 ha) ((secB_iff _).1 hn) cc
set_option maxRecDepth 100000 in
set_option maxHeartbeats 4000000 in
theorem thear_spec (h : TM B w b lim late idle v1 v2 A r1 r2 mark) (hB : B ≤ w.heap.size) (name : ByteArray) (hs : name.size ≤ maxLen) (at' now : Int) :
    Calls Try.prog 39 #[.pointer (some ⟨b.tb, 0, none⟩), .string name, .int .i64 at', .int .i64 now] w
      (HearP B w b lim late idle v1 v2 (heA lim A name at' now) (heM lim late A mark name at' now) (heC lim A name at' now)) := by
  have km := tmade h
  have k1 := second11 at'
  have k2 := second11 now
  have c1 := h.mem.t.cell 1 _ rfl
  have H := hide h
  cases ha : secB at' with
  | false =>
    have e1 : heOk lim A name at' now = false := by unfold heOk; rw [ha]; rfl
    have e2 : heC lim A name at' now = 1 := by unfold heC; rw [ha]; rfl
    have e3 : heA lim A name at' now = A := by unfold heA; rw [e1]; rfl
    have e4 : heM lim late A mark name at' now = mark := by unfold heM; rw [e1]; rfl
    rw [e2, e3, e4]
    rw [ha] at k1
    clear h ha e1 e2 e3 e4
    go_enter Try.func39, Try.ntmps39
    go_wp2_with (first
      | (go_at_call 61; refine km.mono ?_; rintro e w' ⟨rfl, rfl⟩)
      | (go_at_call 56; refine (k1 _).mono ?_; rintro e w' ⟨rfl, rfl⟩))
    go_returns
    exact ⟨v1, v2, r1, r2, rfl, H.out, Chg.refl _ _, Mvd.refl _ _, Mvd.refl _ _⟩
  | true =>
    cases hn : secB now with
    | false =>
      have e1 : heOk lim A name at' now = false := by unfold heOk; rw [ha, hn]; rfl
      have e2 : heC lim A name at' now = 1 := by unfold heC; rw [ha, hn]; rfl
      have e3 : heA lim A name at' now = A := by unfold heA; rw [e1]; rfl
      have e4 : heM lim late A mark name at' now = mark := by unfold heM; rw [e1]; rfl
      rw [e2, e3, e4]
      rw [ha] at k1
      rw [hn] at k2
      clear h ha hn e1 e2 e3 e4
      go_enter Try.func39, Try.ntmps39
      go_wp2_with (first
        | (go_at_call 61; refine km.mono ?_; rintro e w' ⟨rfl, rfl⟩)
        | (go_at_call 56; (first | ((with_reducible refine Calls.mono (k1 _) ?_); rintro e w' ⟨rfl, rfl⟩) | ((with_reducible refine Calls.mono (k2 _) ?_); rintro e w' ⟨rfl, rfl⟩))))
      go_returns
      exact ⟨v1, v2, r1, r2, rfl, H.out, Chg.refl _ _, Mvd.refl _ _, Mvd.refl _ _⟩
    | true =>
      have kh := hear_any h hB name hs at' now ha hn
      rw [ha] at k1
      rw [hn] at k2
      generalize heA lim A name at' now = A' at kh ⊢
      generalize heM lim late A mark name at' now = m' at kh ⊢
      generalize heC lim A name at' now = c' at kh ⊢
      clear h ha hn
      go_enter Try.func39, Try.ntmps39
      go_wp2_with (first
        | (go_at_call 61; refine km.mono ?_; rintro e w' ⟨rfl, rfl⟩)
        | (go_at_call 56; (first | ((with_reducible refine Calls.mono (k1 _) ?_); rintro e w' ⟨rfl, rfl⟩) | ((with_reducible refine Calls.mono (k2 _) ?_); rintro e w' ⟨rfl, rfl⟩)))
        | (go_at_call 66; refine kh.mono ?_; rintro e w5 ⟨v1', v2', r1', r2', rfl, t5, c5, mv1, mv2⟩))
      go_returns
      exact ⟨v1', v2', r1', r2', rfl, t5, c5, mv1, mv2⟩
end
end Go.Proofs.Ytbnlhjooimppeaa
/- source: Get. -/
namespace Go.Proofs.Ytbnlhjooimppeaa
set_option linter.unusedVariables false
set_option linter.unusedSimpArgs false
open Go.RowKit W Go.Maps
theorem look12 {w : World} {n : Nat} {M : ByteArray → Option Sr} {sb : Nat} (h : MapG elS w sb n M) (name : ByteArray) (hs : name.size ≤ maxLen) :
    (Instr.lookup 110 (.map (some sb)) (.string name) true).run Try.prog w = .ok (.tuple #[srV ((M name).getD (ByteArray.empty, 0, 0)), .bool (M name).isSome]) w := h.look unMapS (z := (ByteArray.empty, 0, 0)) (zeroS w) name hs
set_option maxRecDepth 100000 in
set_option maxHeartbeats 4000000 in
theorem tget_spec {B : Nat} {w : World} {b : Tb} {lim : Nat} {late idle : Int} {v1 v2 : Value} {A : List Sr} {r1 r2 : List En} {mark : Int} (h : TM B w b lim late idle v1 v2 A r1 r2 mark) (name : ByteArray) (hs : name.size ≤ maxLen) :
    Calls Try.prog 40 #[.pointer (some ⟨b.tb, 0, none⟩), .string name] w fun e w' => e = .returned (.tuple #[srV (srcOf A name), .bool (findS A name).isSome]) ∧ Below w.heap.size w w' := by
  have km := fun W (q : Below w.heap.size w W) => tmade (h.later q)
  have HM := hide (fun W (q : Below w.heap.size w W) => h.later q)
  have L := hide (fun W (q : Below w.heap.size w W) => look12 (h.later q).mem.m name hs)
  have lt1 := h.mem.t.lt
  have li1 := h.mem.i.lt
  have c1 := h.mem.t.cell 1 _ rfl
  have d1 := h.mem.i.cell 1 _ rfl
  obtain ⟨s, hs1⟩ : ∃ s, s = srcOf A name := ⟨_, rfl⟩
  obtain ⟨i, hi1⟩ : ∃ i, i = (findS A name).isSome := ⟨_, rfl⟩
  have L2 : Hid (∀ W, Below w.heap.size w W → (Instr.lookup 110 (.map (some b.sb)) (.string name) true).run Try.prog W = .ok (.tuple #[srV s, .bool i]) W) := by
    intro W q; rw [hs1, hi1]; exact L.out W q
  rw [← hs1, ← hi1]
  clear h L hs1 hi1
  go_enter Try.func40, Try.ntmps40
  have B1 : Below w.heap.size w (w.alloc (.cells #[.string ⟨#[]⟩, .int .i64 0, .int .i64 0] 82)) := (Below.refl _ _).alloc (Nat.le_refl _) _
  have hz := L2.out _ B1
  go_wp2_with (go_at_call 61; (with_reducible refine Calls.mono (km _ (by first | exact B1 | go_grown)) ?_); rintro e w' ⟨rfl, rfl⟩)
  go_returns
  exact ⟨rfl, by go_grown⟩
end Go.Proofs.Ytbnlhjooimppeaa
/- source: the reference's table; find. -/
namespace Go.Proofs.Ytbnlhjooimppeaa
set_option linter.unusedVariables false
set_option linter.unusedSimpArgs false
open Go.RowKit W Go.Maps
/-- Sources in a block. -/
structure LieS (w : World) (g o : Nat) (A : List Sr) : Prop where
  lt : g < w.heap.size
  at_ : ∀ i (h : i < A.length), w.cell? ⟨g, o + i * 3, none⟩ = some (.string A[i].1) ∧ w.cell? ⟨g, o + i * 3 + 1, none⟩ = some (.int .i64 A[i].2.1) ∧ w.cell? ⟨g, o + i * 3 + 2, none⟩ = some (.int .i64 A[i].2.2)
/-- A list of sources, as it reads. -/
def IsS (w : World) (a : Option Addr) (A : List Sr) : Prop := A = [] ∨ ∃ g o, a = some ⟨g, o, none⟩ ∧ LieS w g o A
theorem LieS.chg {S : Nat → Prop} {w w' : World} {g o : Nat} {A : List Sr} (h : LieS w g o A) (c : Chg S w w') (n : ¬ S g) : LieS w' g o A :=
  ⟨Nat.lt_of_lt_of_le h.lt c.size, fun i hi => ⟨(c.cell h.lt n).trans (h.at_ i hi).1, (c.cell h.lt n).trans (h.at_ i hi).2.1, (c.cell h.lt n).trans (h.at_ i hi).2.2⟩⟩
theorem IsS.later {w w' : World} {a : Option Addr} {A : List Sr} (h : IsS w a A) (b : Below w.heap.size w w') : IsS w' a A := h.imp id (fun ⟨g, o, e, k⟩ => ⟨g, o, e, k.chg (S := fun _ => False) (Chg.of_below b) (fun q => q)⟩)
theorem IsS.at_ {w : World} {a : Option Addr} {A : List Sr} (h : IsS w a A) {i : Nat} (hi : i < A.length) : ∃ g o, a = some ⟨g, o, none⟩ ∧ g < w.heap.size ∧ w.cell? ⟨g, o + i * 3, none⟩ = some (.string A[i].1) ∧ w.cell? ⟨g, o + i * 3 + 1, none⟩ = some (.int .i64 A[i].2.1) ∧ w.cell? ⟨g, o + i * 3 + 2, none⟩ = some (.int .i64 A[i].2.2) := by
  rcases h with h | ⟨g, o, e, k⟩
  · subst h; simp at hi
  · exact ⟨g, o, e, k.lt, k.at_ i hi⟩
/-- The reference's table. -/
structure RT (w : World) (rb : Nat) (lim late idle : Int) (a : Option Addr) (c : Nat) (A : List Sr) (mark : Int) : Prop where
  r : Bw w rb 67 #[.int .i64 lim, .int .i64 late, .int .i64 idle, .slice a A.length c, .int .i64 mark]
  is : IsS w a A
theorem RT.later {w w' : World} {rb : Nat} {lim late idle : Int} {a : Option Addr} {c : Nat} {A : List Sr} {mark : Int} (h : RT w rb lim late idle a c A mark) (b : Below w.heap.size w w') : RT w' rb lim late idle a c A mark := ⟨h.r.later b, h.is.later b⟩
/-- Where a name stands, or would. -/
structure FdP (A : List Sr) (name : ByteArray) (i : Nat) : Prop where
  le : i ≤ A.length
  lt : ∀ k (h : k < A.length), k < i → ltB A[k].1 name = true
  ge : ∀ h : i < A.length, ltB A[i].1 name = false
theorem FdP.there {A : List Sr} {name : ByteArray} {i : Nat} (h : FdP A name i) (hA : Names A) : (findS A name).isSome = true ↔ ∃ hi : i < A.length, A[i].1 = name := by
  constructor
  · intro q
    obtain ⟨s, hs⟩ := Option.isSome_iff_exists.1 q
    obtain ⟨h1, h2⟩ := (findS_some hA).1 hs
    obtain ⟨k, hk, rfl⟩ := List.getElem_of_mem h1
    have ki : ¬ k < i := fun z => by have := h.lt k hk z; rw [h2, ltB_irr] at this; cases this
    have hi : i < A.length := by omega
    refine ⟨hi, ?_⟩
    by_cases e : i = k
    · subst e; exact h2
    · have := List.pairwise_iff_getElem.1 hA i k hi hk (by omega)
      rw [h2, h.ge hi] at this; cases this
  · rintro ⟨hi, e⟩
    rw [(findS_some hA).2 ⟨List.getElem_mem hi, e⟩]; rfl
set_option maxRecDepth 100000 in
set_option maxHeartbeats 4000000 in
theorem rfind_spec {w : World} {rb : Nat} {lim late idle : Int} {a : Option Addr} {c : Nat} {A : List Sr} {mark : Int} (h : RT w rb lim late idle a c A mark) (hA : Names A) (hl : A.length ≤ 1048576) (name : ByteArray) :
    Calls Try.prog 67 #[.pointer (some ⟨rb, 0, none⟩), .string name] w fun e w' => ∃ i : Nat, e = .returned (.tuple #[.int .i64 (i : Int), .bool (findS A name).isSome]) ∧ FdP A name i ∧ Below w.heap.size w w' := by
  have H := hide h
  have HA := hide hA
  obtain ⟨n, hn⟩ : ∃ n, n = A.length := ⟨_, rfl⟩
  have c3 : w.cell? ⟨rb, 3, none⟩ = some (.slice a n c) := by rw [hn]; exact h.r.cell 3 _ rfl
  have HN := hide hn
  rw [← hn] at hl
  obtain ⟨t0, ht0⟩ : ∃ t0, t0 = (findS A name).isSome := ⟨_, rfl⟩
  rw [← ht0]
  have T0 := hide ht0
  clear h hA hn ht0
  go_enter Try.func67, Try.ntmps67
  go_wp2_with fail
  go_loopw [6] (fun s6 wr => ∃ i : Nat, s6 = .int .i64 (i : Int) ∧ i ≤ n ∧ Hid (∀ k (h : k < A.length), k < i → ltB A[k].1 name = true) ∧ w = wr) (fun s6 _ => n - (intOf s6).toNat)
  case atStart => exact ⟨0, rfl, by omega, hide (fun k h z => by omega), (by first | rfl | trivial)⟩
  case round =>
    obtain ⟨i, rfl, hi, HL, rfl⟩ := hrel
    by_cases hlt : i < n
    · have d1 : decide ((i : Int) < (n : Int)) = true := by rw [decide_eq_true_eq]; omega
      have d2 : decide (i < n) = true := by rw [decide_eq_true_eq]; omega
      have il : i < A.length := by have := HN.out; omega
      obtain ⟨g, o, rfl, gl, x0, _, _⟩ := H.out.is.at_ il
      obtain ⟨y, hy⟩ : ∃ y, y = A[i].1 := ⟨_, rfl⟩
      rw [← hy] at x0
      have HY := hide hy
      cases t : ltB y name with
      | true =>
        have t' : Op.bytesLess y.toList name.toList = true := t
        have HT := hide t
        clear hy t
        go_wp2_with fail
        go_roundw
        case rel =>
          refine ⟨i + 1, by go_num, by omega, hide (fun k hk z => ?_), (by first | rfl | trivial)⟩
          by_cases e : k = i
          · subst e; rw [← HY.out]; exact HT.out
          · exact HL.out k hk (by omega)
        case measure => (first | (simp [intOf]; done) | (simp [intOf]; omega))
      | false =>
        have t' : Op.bytesLess y.toList name.toList = false := t
        have FD : FdP A name i := ⟨by omega, HL.out, fun _ => by rw [← hy]; exact t⟩
        have HF := hide FD
        have HT := hide (FD.there HA.out)
        clear hy t FD
        by_cases e : y = name
        · subst e
          have r : (findS A y).isSome = true := HT.out.2 ⟨il, HY.out.symm⟩
          have f1 : (y.toList == y.toList) = true := by simp
          go_wp2_with fail
          go_quiet (fail)
          go_wp2_with fail
          go_returns
          exact ⟨i, (by rw [T0.out, r]; rfl), HF.out, below_drewN (Below.refl _ _) _⟩
        · have r : (findS A name).isSome = false := by
            cases q : (findS A name).isSome
            · rfl
            · obtain ⟨_, z⟩ := HT.out.1 q
              exact absurd (HY.out.trans z) e
          have f1 : (y.toList == name.toList) = false := by
            cases h : y.toList == name.toList
            · rfl
            · exact absurd (toL_inj (by simpa using h)) e
          clear e
          go_wp2_with fail
          go_quiet (fail)
          go_wp2_with fail
          go_returns
          exact ⟨i, (by rw [T0.out, r]; rfl), HF.out, below_drewN (Below.refl _ _) _⟩
    · obtain rfl : i = n := by omega
      have d1 : decide ((i : Int) < (i : Int)) = false := by rw [decide_eq_false_iff_not]; omega
      have d2 : decide (i < i) = false := by rw [decide_eq_false_iff_not]; omega
      have FD : FdP A name i := ⟨by have := HN.out; omega, HL.out, fun q => by have := HN.out; omega⟩
      have HF := hide FD
      have r : (findS A name).isSome = false := by
        cases q : (findS A name).isSome
        · rfl
        · obtain ⟨z, _⟩ := (FD.there HA.out).1 q
          have := HN.out; omega
      clear FD
      go_wp2_with fail
      go_quiet (fail)
      go_wp2_with fail
      go_returns
      exact ⟨i, (by rw [T0.out, r]; rfl), HF.out, below_drewN (Below.refl _ _) _⟩
end Go.Proofs.Ytbnlhjooimppeaa
/- source: All: what a range over the map gives, plainly; lists of sources as cells. -/
namespace Go.Proofs.Ytbnlhjooimppeaa
set_option linter.unusedVariables false
set_option linter.unusedSimpArgs false
open Go.RowKit W Go.Maps
abbrev srE (s : Sr) : List Value := [.string s.1, .int .i64 s.2.1, .int .i64 s.2.2]
def srcsL : List Sr → List Value
  | [] => []
  | s :: l => .string s.1 :: .int .i64 s.2.1 :: .int .i64 s.2.2 :: srcsL l
theorem srcs_len : ∀ l : List Sr, (srcsL l).length = l.length * 3
  | [] => rfl
  | s :: l => by simp [srcsL, srcs_len l]; omega
theorem srcs_app : ∀ (l m : List Sr), srcsL (l ++ m) = srcsL l ++ srcsL m
  | [], m => rfl
  | s :: l, m => by simp [srcsL, srcs_app l m]
theorem srcs_snoc (l : List Sr) (s : Sr) : srcsL (l ++ [s]) = srcsL l ++ srE s := by rw [srcs_app]; rfl
theorem srcs_at : ∀ {l : List Sr} {i : Nat} (h : i < l.length) {j : Nat}, j < 3 → (srcsL l)[i * 3 + j]? = (srE l[i])[j]?
  | s :: l, 0, _, 0, _ => rfl
  | s :: l, 0, _, 1, _ => rfl
  | s :: l, 0, _, 2, _ => rfl
  | s :: l, i + 1, h, j, hj => by
    rw [show (i + 1) * 3 + j = i * 3 + j + 1 + 1 + 1 from by omega]
    simp only [srcsL, List.getElem?_cons_succ, List.getElem_cons_succ]
    exact srcs_at (by simpa using h) hj
theorem srcs_one (l : List Sr) : ∀ u ∈ srcsL l, u.oneCell' = true := by
  induction l with
  | nil => intro u h; cases h
  | cons e l ih =>
    intro u h
    simp only [srcsL, List.mem_cons] at h
    rcases h with rfl | rfl | rfl | h
    · rfl
    · rfl
    · rfl
    · exact ih _ h
/-- A list of one's own reads. -/
theorem isS_own {w : World} {B n : Nat} {s : Value} {l : List Sr} (h : w.ownsRow B 82 3 s n (srcsL l)) (hn : n = l.length) : ∃ a c, s = .slice a n c ∧ IsS w a l := by
  subst hn
  rcases h.2 with ⟨rfl, e⟩ | ⟨g, cap, cur, rfl, hb, hh, hc, _⟩
  · exact ⟨none, 0, by rw [e], .inl (List.eq_nil_of_length_eq_zero e)⟩
  · refine ⟨_, cap, rfl, .inr ⟨g, 0, rfl, blk_lt hh, fun i hi => ?_⟩⟩
    have r := (row_look h).1
    rw [Nat.zero_add]
    exact ⟨r _ _ (srcs_at hi (j := 0) (by decide)), r _ _ (srcs_at hi (j := 1) (by decide)), r _ _ (srcs_at hi (j := 2) (by decide))⟩
theorem info_src : (Try.prog.info? 82).map (fun i => (i.zero, i.size, i.bytes)) = some (some (.agg #[.string ByteArray.empty, .int .i64 0, .int .i64 0]), 3, 32) := by kernel_rfl
/-! ### what has come -/
structure LI (A : List Sr) (left : Lit → Bool) (L : List Sr) : Prop where
  nd : L.Pairwise fun a b => a.1 ≠ b.1
  got : ∀ s ∈ L, s ∈ A ∧ left (kSt s.1) = false
  rest : ∀ s ∈ A, left (kSt s.1) = true ∨ s ∈ L
  has : ∀ nm, left (kSt nm) = true → (findS A nm).isSome = true
theorem same_kSt (a b : ByteArray) : Lit.sameKey (kSt a) (kSt b) = decide (a = b) := by
  show (a.data.toList == b.data.toList) = _
  by_cases h : a = b
  · subst h; simp
  · rw [decide_eq_false h]
    cases e : a.data.toList == b.data.toList
    · rfl
    · exact absurd (ByteArray.ext (Array.toList_inj.1 (by simpa using e))) h
theorem LI.start {A : List Sr} {left : Lit → Bool} (h : ∀ nm, left (kSt nm) = (findS A nm).isSome) (hA : Names A) : LI A left [] :=
  ⟨List.Pairwise.nil, by simp, fun s hs => .inl (by rw [h, (findS_some hA).2 ⟨hs, rfl⟩]; rfl), fun nm q => by rw [← h]; exact q⟩
theorem LI.step {A : List Sr} {left : Lit → Bool} {L : List Sr} (h : LI A left L) (hA : Names A) {s : Sr} (hs : s ∈ A) (hl : left (kSt s.1) = true) : LI A (fun z => left z && !z.sameKey (kSt s.1)) (L ++ [s]) := by
  refine ⟨List.pairwise_append.2 ⟨h.nd, by simp, fun a ha b hb e => ?_⟩, fun t ht => ?_, fun t ht => ?_, fun nm q => ?_⟩
  · rw [List.mem_singleton] at hb
    subst hb
    have := (h.got a ha).2
    rw [e, hl] at this; cases this
  · rcases List.mem_append.1 ht with q | q
    · obtain ⟨g1, g2⟩ := h.got t q
      exact ⟨g1, by simp [g2]⟩
    · rw [List.mem_singleton] at q
      subst q
      exact ⟨hs, by simp [same_kSt]⟩
  · rcases h.rest t ht with q | q
    · by_cases e : t.1 = s.1
      · right
        have := hA.eq ht hs e
        subst this
        simp
      · left
        simp only [q, same_kSt, decide_eq_false e]
        rfl
    · exact .inr (List.mem_append_left _ q)
  · simp only [Bool.and_eq_true] at q
    exact h.has nm q.1
theorem LI.perm {A : List Sr} {left : Lit → Bool} {L : List Sr} (h : LI A left L) (hA : Names A) (h0 : ∀ kl, left kl = false) : L.Perm A := by
  have n1 : L.Nodup := h.nd.imp (fun q e => q (by rw [e]))
  have n2 : A.Nodup := List.Pairwise.imp (fun {a b} q e => ltB_ne q (congrArg (fun p : Sr => p.1) e)) hA
  refine (List.perm_ext_iff_of_nodup n1 n2).2 fun s => ⟨fun q => (h.got s q).1, fun q => ?_⟩
  rcases h.rest s q with z | z
  · rw [h0] at z; cases z
  · exact z
/-- Sorted by names it is the one list. -/
theorem names_unique {A L : List Sr} (hA : Names A) (p : L.Perm A) (hs : L.Pairwise fun a b => ltB b.1 a.1 = false) : L = A := by
  have nd : L.Pairwise fun a b => a.1 ≠ b.1 := (List.Perm.pairwise_iff (fun {_ _} q => Ne.symm q) p).2 (hA.imp (fun q => ltB_ne q))
  have hL : Names L := (hs.and nd).imp (by
    rintro a b ⟨q, ne⟩
    cases e : ltB a.1 b.1
    · exact absurd (ltB_tot e q) ne
    · rfl)
  clear hs nd
  induction A generalizing L with
  | nil => exact List.perm_nil.1 p
  | cons a A ih =>
    cases L with
    | nil => have := p.length_eq; simp at this
    | cons b L =>
      have hA' := List.pairwise_cons.1 hA
      have hL' := List.pairwise_cons.1 hL
      have hb : b ∈ a :: A := p.subset List.mem_cons_self
      have ha : a ∈ b :: L := p.symm.subset List.mem_cons_self
      have e : b = a := by
        rcases List.mem_cons.1 hb with e | hb
        · exact e
        · rcases List.mem_cons.1 ha with e | ha
          · exact e.symm
          · have q1 := hA'.1 b hb
            have q2 := ltB_asym (hL'.1 a ha)
            rw [q1] at q2; cases q2
      subst e
      rw [ih hA'.2 (List.Perm.cons_inv p) hL'.2]
end Go.Proofs.Ytbnlhjooimppeaa
/- slices.SortFunc of a list of structs of one's own, generic. -/
namespace Go.Proofs.Ytbnlhjooimppeaa
set_option linter.unusedVariables false
set_option linter.unusedSimpArgs false
open Go.RowKit Go.Shelf Go.Lib Go.Sort
section
variable {α : Type} [Inhabited α]
theorem flat_eq (enc : α → List Value) (k : Nat) (hk : ∀ x, (enc x).length = k) (L : List α) (xs : List Value) (hl : xs.length = L.length * k) (h : ∀ i (hi : i < L.length) j, j < k → xs[i * k + j]? = (enc L[i])[j]?) : (flatK enc k L.toArray).toList = xs := by
  apply List.ext_getElem?
  intro t
  by_cases ht : t < L.length * k
  · have k0 : 0 < k := by rcases Nat.eq_zero_or_pos k with q | q; · subst q; simp at ht
                          · exact q
    have hi : t / k < L.length := (Nat.div_lt_iff_lt_mul k0).2 ht
    have hj : t % k < k := Nat.mod_lt _ k0
    have e := h (t / k) hi (t % k) hj
    rw [show t / k * k + t % k = t from by rw [Nat.mul_comm]; exact Nat.div_add_mod t k] at e
    rw [e, Array.getElem?_toList]
    have hs : t < (flatK enc k L.toArray).size := by simpa using ht
    rw [Array.getElem?_eq_getElem hs]
    have g := get_flatK enc k L.toArray t (by simpa using ht)
    rw [getElem!_pos _ t hs] at g
    rw [g]
    have e2 : L.toArray[t / k]! = L[t / k] := by simp [hi]
    rw [e2]
    have hj' : t % k < (enc L[t / k]).length := by rw [hk]; exact hj
    rw [List.getElem?_eq_getElem hj', getElem!_pos (enc L[t / k]) (t % k) hj']
  · have q : (flatK enc k L.toArray).toList.length ≤ t := by simp; omega
    rw [List.getElem?_eq_none q, List.getElem?_eq_none (by omega)]
theorem holds_own {enc : α → List Value} {k g c n base : Nat} {e : TypeId} {w : World} {L : List α} (o : w.ownsRow base e k (.slice (some ⟨g, 0, none⟩) n c) n (flatK enc k L.toArray).toList) : HoldsK enc k w g 0 L.toArray := by
  obtain ⟨r1, r2, _, _⟩ := row_look o
  intro j hj
  rw [Nat.zero_add]
  refine ⟨r1 j _ ?_, r2 j⟩
  rw [Array.getElem?_toList, Array.getElem?_eq_getElem hj]
  rw [getElem!_pos (flatK enc k L.toArray) j hj]
  rfl
theorem heap_sortedK {w : World} {g n : Nat} {os : Array Obj} {cur F : Array Value} {e : TypeId} {fr : Nat × Nat} (hb : w.heap[g]? = some (.cells cur e fr)) :
    (grow (putRow id (Sort.ahead w n) g 0 F) os).heap[g]? = some (.cells (putCells id 0 F cur) e fr) := by
  have hg : g < w.heap.size := (Array.getElem?_eq_some_iff.1 hb).1
  rw [heap_grow_old _ _ (by simpa using hg)]
  simp [putRow, mapBlock, Sort.ahead, Array.getElem?_modify, hb, onCells]
theorem grownBy_sortedK {w : World} {g n : Nat} {os : Array Obj} (F : Array Value) : w.grownBy (grow (putRow id (Sort.ahead w n) g 0 F) os) (some g) := by
  refine ⟨rfl, rfl, rfl, by simp, fun k hk hne => ?_⟩
  rw [heap_grow_old _ _ (by simpa using hk)]
  have : g ≠ k := fun e => hne (by rw [e])
  simp [putRow, mapBlock, Sort.ahead, Array.getElem?_modify, this]
theorem take_putCellsK (cur F : Array Value) (h : F.size ≤ cur.size) : (putCells id 0 F cur).toList.take F.size = F.toList := by
  apply List.ext_getElem?
  intro j
  by_cases hj : j < F.size
  · rw [List.getElem?_take_of_lt hj, Array.getElem?_toList]
    simp [putCells, hj, show j < cur.size by omega]
  · rw [List.getElem?_take_eq_none (by omega), List.getElem?_eq_none (by simp; omega)]
theorem own_sortedK {w : World} {base e k g n c m : Nat} {os : Array Obj} {xs : List Value} {F : Array Value} (o : w.ownsRow base e k (.slice (some ⟨g, 0, none⟩) n c) n xs) (hF : F.size = n * k) :
    (grow (putRow id (Sort.ahead w m) g 0 F) os).ownsRow base e k (.slice (some ⟨g, 0, none⟩) n c) n F.toList := by
  obtain ⟨hl, ⟨h0, _⟩ | ⟨g', cap, cur, hv, hb, hh, h1, h2, h3, h4⟩⟩ := o
  · cases h0
  · cases hv
    have hle : F.size ≤ cur.size := by rw [hF, h3]; exact Nat.mul_le_mul_right k h1
    refine ⟨by simpa using hF, .inr ⟨g, c, _, rfl, hb, heap_sortedK hh, h1, h2, by simp [putCells, h3], ?_⟩⟩
    rw [← hF]
    exact take_putCellsK cur F hle
theorem permIn_perm {L : List α} {d' : Array α} (h : PermIn 0 L.toArray.size L.toArray d') : d'.toList.Perm L := by
  obtain ⟨h1, _, h3⟩ := h
  have a : d'.extract 0 L.toArray.size = d' := by rw [← h1]; simp
  have b : L.toArray.extract 0 L.toArray.size = L.toArray := by simp
  rw [a, b] at h3
  simpa using h3
theorem sortedIn_pair {lt : α → α → Bool} {n : Nat} {d : Array α} (h : SortedIn lt 0 n d) (hn : d.size = n) : d.toList.Pairwise fun a b => lt b a = false := by
  rw [List.pairwise_iff_getElem]
  intro i j hi hj hij
  have hi' : i < d.size := by simpa using hi
  have hj' : j < d.size := by simpa using hj
  have := h i j (Nat.zero_le _) hij (by omega)
  rw [getElem!_pos d i hi', getElem!_pos d j hj'] at this
  simpa using this
end
end Go.Proofs.Ytbnlhjooimppeaa
/- source: slices.SortFunc of a list of sources of one's own, by names. -/
namespace Go.Proofs.Ytbnlhjooimppeaa
set_option linter.unusedVariables false
set_option linter.unusedSimpArgs false
open Go.RowKit Go.Shelf Go.Lib Go.Sort
theorem cmpBytes_lt : ∀ (a b : List UInt8), decide (Lib.compareBytes a b < 0) = decide (a < b)
  | [], [] => by simp [Lib.compareBytes]
  | [], _ :: _ => by simp [Lib.compareBytes]
  | _ :: _, [] => by simp [Lib.compareBytes]
  | x :: a, y :: b => by
    unfold Lib.compareBytes
    have ce : (x :: a < y :: b) = (x < y ∨ x = y ∧ a < b) := propext List.cons_lt_cons_iff
    simp only [ce]
    by_cases h : x < y
    · simp [h]
    · by_cases k : y < x
      · have ne : x ≠ y := fun e => by subst e; exact h k
        simp [h, k, ne]
      · have e : x = y := by
          rw [UInt8.lt_iff_toNat_lt] at h k
          exact UInt8.toNat_inj.1 (by omega)
        subst e
        simp [h, cmpBytes_lt a b]
def cmpN (a b : Sr) : Int := Lib.compareBytes a.1.data.toList b.1.data.toList
theorem cmpN_lt (a b : Sr) : ltOf cmpN a b = ltB a.1 b.1 := by
  unfold ltOf cmpN ltB
  rw [cmpBytes_lt, bytesLess_eq', ByteArray.toList_eq, ByteArray.toList_eq]
theorem swoN : SWO (ltOf cmpN) where
  irrefl x := by rw [cmpN_lt]; exact ltB_irr _
  trans x y z h k := by rw [cmpN_lt] at *; exact ltB_trans h k
  ntrans x y z h k := by rw [cmpN_lt] at *; exact ltB_tr h k
set_option maxRecDepth 100000 in
set_option maxHeartbeats 1000000 in
/-- The closure that SortFunc is given. -/
theorem closure_n (x y : Sr) (W : World) : Calls Try.prog 63 #[srV x, srV y] W fun e w' => e = .returned (.int .i64 (cmpN x y)) ∧ ∃ q os', w' = grow (W.drewN q) os' := by
  have hcon := fun W' => Try.strings_Compare x.1 y.1 W'
  rw [show Lib.compareBytes x.1.data.toList y.1.data.toList = cmpN x y from rfl] at hcon
  generalize cmpN x y = r at hcon ⊢
  go_enter Try.func63, Try.ntmps63
  go_wp2_with (go_at_call 64; refine (hcon _).mono ?_; rintro e w' ⟨rfl, rfl⟩)
  go_returns
  exact ⟨rfl, 0, _, by rw [alloc_eq_grow, alloc_eq_grow, grow_grow]; rfl⟩
theorem cmpLays_n (blk off size : Nat) (w : World) : CmpLays Try.prog 63 #[] srE 3 cmpN blk off size w :=
  fun _ _ _ _ x y => closure_n x y _
instance : Inhabited Sr := ⟨(ByteArray.empty, 0, 0)⟩
theorem sortS_spec {wr : World} {base : Nat} {s : Value} {L : List Sr} (o : wr.ownsRow base 82 3 s L.length (srcsL L)) (hl : L.length ≤ 1048576) :
    Calls Try.prog 62 #[s, .func (.func 63) #[] #[]] wr fun e w' => e = .returned (.tuple #[]) ∧ ∃ L' : List Sr, L'.Perm L ∧ (L'.Pairwise fun a b => ltB b.1 a.1 = false) ∧ w'.ownsRow base 82 3 s L.length (srcsL L') ∧ wr.grownBy w' s.ownBlock := by
  have fl : ∀ M : List Sr, (flatK srE 3 M.toArray).toList = srcsL M := fun M => flat_eq srE 3 (fun _ => rfl) M _ (srcs_len M) (fun i hi j hj => srcs_at hi hj)
  have o2 := o
  rcases o.2 with ⟨rfl, e⟩ | ⟨g, cap, cur, rfl, hb, hh, hc, hm, hs, ht⟩
  · have e0 := List.eq_nil_of_length_eq_zero e
    subst e0
    refine (AnyF.slices_SortFunc_none Try.sortS none 0 _ wr).mono ?_
    rintro e' w' ⟨rfl, rfl⟩
    exact ⟨rfl, [], List.Perm.refl _, List.Pairwise.nil, o2, World.grownBy.refl _ _⟩
  · have eg : ∀ args w, (callFunc 63 args).run Try.prog w = .ok (.enter 63 args) w := enters_of Try.func63 (by kernel_rfl) rfl
    have o3 := o2
    rw [← fl] at o3
    have hH := holds_own o3
    have hcon := AnyQ.slices_SortFunc Try.sortS 3 Try.isAgg82 Try.sizeOf82 srE (fun _ => rfl) (fun x v hv => by simp [srE] at hv; rcases hv with rfl | rfl | rfl <;> rfl) cmpN swoN 63 #[] g 0 cap L.toArray wr eg (cmpLays_n g 0 L.toArray.size wr) hH (blk_lt hh) (by simp; omega)
    change Calls Try.prog 62 _ _ _ at hcon
    rw [show L.toArray.size = L.length from by simp] at hcon
    refine hcon.mono ?_
    rintro e' w' ⟨rfl, d', n, os, hp, hs', rfl⟩
    have sz : d'.size = L.length := by have := hp.1; simpa using this
    refine ⟨rfl, d'.toList, permIn_perm (by simpa using hp), ?_, ?_, grownBy_sortedK _⟩
    · have := sortedIn_pair hs' sz
      refine this.imp fun {a b} q => ?_
      rw [cmpN_lt] at q
      exact q
    · have F : (flatK srE 3 d').size = L.length * 3 := by simp [sz]
      have r := own_sortedK (m := n) (os := os) o2 F
      have e : (flatK srE 3 d').toList = srcsL d'.toList := by have := fl d'.toList; simpa using this
      rw [e] at r
      exact r
end Go.Proofs.Ytbnlhjooimppeaa
/- source: All. -/
namespace Go.Proofs.Ytbnlhjooimppeaa
set_option linter.unusedVariables false
set_option linter.unusedSimpArgs false
open Go.RowKit W Go.Maps
def AllP (w : World) (A : List Sr) (e : Ending) (w' : World) : Prop :=
  ∃ s, e = .returned s ∧ w'.ownsRow w.heap.size 82 3 s A.length (srcsL A) ∧ Below w.heap.size w w'
theorem invKs (key : Value) (kl : Lit) (h : keyOf Try.prog 9 key = some kl) : ∃ x : ByteArray, key = Value.string x := keyOf_string_inv Try.underlying9 h
theorem invVs (v : Value) (y : DataW Unit × List MemPlace) (h : elS.R v = some y) : ∃ c : Sr, v = srV c := by
  by_cases q : ∃ s, v = srV s
  · exact q
  · unfold elS at h
    simp only [dif_neg q] at h
    cases h
theorem keyLit (x : ByteArray) (kl : Lit) (h : keyOf Try.prog 9 (.string x) = some kl) : kl = kSt x := by
  rw [Go.keyOf_string Try.underlying9] at h
  simp [mapKey] at h
  exact h.2.symm
section
variable {B : Nat} {w : World} {b : Tb} {lim : Nat} {late idle : Int} {v1 v2 : Value} {A : List Sr} {r1 r2 : List En} {mark : Int}
set_option maxRecDepth 100000 in
set_option maxHeartbeats 4000000 in
theorem tall_spec (h : TM B w b lim late idle v1 v2 A r1 r2 mark) : Calls Try.prog 37 #[.pointer (some ⟨b.tb, 0, none⟩)] w (AllP w A) := by
  have km := tmade h
  have c1 := h.mem.t.cell 1 _ rfl
  have d1 := h.mem.i.cell 1 _ rfl
  obtain ⟨D, own0, hsz, hh1, hh2⟩ := h.mem.m
  have nA := h.pl.names
  have L0 : Hid (LI A (Maps.has D) []) := LI.start hh1 nA
  have HV : Hid (∀ nm s, findS A nm = some s → ∀ z, D.atKey (kSt nm) z = srD s) := fun nm s e z => hh2 nm s e z
  have HNA := hide nA
  have lA : A.length ≤ 1024 := by have := h.mem.qa1.le; have := h.pl.lim; have := h.pl.s1.len; omega
  obtain ⟨n, hn⟩ : ∃ n, n = A.length := ⟨_, rfl⟩
  have HN := hide hn
  rw [← hn] at own0 hsz lA
  have lt1 := h.mem.t.lt
  have li1 := h.mem.i.lt
  have lm1 := h.mem.m.lt
  obtain ⟨i0, hi0⟩ : ∃ i0, Hid (Try.prog.info? 82 = some i0 ∧ i0.zero = some (.agg #[.string ByteArray.empty, .int .i64 0, .int .i64 0]) ∧ i0.size = 3 ∧ i0.bytes = 32) := by
    obtain ⟨i0, h1, h2, h3, h4⟩ := info_parts info_src
    exact ⟨i0, h1, h2, h3, h4⟩
  have HSZ := hide hsz
  clear h hh1 hh2 nA hn hsz
  go_enter Try.func37, Try.ntmps37
  go_wp2_with (first
    | (go_at_call 61; refine km.mono ?_; rintro e w' ⟨rfl, rfl⟩)
    | (at_range; refine wpList_range_own _ rfl _ 110 rfl 9 82 keyedS unMapS _ b.sb n D rfl own0 ?_; intro w0 hrg0 hg0 hs0))
  go_frame
  have B0 : Hid (Below w.heap.size w w0) := (Below.refl _ _).grown hg0 (Nat.le_refl _) (fun j e => by cases e)
  rw [HSZ.out] at hrg0
  have OR0 : Hid (w0.ownsRow w.heap.size 82 3 (.slice none 0 0) 0 (srcsL [])) := World.ownsRow_nil _ _ _ _
  clear own0 hg0 c1 d1
  go_loopw [3] (fun s3 wr => ∃ (L : List Sr) (A3 : Option Addr) (c3 : Nat) (left : Lit → Bool) (cnt : Nat), s3 = .slice A3 L.length c3 ∧ L.length + cnt ≤ n ∧ wr.ranges Try.prog 9 elS.R b.sb w.heap.size n D left cnt ∧ Hid (LI A left L) ∧ Hid (wr.ownsRow w.heap.size 82 3 (.slice A3 L.length c3) L.length (srcsL L)) ∧ Hid (Below w.heap.size w wr) ∧ w.heap.size < wr.heap.size) (fun _ wr => wr.rangeLeft b.sb w.heap.size)
  case atStart => exact ⟨[], none, 0, _, n, rfl, by simp, hrg0, L0, OR0, B0, by omega⟩
  case round =>
    obtain ⟨L, A3, c3, left, cnt, rfl, hcl, hrg, HL, HO, HB, hlt⟩ := hrel
    obtain ⟨m, hm⟩ : ∃ m, m = L.length := ⟨_, rfl⟩
    have HM := hide hm
    rw [← hm] at hcl HO ⊢
    clear hm
    have mne := hrg.ne
    go_wp2_with (first
          | (at_next
             refine wpList_next_ranges _ rfl _ rfl 9 keyedS elS.R Value.string srV invKs invVs b.sb w.heap.size n D left cnt rfl hrg ?_ ?_
             rotate_left
             intro x c kl y w1 cnt1 hk hlk hv hat hrg1 hlt1 hg1 hs1 hen
             obtain rfl := keyLit x kl hk
             have fx : ∃ s, findS A x = some s := Option.isSome_iff_exists.1 (HL.out.has x hlk)
             obtain ⟨s, hs⟩ := fx
             have e1 : c = s := by
               have q1 := HV.out x s hs (.lit (.int .i64 0))
               rw [hat] at q1
               have q2 := elS.ok c
               rw [show elS.enc c = srV c from rfl, hv] at q2
               injection q2 with q2
               rw [q2] at q1
               exact srD_inj q1
             subst e1
             obtain ⟨s1, s2⟩ := (findS_some HNA.out).1 hs
             subst s2
             have HL1 := hide (HL.out.step HNA.out s1 hlk)
             have HB1 := hide (HB.out.grown hg1 HB.out.size (fun j q => by injection q with q; omega))
             have NR : Hid (∀ k, (Value.slice A3 m c3).ownBlock = some k → k ≠ w.heap.size) := by
               intro k e q
               subst q
               obtain ⟨_, cs, hb⟩ := own_blk HO.out e
               obtain ⟨es, clock, since, seen, c0, h1, h2, h3, h4, h5, _⟩ := hrg
               rw [hb] at h5; cases h5
             have HO1 := hide (chg_row HO.out (Chg.grown (S := fun k => k = w.heap.size) hg1 (fun k q => by injection q with q; exact q.symm)) (fun k e q => NR.out k e q))
             obtain ⟨xk, xa, xl⟩ := c
             have BX := hide hrg.ne
             have HS1 := hide hs1
             have LE := hide hrg.left_eq
             dsimp only at hen HL1 hrg1
             clear hs hk hlk hv hat hrg hs1 s1
             rotate_left
             intro hc0 hl0)
          | (at_builtin
             refine wpList_append_own_at _ rfl _ _ 65 rfl w.heap.size 82 i0 (.agg #[.string ByteArray.empty, .int .i64 0, .int .i64 0]) 3 32 Try.underlying65 hi0.out.1 hi0.out.2.1 hi0.out.2.2.1 hi0.out.2.2.2 ?a1 ?a2 (.slice A3 m c3) m (srcsL L) ?a3 ?a4 ⟨w1.heap.size + 1, 0, none⟩ 1 1 [.string xk, .int .i64 xa, .int .i64 xl] ?a5 ?a6 ?a7 ?a8 ?a9 ?b1 ?b2 ?_
             case a1 => rfl
             case a2 => decide
             case a3 => rfl
             case a4 => exact (HO1.out.alloc _).alloc _
             case a5 => rfl
             case a6 => rfl
             case a7 => exact cells_new' _ _ _ _ (by simp)
             case a8 => (intro u hu; simp at hu; rcases hu with rfl | rfl | rfl <;> rfl)
             case a9 => (unfold maxLen; omega)
             case b1 => omega
             case b2 => (have := HB1.out.size; simp; omega)
             intro v3 w3 hown hgrow _ hat
             obtain ⟨A4, c4, rfl, _, _⟩ := own_form hown
             have HO3 : Hid (w3.ownsRow w.heap.size 82 3 (.slice A4 (m + 1) c4) (m + 1) (srcsL (L ++ [(xk, xa, xl)]))) := (by rw [srcs_snoc]; exact hown)
             have hrg3 := (((hrg1.alloc (.cells #[.string xk, .int .i64 xa, .int .i64 xl] 82)).alloc (.cells #[.string xk, .int .i64 xa, .int .i64 xl] 82)).kept hgrow (fun e => by
               obtain ⟨es, clock, since, seen, c0, h1, _⟩ := hrg1
               obtain ⟨_, cs, hb⟩ := own_blk HO1.out e.symm
               rw [hb] at h1; cases h1) (fun e => NR.out _ e.symm rfl))
             have HB3 := hide (((HB1.out.alloc HB1.out.size (.cells #[.string xk, .int .i64 xa, .int .i64 xl] 82)).alloc (Nat.le_trans HB1.out.size (by simp)) (.cells #[.string xk, .int .i64 xa, .int .i64 xl] 82)).grown hgrow (Nat.le_trans HB1.out.size (by first | (simp; done) | (simp; omega))) (fun j q => (own_old HO1.out q).1))
             have hlt3 : w.heap.size < w3.heap.size := Nat.lt_of_lt_of_le (Nat.lt_of_lt_of_le hlt (by have := HS1.out; first | (simp; done) | (simp; omega))) hgrow.size
             clear hown hgrow hat hen hrg1))
    · have ks := sortS_spec (by rw [HM.out] at HO; exact HO.out) (by have := HM.out; omega)
      rw [← HM.out] at ks
      have P := hide (HL.out.perm HNA.out hl0)
      clear hrg hl0
      go_wp2_with (go_at_call 62; refine ks.mono ?_; rintro e w5 ⟨rfl, L', p', s', o', g'⟩)
      go_returns
      have e := names_unique HNA.out (p'.trans P.out) s'
      subst e
      refine ⟨_, rfl, ?_, HB.out.grown g' HB.out.size (fun j q => (own_old HO.out q).1)⟩
      have := p'.length_eq
      rw [this, ← HM.out]
      exact o'
    · go_roundw
      case rel => exact ⟨L ++ [(xk, xa, xl)], A4, c4, _, cnt1, by rw [List.length_append, ← HM.out]; rfl, by rw [List.length_append, ← HM.out]; simp; omega, hrg3, HL1, by rw [List.length_append, ← HM.out]; exact HO3, HB3, hlt3⟩
      case measure => (rw [LE.out, hrg3.left_eq]; exact hlt1)
end
end Go.Proofs.Ytbnlhjooimppeaa
/- source: how a script is handed in. -/
namespace Go.Proofs.Ytbnlhjooimppeaa
set_option linter.unusedVariables false
set_option linter.unusedSimpArgs false
open Go.RowKit W Go.Maps Go.ChangeShapes Go.WideShapes Go.Deep
/-- A call of a script. -/
structure Oq where
  kd : Int
  nm : ByteArray
  t : Int
  n : Int
instance : Inhabited Oq := ⟨⟨0, ByteArray.empty, 0, 0⟩⟩
def oqL (o : Oq) : List Value := [.int .i64 o.kd, .string o.nm, .int .i64 o.t, .int .i64 o.n]
/-- A script as its cells hold it. -/
structure OqAt (w : World) (g o : Nat) (L : List Oq) : Prop where
  lt : g < w.heap.size
  cell : ∀ j (hj : j < L.length) k v, (oqL L[j])[k]? = some v → w.cell? ⟨g, o + j * 4 + k, none⟩ = some v
def IsOq (w : World) (a : Option Addr) (L : List Oq) : Prop := L = [] ∨ ∃ g o, a = some ⟨g, o, none⟩ ∧ OqAt w g o L
theorem IsOq.later {w w' : World} {a : Option Addr} {L : List Oq} (h : IsOq w a L) (k : Below w.heap.size w w') : IsOq w' a L :=
  h.imp id fun ⟨g, o, e, q⟩ => ⟨g, o, e, Nat.lt_of_lt_of_le q.lt k.size, fun j hj i v e => (k.cell (p := ⟨g, o + j * 4 + i, none⟩) q.lt).trans (q.cell j hj i v e)⟩
theorem IsOq.at_ {w : World} {a : Option Addr} {L : List Oq} (h : IsOq w a L) {i : Nat} (hi : i < L.length) : ∃ g o, a = some ⟨g, o, none⟩ ∧ g < w.heap.size ∧ w.cell? ⟨g, o + i * 4, none⟩ = some (.int .i64 L[i].kd) ∧ w.cell? ⟨g, o + i * 4 + 1, none⟩ = some (.string L[i].nm) ∧ w.cell? ⟨g, o + i * 4 + 2, none⟩ = some (.int .i64 L[i].t) ∧ w.cell? ⟨g, o + i * 4 + 3, none⟩ = some (.int .i64 L[i].n) := by
  rcases h with h | ⟨g, o, e, k⟩
  · subst h; simp at hi
  · exact ⟨g, o, e, k.lt, k.cell i hi 0 _ rfl, k.cell i hi 1 _ rfl, k.cell i hi 2 _ rfl, k.cell i hi 3 _ rfl⟩
section
variable {H : Type} {enc : TypeId × Value → H} {w : World} {base : Nat} {sp : Nat → Bool} {held : Bool} {fuel : Nat} {cs : List Value} {x : DataW H × List MemPlace}
theorem cellsOq : Try.prog.cellsOf 73 = 4 := by kernel_rfl
theorem oq1i : Try.prog.cellsOf 2 = 1 := by kernel_rfl
theorem oq1n : Try.prog.cellsOf 3 = 1 := by kernel_rfl
theorem oq1s : Try.prog.cellsOf 9 = 1 := by kernel_rfl
theorem lenF {α : Type} {l : List α} (h : l.length = 4) : ∃ a b c d, l = [a, b, c, d] := by
  rcases l with _ | ⟨a, _ | ⟨b, _ | ⟨c, _ | ⟨d, _ | ⟨e, l⟩⟩⟩⟩⟩ <;> simp at h
  exact ⟨a, b, c, d, rfl⟩
theorem rd_oq1 (h : DataW.trod enc Try.prog w base sp held fuel 73 cs = some x) : ∃ kd nm t n, cs = [.int .i64 kd, .string nm, .int .i64 t, .int .i64 n] ∧ nm.size ≤ maxLen := by
  obtain ⟨xs, n, _, _, hl, hxl, hf⟩ := DataW.trod_struct Try.underlying73 h
  rw [cellsOq] at hl
  have hxl : xs.length = 4 := by simpa using hxl
  obtain ⟨v0, v1, v2, v3, rfl⟩ := lenF hl
  obtain ⟨y0, y1, y2, y3, rfl⟩ := lenF hxl
  have g0 := hf 0 _ rfl
  have g1 := hf 1 _ rfl
  have g2 := hf 2 _ rfl
  have g3 := hf 3 _ rfl
  simp [oq1i, oq1n, oq1s] at g0 g1 g2 g3
  obtain ⟨kd, e0, _, _⟩ := DataW.trod_int Try.underlying3 g0
  obtain ⟨nm, e1, _, ws⟩ := DataW.trod_string Try.underlying9 g1
  obtain ⟨t, e2, _, _⟩ := DataW.trod_int Try.underlying2 g2
  obtain ⟨n', e3, _, _⟩ := DataW.trod_int Try.underlying2 g3
  simp at e0 e1 e2 e3
  subst e0 e1 e2 e3
  exact ⟨kd, nm, t, n', rfl, ws⟩
theorem rd_oqs {s : Option Addr} {n c : Nat} (h : DataW.trod enc Try.prog w base sp held fuel 61 [.slice s n c] = some x) :
    ∃ L : List Oq, L.length = n ∧ IsOq w s L ∧ (∀ o ∈ L, o.nm.size ≤ maxLen) ∧ (n = 0 ∨ ∃ el spd, x.1 = .slice el spd ∧ el.length = n) := by
  rcases open_slice Try.underlying61 h with ⟨hcs, _⟩ | ⟨a, len, cap, m, k, D, Pl, hcs, _, hl, hm, hmm, hx, hcell⟩
  · simp at hcs
    obtain ⟨rfl, rfl, rfl⟩ := hcs
    exact ⟨[], rfl, .inl rfl, by simp, .inl rfl⟩
  · simp at hcs
    obtain ⟨rfl, rfl, rfl⟩ := hcs
    have lm : n ≤ m := by rw [hmm]; split <;> omega
    have each : ∀ i, i < n → ∃ q : Oq, (∀ k v, (oqL q)[k]? = some v → w.cell? (a.add (i * 4 + k)) = some v) ∧ q.nm.size ≤ maxLen := by
      intro i hi
      obtain ⟨cs', h1, h2⟩ := hcell i (by omega)
      obtain ⟨_, hlen, hc⟩ := World.cells?_some h1
      obtain ⟨kd, nm, t, n', rfl, ws⟩ := rd_oq1 h2
      rw [cellsOq] at hc
      refine ⟨⟨kd, nm, t, n'⟩, fun k v e => ?_, ws⟩
      have hk : k < 4 := by
        obtain ⟨hk, _⟩ := List.getElem?_eq_some_iff.1 e
        simpa [oqL] using hk
      have g := hc k (by omega)
      rw [add_add] at g
      rw [g]
      unfold oqL at e
      first | exact e | (simpa using e)
    obtain ⟨q, hq⟩ := choose_lt each
    have hlen : ((List.range n).map q).length = n := by simp
    refine ⟨(List.range n).map q, hlen, ?_, fun y hy => ?_, .inr ⟨_, _, by rw [hx], by simp⟩⟩
    · rcases Nat.eq_zero_or_pos n with rfl | hpos
      · exact .inl (by simp)
      · have g0 := (hq 0 hpos).1 0 _ rfl
        obtain ⟨b, off, spot⟩ := a
        have hspot : spot = none := by simpa [Addr.add] using World.cell?_spot g0
        subst hspot
        refine .inr ⟨b, off, rfl, ?_, fun j hj k v e => ?_⟩
        · rw [add_plain] at g0
          rcases Nat.lt_or_ge b w.heap.size with hlt | hge
          · exact hlt
          · unfold World.cell? at g0; simp [Array.getElem?_eq_none hge] at g0
        · rw [hlen] at hj
          have e' : ((List.range n).map q)[j]'(by rw [hlen]; exact hj) = q j := by rw [List.getElem_map, List.getElem_range]
          rw [e'] at e
          have g := (hq j hj).1 k v e
          rw [add_plain, ← Nat.add_assoc] at g
          exact g
    · obtain ⟨i, hi, rfl⟩ := List.mem_map.1 hy
      exact (hq i (List.mem_range.1 hi)).2
end
end Go.Proofs.Ytbnlhjooimppeaa
/- source: New. -/
namespace Go.Proofs.Ytbnlhjooimppeaa
set_option linter.unusedVariables false
set_option linter.unusedSimpArgs false
open Go.RowKit W Go.Maps
theorem own_mono' {w : World} {base base' size n : Nat} {e : TypeId} {v : Value} {xs : List Value} (h : w.ownsRow base e size v n xs) (hb : base' ≤ base) : w.ownsRow base' e size v n xs :=
  ⟨h.1, h.2.imp id fun ⟨g, cap, cur, a, b, c⟩ => ⟨g, cap, cur, a, Nat.le_trans hb b, c⟩⟩
theorem QA.down {B B' : Nat} {w : World} {qb kb mb lim : Nat} {v : Value} {r : List En} (h : QA B w qb kb mb lim v r) (hb : B' ≤ B) : QA B' w qb kb mb lim v r := by
  obtain ⟨l, hl, p⟩ := h.hq
  exact ⟨h.q, ⟨l, ⟨⟨⟨hl.kq.km.k, own_mono' hl.kq.km.row hb, hl.kq.km.map, Nat.le_trans hb hl.kq.km.bk, Nat.le_trans hb hl.kq.km.bm, hl.kq.km.sz⟩, hl.kq.keys, hl.kq.len⟩, hl.heap⟩, p⟩, h.srt, h.keys, h.le, h.mx, Nat.le_trans hb h.bq⟩
/-- New. -/
def TNew (w : World) (lim : Nat) (late idle : Int) (e : Ending) (w' : World) : Prop := ∃ b, e = .returned (.tuple #[.pointer (some ⟨b.tb, 0, none⟩), .int .i64 0]) ∧ TM w.heap.size w' b lim late idle (.slice none 0 0) (.slice none 0 0) [] [] [] 0 ∧ Below w.heap.size w w'
theorem TNew.mk {w w1 w2 w' : World} {lim : Nat} {late idle : Int} {q1 k1 m1 q2 k2 m2 : Nat} (l2 : lim ≤ 1024) (hl : 0 ≤ late ∧ late ≤ 1099511627775) (hi : 1 ≤ idle ∧ idle ≤ 1099511627775) (Q1 : QA w.heap.size w1 q1 k1 m1 lim (.slice none 0 0) []) (B1 : Below w.heap.size w w1)
    (Q2 : QA w1.heap.size w2 q2 k2 m2 lim (.slice none 0 0) []) (B2 : Below w1.heap.size w1 w2)
    (hw : w' = ((w2.alloc (.map #[] 0)).alloc (.cells #[.pointer (some ⟨q1, 0, none⟩), .map (some w2.heap.size), .pointer (some ⟨q2, 0, none⟩), .int .i64 late, .int .i64 idle, .int .i64 0] 112)).alloc (.cells #[.pointer (some ⟨w2.heap.size + 1 + 1, 0, none⟩), .pointer (some ⟨w2.heap.size + 1, 0, none⟩)] 93)) :
    TNew w lim late idle (.returned (.tuple #[.pointer (some ⟨w2.heap.size + 1 + 1, 0, none⟩), .int .i64 0])) w' := by
  have m0 := MapG.new (E := elS) w2
  obtain ⟨w3, h3⟩ : ∃ w3, w3 = w2.alloc (.map #[] 0) := ⟨_, rfl⟩
  rw [← h3] at m0 hw
  have s3 : w3.heap.size = w2.heap.size + 1 := by rw [h3]; simp
  have b3 : Below w2.heap.size w2 w3 := by rw [h3]; exact (Below.refl _ _).alloc (Nat.le_refl _) _
  obtain ⟨w4, h4⟩ : ∃ w4, w4 = w3.alloc (.cells #[.pointer (some ⟨q1, 0, none⟩), .map (some w2.heap.size), .pointer (some ⟨q2, 0, none⟩), .int .i64 late, .int .i64 idle, .int .i64 0] 112) := ⟨_, rfl⟩
  have k4 := Bw.new w3 112 #[.pointer (some ⟨q1, 0, none⟩), .map (some w2.heap.size), .pointer (some ⟨q2, 0, none⟩), .int .i64 late, .int .i64 idle, .int .i64 0]
  rw [← h4, s3] at k4
  rw [← h4] at hw
  have s4 : w4.heap.size = w2.heap.size + 1 + 1 := by rw [h4]; simp [s3]
  have b4 : Below w3.heap.size w3 w4 := by rw [h4]; exact (Below.refl _ _).alloc (Nat.le_refl _) _
  have k5 := Bw.new w4 93 #[.pointer (some ⟨w2.heap.size + 1 + 1, 0, none⟩), .pointer (some ⟨w2.heap.size + 1, 0, none⟩)]
  rw [← hw, s4] at k5
  have b5 : Below w4.heap.size w4 w' := by rw [hw]; exact (Below.refl _ _).alloc (Nat.le_refl _) _
  have z1 := B1.size
  have z2 := B2.size
  have b45 : Below w3.heap.size w3 w' := b4.trans (b5.mono (by omega))
  have b25 : Below w2.heap.size w2 w' := b3.trans (b45.mono (by omega))
  have Q1' := Q1.later B2
  have o1 := fun k q => (Q1.old k q).2
  have o2 := fun k q => Q2.old k q
  have lq1 := Q1.q.lt
  have bq2 := Q2.bq
  have lq2 := Q2.q.lt
  refine ⟨⟨w2.heap.size + 1 + 1, w2.heap.size + 1, w2.heap.size, q1, k1, m1, q2, k2, m2⟩, rfl, ⟨⟨k5, k4.later b5, Q1'.later b25, (Q2.down z1).later b25, ?_, ?_, ?_, ?_, ?_, ?_, by simp only; omega, by simp only; omega, by simp only; omega⟩, ⟨List.Pairwise.nil, ⟨fun x => by simp, rfl⟩, ⟨fun x => by simp, rfl⟩, by simp, hl, hi, by decide, l2⟩⟩, ?_⟩
  · have := (m0.chg (S := fun _ => False) (Chg.of_below b45) (fun q => q))
    exact this.ext (fun k => rfl)
  · intro k a c; have := o1 k a; have := (o2 k c).1; omega
  · intro a; have := o1 _ a; simp only at this; omega
  · intro a; have := (o2 _ a).2; simp only at this; omega
  · intro a; have := (o2 _ a).1; simp only at this; omega
  · intro a; have := o1 _ a; simp only at this; omega
  · exact B1.trans ((B2.mono z1).trans (b25.mono (by omega)))
set_option maxRecDepth 100000 in
set_option maxHeartbeats 4000000 in
theorem tnew_ok (lim : Nat) (l1 : 1 ≤ lim) (l2 : lim ≤ 1024) (late idle : Int) (hl : secB late = true) (hi : secB idle = true) (h0 : idle ≠ 0) (w : World) : Calls Try.prog 31 #[.int .i64 (lim : Int), .int .i64 late, .int .i64 idle] w (TNew w lim late idle) := by
  have hmm := @run_makeMap Try.prog
  have k1 := second11 late
  have k2 := second11 idle
  have kq := fun w' => qnew_ok lim l1 (by omega) w'
  rw [hl] at k1
  rw [hi] at k2
  have HL := hide ((secB_iff _).1 hl)
  have HI := hide ((secB_iff _).1 hi)
  have nz : (idle == 0) = false := by simpa using h0
  have H0 := hide h0
  clear hl hi h0
  go_enter Try.func31, Try.ntmps31
  go_wp2_with (first
    | (go_at_call 56; (first | ((with_reducible refine Calls.mono (k1 _) ?_); rintro e w' ⟨rfl, rfl⟩) | ((with_reducible refine Calls.mono (k2 _) ?_); rintro e w' ⟨rfl, rfl⟩))))
  refine (kq _).mono ?_
  rintro e w1 ⟨q1, b1, m1, rfl, qa1, bl1⟩
  have Q1 := hide qa1
  have B1 := hide bl1
  clear qa1 bl1
  go_wp2_with fail
  refine (kq _).mono ?_
  rintro e w2 ⟨q2, b2, m2, rfl, qa2, bl2⟩
  have Q2 := hide qa2
  have B2 := hide bl2
  clear qa2 bl2
  go_wp2_with fail
  go_returns
  have := H0.out
  have := HI.out
  exact TNew.mk l2 HL.out (by omega) Q1.out B1.out Q2.out B2.out rfl
end Go.Proofs.Ytbnlhjooimppeaa
/- source: alive; tables that nobody made. -/
namespace Go.Proofs.Ytbnlhjooimppeaa
set_option linter.unusedVariables false
set_option linter.unusedSimpArgs false
open Go.RowKit W Go.Maps
theorem ltAB : ltB kA kB = true := by unfold ltB kA kB; rw [ByteArray.toList_eq, ByteArray.toList_eq]; rfl
abbrev A1 : List Sr := [(kA, 100, 5)]
abbrev A2 : List Sr := [(kA, 100, 5), (kB, 50, 6)]
abbrev A3 : List Sr := [(kA, 100, 5), (kB, 150, 6)]
abbrev A4 : List Sr := [(kA, 130, 6), (kB, 150, 6)]
theorem e1A : heA 2 [] kA 100 5 = A1 := by decide +kernel
theorem e1M : heM 2 10 [] 0 kA 100 5 = 90 := by decide +kernel
theorem e1C : heC 2 [] kA 100 5 = 0 := by decide +kernel
theorem ok2 : heOk 2 A1 kB 50 6 = true := by decide +kernel
theorem ok3 : heOk 2 A2 kC 1 6 = false := by decide +kernel
theorem ok4 : heOk 2 A2 kB 150 6 = true := by decide +kernel
theorem ok5 : heOk 2 A3 kA 130 6 = true := by decide +kernel
theorem n2 : newS A1 kB 50 6 = (kB, 50, 6) := by decide +kernel
theorem n4 : newS A2 kB 150 6 = (kB, 150, 6) := by decide +kernel
theorem n5 : newS A3 kA 130 6 = (kA, 130, 6) := by decide +kernel
theorem p2 : putS A1 (kB, 50, 6) = A2 := by rw [A1, putS_cons_lt (s := (kB, 50, 6)) (a := (kA, 100, 5)) ltAB]; rfl
theorem p4 : putS A2 (kB, 150, 6) = A3 := by rw [A2, putS_cons_lt (s := (kB, 150, 6)) (a := (kA, 100, 5)) ltAB, putS_cons_eq (s := (kB, 150, 6)) (a := (kB, 50, 6)) rfl]
theorem p5 : putS A3 (kA, 130, 6) = A4 := by rw [A3, putS_cons_eq (s := (kA, 130, 6)) (a := (kA, 100, 5)) rfl]
theorem e2A : heA 2 A1 kB 50 6 = A2 := by unfold heA; rw [ok2, n2, p2]; rfl
theorem e2M : heM 2 10 A1 90 kB 50 6 = 90 := by unfold heM; rw [ok2, n2, p2]; decide +kernel
theorem e2C : heC 2 A1 kB 50 6 = 0 := by unfold heC; rw [ok2]; decide +kernel
theorem e3A : heA 2 A2 kC 1 6 = A2 := by unfold heA; rw [ok3]; rfl
theorem e3M : heM 2 10 A2 90 kC 1 6 = 90 := by unfold heM; rw [ok3]; rfl
theorem e3C : heC 2 A2 kC 1 6 = 110 := by unfold heC; rw [ok3]; decide +kernel
theorem e4A : heA 2 A2 kB 150 6 = A3 := by unfold heA; rw [ok4, n4, p4]; rfl
theorem e4M : heM 2 10 A2 90 kB 150 6 = 90 := by unfold heM; rw [ok4, n4, p4]; decide +kernel
theorem e4C : heC 2 A2 kB 150 6 = 0 := by unfold heC; rw [ok4]; decide +kernel
theorem e5A : heA 2 A3 kA 130 6 = A4 := by unfold heA; rw [ok5, n5, p5]; rfl
theorem e5M : heM 2 10 A3 90 kA 130 6 = 120 := by unfold heM; rw [ok5, n5, p5]; decide +kernel
theorem e5C : heC 2 A3 kA 130 6 = 0 := by unfold heC; rw [ok5]; decide +kernel
theorem HearP.below {B : Nat} {w w' : World} {b : Tb} {lim : Nat} {late idle : Int} {v1 v2 : Value} {A : List Sr} {r1 r2 : List En} {mark : Int} (h : TM B w b lim late idle v1 v2 A r1 r2 mark) (hB : B ≤ w.heap.size) (c : Chg (tS b v1 v2) w w') : Below B w w' := c.below (fun k q => (h.old k q).1) hB
set_option maxRecDepth 100000 in
set_option maxHeartbeats 4000000 in
theorem alive11_spec (w : World) : Calls Try.prog 33 #[] w fun e w' => e = .returned (.bool true) ∧ Below w.heap.size w w' := by
  have k0 := tnew_ok 2 (by decide) (by decide) 10 60 (by decide) (by decide) (by decide) w
  rw [show ((2 : Nat) : Int) = 2 from rfl] at k0
  go_enter Try.func33, Try.ntmps33
  go_wp2_with (go_at_call 31; refine k0.mono ?_; rintro e w1 ⟨b, rfl, t1, b1⟩)
  have z1 := b1.size
  have h1 := thear_spec t1 z1 kA (by decide) 100 5
  rw [e1A, e1M, e1C] at h1
  clear k0
  refine h1.mono ?_
  rintro e w2 ⟨v1, v2, r1, r2, rfl, t2, c2, _, _⟩
  have B2 := hide (b1.trans (HearP.below t1 z1 c2))
  have k2 := tmark t2
  clear h1 t1 c2 b1 z1
  go_wp2_with (go_at_call 35; refine k2.mono ?_; rintro e w' ⟨rfl, rfl⟩)
  have h2 := thear_spec t2 B2.out.size kB (by decide) 50 6
  rw [e2A, e2M, e2C] at h2
  clear k2
  refine h2.mono ?_
  rintro e w3 ⟨v1', v2', r1', r2', rfl, t3, c3, _, _⟩
  have B3 := hide (B2.out.trans (HearP.below t2 B2.out.size c3))
  clear h2 t2 c3 B2
  go_wp2_with fail
  have h3 := thear_spec t3 B3.out.size kC (by decide) 1 6
  rw [e3A, e3M, e3C] at h3
  refine h3.mono ?_
  rintro e w4 ⟨v1'', v2'', r1'', r2'', rfl, t4, c4, _, _⟩
  have B4 := hide (B3.out.trans (HearP.below t3 B3.out.size c4))
  clear h3 t3 c4 B3
  go_wp2_with fail
  have h4 := thear_spec t4 B4.out.size kB (by decide) 150 6
  rw [e4A, e4M, e4C] at h4
  refine h4.mono ?_
  rintro e w5 ⟨x1, x2, s1, s2, rfl, t5, c5, _, _⟩
  have B5 := hide (B4.out.trans (HearP.below t4 B4.out.size c5))
  have k5 := tmark t5
  clear h4 t4 c5 B4
  go_wp2_with (go_at_call 35; (with_reducible refine Calls.mono k5 ?_); rintro e w' ⟨rfl, rfl⟩)
  have h5 := thear_spec t5 B5.out.size kA (by decide) 130 6
  rw [e5A, e5M, e5C] at h5
  refine h5.mono ?_
  rintro e w6 ⟨y1, y2, u1, u2, rfl, t6, c6, _, _⟩
  have B6 := hide (B5.out.trans (HearP.below t5 B5.out.size c6))
  have k6 := tmark t6
  clear h5 t5 c6 B5 k5
  go_wp2_with (go_at_call 35; (with_reducible refine Calls.mono k6 ?_); rintro e w' ⟨rfl, rfl⟩)
  go_returns
  exact ⟨rfl, B6.out⟩
end Go.Proofs.Ytbnlhjooimppeaa
