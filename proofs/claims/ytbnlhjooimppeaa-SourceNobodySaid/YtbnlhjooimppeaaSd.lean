/- source: hear. -/
import Derived.Test.YtbnlhjooimppeaaSc
namespace Go.Proofs.Ytbnlhjooimppeaa
set_option linter.unusedVariables false
set_option linter.unusedSimpArgs false
open Go.RowKit W Go.Maps
def srcOf (A : List Sr) (name : ByteArray) : Sr := (findS A name).getD (ByteArray.empty, 0, 0)
/-- What becomes of a source that is heard. -/
def newS (A : List Sr) (name : ByteArray) (at' now : Int) : Sr := (name, max (srcOf A name).2.1 at', max (srcOf A name).2.2 now)
def HearP (B : Nat) (w : World) (b : Tb) (lim : Nat) (late idle : Int) (v1 v2 : Value) (A : List Sr) (mark c : Int) (e : Ending) (w' : World) : Prop :=
  ∃ v1' v2' r1' r2', e = .returned (.int .i64 c) ∧ TM B w' b lim late idle v1' v2' A r1' r2' mark ∧ Chg (tS b v1 v2) w w' ∧ Mvd w v1 v1' ∧ Mvd w v2 v2'
theorem rkM_mark {A : List Sr} {r : List En} (h : QS (fun s => s.2.1) A r) (hs : Sorted ltE r) (late mark : Int) : rkM r late mark = markS A late mark := by
  unfold markS
  rw [h.head hs]
  cases r <;> rfl
theorem markS_bounds {A : List Sr} {late mark : Int} (hs : ∀ s ∈ A, (0 ≤ s.2.1 ∧ s.2.1 ≤ 1099511627775)) (hl : 0 ≤ late ∧ late ≤ 1099511627775) (hm : 0 ≤ mark ∧ mark ≤ 1099511627775) : 0 ≤ markS A late mark ∧ markS A late mark ≤ 1099511627775 := by
  unfold markS
  cases e : leastS A with
  | none => exact hm
  | some m =>
    obtain ⟨_, t, ht, rfl⟩ := leastS_spec e
    have := hs t ht
    simp only
    omega
/-- A table behind a source that was heard, put together. -/
theorem TPl.hear {lim : Nat} {late idle : Int} {A : List Sr} {r1 r2 : List En} {mark : Int} {s : Sr} (h : TPl lim late idle A r1 r2 mark) (k1 : Keys r1) (k2 : Keys r2) (hs : (0 ≤ s.2.1 ∧ s.2.1 ≤ 1099511627775) ∧ (0 ≤ s.2.2 ∧ s.2.2 ≤ 1099511627775) ∧ s.1.size ≤ maxLen) :
    TPl lim late idle (putS A s) (setR r1 s.1 (s.2.2 + idle)) (setR r2 s.1 s.2.1) (markS (putS A s) late mark) := by
  have sec : ∀ t ∈ putS A s, (0 ≤ t.2.1 ∧ t.2.1 ≤ 1099511627775) ∧ (0 ≤ t.2.2 ∧ t.2.2 ≤ 1099511627775) ∧ t.1.size ≤ maxLen := fun t ht => by
    rcases (mem_putS h.names).1 ht with q | ⟨q, _⟩
    · subst q; exact hs
    · exact h.sec t q
  exact ⟨h.names.put s, h.s1.put h.names k1 s, h.s2.put h.names k2 s, sec, h.lt, h.id, markS_bounds (fun t ht => (sec t ht).1) h.lt h.mkb, h.lim⟩
section
variable {B : Nat} {w : World} {b : Tb} {lim : Nat} {late idle : Int} {v1 v2 : Value} {A : List Sr} {r1 r2 : List En} {mark : Int}
theorem look11 {n : Nat} {M : ByteArray → Option Sr} {sb : Nat} (h : MapG elS w sb n M) (name : ByteArray) (hs : name.size ≤ maxLen) :
    (Instr.lookup 110 (.map (some sb)) (.string name) false).run Try.prog w = .ok (srV ((M name).getD (ByteArray.empty, 0, 0))) w := h.look1 unMapS (z := (ByteArray.empty, 0, 0)) (zeroS w) name hs
set_option maxRecDepth 100000 in
set_option maxHeartbeats 8000000 in
theorem hear_yes (h : TM B w b lim late idle v1 v2 A r1 r2 mark) (hB : B ≤ w.heap.size) (name : ByteArray) (hs : name.size ≤ maxLen) (at' now : Int) (ha : 0 ≤ at' ∧ at' ≤ 1099511627775) (hn : 0 ≤ now ∧ now ≤ 1099511627775) (cc : (findS A name).isSome = true ∨ A.length < lim) :
    Calls Try.prog 66 #[.pointer (some ⟨b.ib, 0, none⟩), .string name, .int .i64 at', .int .i64 now] w (HearP B w b lim late idle v1 v2 (putS A (newS A name at' now)) (markS (putS A (newS A name at' now)) late mark) 0) := by
  have sb : (0 ≤ (srcOf A name).2.1 ∧ (srcOf A name).2.1 ≤ 1099511627775) ∧ (0 ≤ (srcOf A name).2.2 ∧ (srcOf A name).2.2 ≤ 1099511627775) := by
    unfold srcOf
    cases e : findS A name with
    | none => simp
    | some s => exact ⟨(h.pl.sec s ((findS_some h.pl.names).1 e).1).1, (h.pl.sec s ((findS_some h.pl.names).1 e).1).2.1⟩
  have hz := look11 h.mem.m name hs
  rw [show (findS A name).getD (ByteArray.empty, 0, 0) = srcOf A name from rfl] at hz
  obtain ⟨so, hso⟩ : ∃ so, so = srcOf A name := ⟨_, rfl⟩
  have SN : Hid (newS A name at' now = (name, max so.2.1 at', max so.2.2 now)) := by show _ = _; rw [hso]; rfl
  rw [← hso] at hz sb
  have hx1 : hasK r1 name = (findS A name).isSome := h.pl.s1.has h.pl.names name
  have hx2 : hasK r2 name = (findS A name).isSome := h.pl.s2.has h.pl.names name
  have l1 := h.pl.s1.len
  have l2 := h.pl.s2.len
  have ksz := h.mem.old
  have H := hide h
  have c1 := h.mem.i.cell 1 _ rfl
  have li := h.mem.i.lt
  obtain ⟨⟨s1a, s1b⟩, s2a, s2b⟩ := sb
  obtain ⟨ha1, ha2⟩ := ha
  obtain ⟨hn1, hn2⟩ := hn
  obtain ⟨id1, id2⟩ := h.pl.id
  obtain ⟨mx, hmx⟩ : ∃ mx, mx = max so.2.1 at' := ⟨_, rfl⟩
  obtain ⟨ls, hls⟩ : ∃ ls, ls = max so.2.2 now := ⟨_, rfl⟩
  have m1 : 0 ≤ mx ∧ mx ≤ 1099511627775 := by omega
  have m2 : 0 ≤ ls ∧ ls ≤ 1099511627775 := by omega
  have HMX := hide hmx
  have HLS := hide hls
  clear h hso
  go_enter Try.func66, Try.ntmps66
  go_wp2_with fail
  rw [← hmx, ← hls]
  refine abs_wp (fun W1 => Hid (TMem B W1 b lim late idle v1 v2 r1 r2 A.length (findS A) mark) ∧ Hid (Below w.heap.size w W1) ∧ W1.cell? ⟨w.heap.size, 0, none⟩ = some (.string name) ∧ W1.cell? ⟨w.heap.size, 1, none⟩ = some (.int .i64 mx) ∧ W1.cell? ⟨w.heap.size, 2, none⟩ = some (.int .i64 ls) ∧ w.heap.size < W1.heap.size)
    ⟨hide (H.out.mem.later ((Below.refl _ _).alloc (Nat.le_refl _) _)), hide ((Below.refl _ _).alloc (Nat.le_refl _) _), by simp [go_sem], by simp [go_sem], by simp [go_sem], by simp⟩ ?_
  rintro W1 ⟨M1, B1, x0, x1, x2, z1⟩
  have d0 := M1.out.i.cell 0 _ rfl
  have d4 := M1.out.i.cell 4 _ rfl
  have li1 := M1.out.i.lt
  have hB1 : B ≤ W1.heap.size := by omega
  have ks1 := fun (W : World) (q : Below W1.heap.size W1 W) => qset_spec ((M1.out.later q).qa1) (Nat.le_trans hB1 q.size) name hs (ls + idle)
  rw [hx1, l1] at ks1
  have nS1 : ¬ kS3 b.k1 b.m1 v1 w.heap.size := fun q => by have := (ksz _ (.inr (.inr (.inl q)))).2; omega
  have nS2 : ¬ kS3 b.k2 b.m2 v2 w.heap.size := fun q => by have := (ksz _ (.inr (.inr (.inr q)))).2; omega
  have wrp : IntKind.i64.wrap (ls + idle) = ls + idle := by rw [IntKind.wrap_i64]; omega
  clear c1 hz hmx hls
  simp only [if_pos cc] at ks1
  go_cut [39] from 26 (fun s39 w2 => ∃ v1', s39 = .bool false ∧ Hid (TMem B w2 b lim late idle v1' v2 (setR r1 name (ls + idle)) r2 A.length (findS A) mark) ∧ Hid (Chg (kS3 b.k1 b.m1 v1) W1 w2) ∧ Hid (Mvd W1 v1 v1'))
  case first =>
    go_region_with (go_at_call 21; (with_reducible refine Calls.mono (ks1 _ (by first | exact Below.refl _ _ | exact (Below.refl _ _).drew | exact below_drewN (Below.refl _ _) _)) ?_); rintro e w2 ⟨v1', rfl, q2, c2, mv2⟩; have M2 := hide ((M1.out.later (by first | exact Below.refl _ _ | exact (Below.refl _ _).drew | exact below_drewN (Below.refl _ _) _)).set1 q2 c2 mv2); have C2 : Hid (Chg (kS3 b.k1 b.m1 v1) W1 w2) := hide ((Chg.of_below (S := kS3 b.k1 b.m1 v1) (by first | exact Below.refl _ _ | exact (Below.refl _ _).drew | exact below_drewN (Below.refl _ _) _)).trans c2 (fun _ _ q => q)); have V2 : Hid (Mvd W1 v1 v1') := mv2; clear q2 c2 mv2)
    all_goals
      go_wp2_with fail
      go_meet
      case rel => exact ⟨v1', rfl, M2, C2, V2⟩
  rename World => w2
  obtain ⟨v1', rfl, M2, C2, V2⟩ := hcut
  have y0 : w2.cell? ⟨w.heap.size, 0, none⟩ = some (.string name) := (C2.out.cell z1 nS1).trans x0
  have y1 : w2.cell? ⟨w.heap.size, 1, none⟩ = some (.int .i64 mx) := (C2.out.cell z1 nS1).trans x1
  have y2 : w2.cell? ⟨w.heap.size, 2, none⟩ = some (.int .i64 ls) := (C2.out.cell z1 nS1).trans x2
  have z2 := C2.out.size
  have d2 := M2.out.i.cell 2 _ rfl
  have li2 := M2.out.i.lt
  have ks2 := fun (W : World) (q : Below w2.heap.size w2 W) => qset_spec ((M2.out.later q).qa2) (Nat.le_trans (Nat.le_trans hB1 z2) q.size) name hs mx
  rw [hx2, l2] at ks2
  simp only [if_pos cc] at ks2
  clear ks1 x0 x1 x2 d0 d4
  go_wp2_with fail
  go_cut [] from 40 (fun w3 => ∃ v2', Hid (TMem B w3 b lim late idle v1' v2' (setR r1 name (ls + idle)) (setR r2 name mx) A.length (findS A) mark) ∧ Hid (Chg (kS3 b.k2 b.m2 v2) w2 w3) ∧ Hid (Mvd w2 v2 v2'))
  case first =>
    go_region_with (go_at_call 21; (with_reducible refine Calls.mono (ks2 _ (by first | exact Below.refl _ _ | exact (Below.refl _ _).drew | exact below_drewN (Below.refl _ _) _)) ?_); rintro e w3 ⟨v2', rfl, q3, c3, mv3⟩; have M3 := hide ((M2.out.later (by first | exact Below.refl _ _ | exact (Below.refl _ _).drew | exact below_drewN (Below.refl _ _) _)).set2 q3 c3 mv3); have C3 : Hid (Chg (kS3 b.k2 b.m2 v2) w2 w3) := hide ((Chg.of_below (S := kS3 b.k2 b.m2 v2) (by first | exact Below.refl _ _ | exact (Below.refl _ _).drew | exact below_drewN (Below.refl _ _) _)).trans c3 (fun _ _ q => q)); have V3 : Hid (Mvd w2 v2 v2') := mv3; clear q3 c3 mv3)
    all_goals
      go_wp2_with fail
      go_meet
      case rel => exact ⟨v2', M3, C3, V3⟩
  rename World => w3
  obtain ⟨v2', M3, C3, V3⟩ := hcut
  have z3 := C3.out.size
  have x0 : w3.cell? ⟨w.heap.size, 0, none⟩ = some (.string name) := (C3.out.cell (by omega) nS2).trans y0
  have x1 : w3.cell? ⟨w.heap.size, 1, none⟩ = some (.int .i64 mx) := (C3.out.cell (by omega) nS2).trans y1
  have x2 : w3.cell? ⟨w.heap.size, 2, none⟩ = some (.int .i64 ls) := (C3.out.cell (by omega) nS2).trans y2
  have d1 := M3.out.i.cell 1 _ rfl
  have Mm : MapG elS w3.drew b.sb A.length (findS A) := M3.out.m.chg (S := fun _ => False) ((Chg.refl _ _).drew) (fun q => q)
  have lA : A.length < maxLen := by have := H.out.mem.qa1.le; have := H.out.pl.lim; have := H.out.pl.s1.len; unfold maxLen; omega
  obtain ⟨w4, hz, mz, tz⟩ := Mm.put unMapS lA name hs (name, mx, ls)
  rw [elS_enc] at hz
  have M4 := hide ((M3.out.later (w' := w3.drew) ((Below.refl _ _).drew)).setM mz (mapTurned_chg tz))
  have C4 := hide (mapTurned_chg tz)
  have kr := reckon_spec M4.out.i M4.out.qa2 H.out.pl.lt (fun x hx => by
    rcases mem_setR.1 hx with q | ⟨q, _⟩
    · rw [q]; exact m1
    · obtain ⟨t, ht, rfl⟩ := (H.out.pl.s2.mem x).1 q
      exact (H.out.pl.sec t ht).1)
  clear Mm mz tz ks2 y0 y1 y2 d2
  go_wp2_with fail
  go_region
  all_goals
    go_wp2_with (go_at_call 77; refine kr.mono ?_; rintro e w5 ⟨rfl, b5, c5⟩)
    go_returns
    obtain ⟨e, he⟩ : ∃ s', s' = newS A name at' now := ⟨_, rfl⟩
    rw [← he]
    rw [SN.out] at he
    rw [← HMX.out, ← HLS.out] at he
    subst he
    have PL := H.out.pl.hear (s := (name, mx, ls)) H.out.mem.qa1.keys H.out.mem.qa2.keys ⟨m1, m2, hs⟩
    have M5 := M4.out.setK b5 c5
    rw [rkM_mark PL.s2 (M4.out.qa2.srt)] at M5
    have e1 : (if (findS A name).isSome = true then A.length else A.length + 1) = (putS A (name, mx, ls)).length := (putS_len H.out.pl.names (name, mx, ls)).symm
    have e2 : updM (findS A) name (some (name, mx, ls)) = findS (putS A (name, mx, ls)) := by
      funext k
      rw [find_putS H.out.pl.names]
      rfl
    rw [e1, e2] at M5
    refine ⟨v1', v2', _, _, rfl, ⟨M5, PL⟩, ?_, ?_, ?_⟩
    · have q1 : Chg (tS b v1 v2) w W1 := Chg.of_below B1.out
      have q2 : Chg (tS b v1 v2) W1 w2 := C2.out.mono (fun k q => .inr (.inr (.inl q)))
      have q3 : Chg (tS b v1 v2) w2 w3 := C3.out.mono (fun k q => .inr (.inr (.inr q)))
      have q4 : Chg (tS b v1 v2) w3 w4 := (Chg.refl (tS b v1 v2) w3).drew.trans (C4.out.mono (S' := tS b v1 v2) (fun k (q : k = b.sb) => .inr (.inl q))) (fun _ _ q => q)
      have q5 : Chg (tS b v1 v2) w4 w5 := c5.mono (fun k (q : k = b.ib) => .inl q)
      exact (((q1.trans q2 (fun _ _ q => q)).trans q3 (fun _ _ q => q)).trans q4 (fun _ _ q => q)).trans q5 (fun _ _ q => q)
    · exact fun k q => (V2.out k q).imp id (fun z => by omega)
    · exact fun k q => (V3.out k q).imp id (fun z => by omega)
set_option maxRecDepth 100000 in
set_option maxHeartbeats 8000000 in
theorem hear_no (h : TM B w b lim late idle v1 v2 A r1 r2 mark) (hB : B ≤ w.heap.size) (name : ByteArray) (hs : name.size ≤ maxLen) (at' now : Int) (ha : 0 ≤ at' ∧ at' ≤ 1099511627775) (hn : 0 ≤ now ∧ now ≤ 1099511627775) (cc : ¬ ((findS A name).isSome = true ∨ A.length < lim)) :
    Calls Try.prog 66 #[.pointer (some ⟨b.ib, 0, none⟩), .string name, .int .i64 at', .int .i64 now] w (HearP B w b lim late idle v1 v2 A mark 110) := by
  have sb : (0 ≤ (srcOf A name).2.1 ∧ (srcOf A name).2.1 ≤ 1099511627775) ∧ (0 ≤ (srcOf A name).2.2 ∧ (srcOf A name).2.2 ≤ 1099511627775) := by
    unfold srcOf
    cases e : findS A name with
    | none => simp
    | some s => exact ⟨(h.pl.sec s ((findS_some h.pl.names).1 e).1).1, (h.pl.sec s ((findS_some h.pl.names).1 e).1).2.1⟩
  have hz := look11 h.mem.m name hs
  rw [show (findS A name).getD (ByteArray.empty, 0, 0) = srcOf A name from rfl] at hz
  obtain ⟨so, hso⟩ : ∃ so, so = srcOf A name := ⟨_, rfl⟩
  have SN : Hid (newS A name at' now = (name, max so.2.1 at', max so.2.2 now)) := by show _ = _; rw [hso]; rfl
  rw [← hso] at hz sb
  have hx1 : hasK r1 name = (findS A name).isSome := h.pl.s1.has h.pl.names name
  have hx2 : hasK r2 name = (findS A name).isSome := h.pl.s2.has h.pl.names name
  have l1 := h.pl.s1.len
  have l2 := h.pl.s2.len
  have ksz := h.mem.old
  have H := hide h
  have c1 := h.mem.i.cell 1 _ rfl
  have li := h.mem.i.lt
  obtain ⟨⟨s1a, s1b⟩, s2a, s2b⟩ := sb
  obtain ⟨ha1, ha2⟩ := ha
  obtain ⟨hn1, hn2⟩ := hn
  obtain ⟨id1, id2⟩ := h.pl.id
  obtain ⟨mx, hmx⟩ : ∃ mx, mx = max so.2.1 at' := ⟨_, rfl⟩
  obtain ⟨ls, hls⟩ : ∃ ls, ls = max so.2.2 now := ⟨_, rfl⟩
  have m1 : 0 ≤ mx ∧ mx ≤ 1099511627775 := by omega
  have m2 : 0 ≤ ls ∧ ls ≤ 1099511627775 := by omega
  have HMX := hide hmx
  have HLS := hide hls
  clear h hso
  go_enter Try.func66, Try.ntmps66
  go_wp2_with fail
  rw [← hmx, ← hls]
  refine abs_wp (fun W1 => Hid (TMem B W1 b lim late idle v1 v2 r1 r2 A.length (findS A) mark) ∧ Hid (Below w.heap.size w W1) ∧ W1.cell? ⟨w.heap.size, 0, none⟩ = some (.string name) ∧ W1.cell? ⟨w.heap.size, 1, none⟩ = some (.int .i64 mx) ∧ W1.cell? ⟨w.heap.size, 2, none⟩ = some (.int .i64 ls) ∧ w.heap.size < W1.heap.size)
    ⟨hide (H.out.mem.later ((Below.refl _ _).alloc (Nat.le_refl _) _)), hide ((Below.refl _ _).alloc (Nat.le_refl _) _), by simp [go_sem], by simp [go_sem], by simp [go_sem], by simp⟩ ?_
  rintro W1 ⟨M1, B1, x0, x1, x2, z1⟩
  have d0 := M1.out.i.cell 0 _ rfl
  have d4 := M1.out.i.cell 4 _ rfl
  have li1 := M1.out.i.lt
  have hB1 : B ≤ W1.heap.size := by omega
  have ks1 := fun (W : World) (q : Below W1.heap.size W1 W) => qset_spec ((M1.out.later q).qa1) (Nat.le_trans hB1 q.size) name hs (ls + idle)
  rw [hx1, l1] at ks1
  have nS1 : ¬ kS3 b.k1 b.m1 v1 w.heap.size := fun q => by have := (ksz _ (.inr (.inr (.inl q)))).2; omega
  have nS2 : ¬ kS3 b.k2 b.m2 v2 w.heap.size := fun q => by have := (ksz _ (.inr (.inr (.inr q)))).2; omega
  have wrp : IntKind.i64.wrap (ls + idle) = ls + idle := by rw [IntKind.wrap_i64]; omega
  clear c1 hz hmx hls
  simp only [if_neg cc] at ks1
  go_cut [39] from 26 (fun s39 w2 => ∃ v1', s39 = .bool true ∧ Hid (TMem B w2 b lim late idle v1' v2 r1 r2 A.length (findS A) mark) ∧ Hid (Chg (kS3 b.k1 b.m1 v1) W1 w2) ∧ Hid (Mvd W1 v1 v1'))
  case first =>
    go_region_with (go_at_call 21; (with_reducible refine Calls.mono (ks1 _ (by first | exact Below.refl _ _ | exact (Below.refl _ _).drew | exact below_drewN (Below.refl _ _) _)) ?_); rintro e w2 ⟨v1', rfl, q2, c2, mv2⟩; have M2 := hide ((M1.out.later (by first | exact Below.refl _ _ | exact (Below.refl _ _).drew | exact below_drewN (Below.refl _ _) _)).set1 q2 c2 mv2); have C2 : Hid (Chg (kS3 b.k1 b.m1 v1) W1 w2) := hide ((Chg.of_below (S := kS3 b.k1 b.m1 v1) (by first | exact Below.refl _ _ | exact (Below.refl _ _).drew | exact below_drewN (Below.refl _ _) _)).trans c2 (fun _ _ q => q)); have V2 : Hid (Mvd W1 v1 v1') := mv2; clear q2 c2 mv2)
    all_goals
      go_wp2_with fail
      go_meet
      case rel => exact ⟨v1', rfl, M2, C2, V2⟩
  obtain ⟨v1', rfl, M2, C2, V2⟩ := hcut
  go_wp2_with fail
  go_returns
  refine ⟨v1', v2, _, _, rfl, ⟨M2.out, H.out.pl⟩, ?_, ?_, Mvd.refl _ _⟩
  · exact (Chg.of_below (S := tS b v1 v2) B1.out).trans (C2.out.mono (fun k q => .inr (.inr (.inl q)))) (fun _ _ q => q)
  · exact fun k q => (V2.out k q).imp id (fun z => by omega)
end
end Go.Proofs.Ytbnlhjooimppeaa
