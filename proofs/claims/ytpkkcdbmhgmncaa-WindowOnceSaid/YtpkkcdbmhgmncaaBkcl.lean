/- window's Book: Close. -/
import Derived.Test.YtpkkcdbmhgmncaaBkc
namespace Go.Proofs.Ytpkkcdbmhgmncaa
set_option linter.unusedVariables false
set_option linter.unusedSimpArgs false
open Go.RowKit W T9 Go.Maps
theorem BookAt.closed {w : World} {bb mb : Nat} {d c : Int} {S : List Int} (h : BookAt w bb mb d c S) (q : Int) : BookAt (w.setCell ⟨bb, 3, none⟩ (.int .i64 q)) bb mb d q S := by
  obtain ⟨D, o, s⟩ := h.map
  have ne := h.ne
  have c0 := h.c0
  have c1 := h.c1
  have c2 := h.c2
  have c3 := h.c3
  have f3 := h.f3
  refine ⟨by simp [go_sem, c0], by simp [go_sem, c1], by simp [go_sem, c2], by simp [go_sem, c3], by simp [go_sem, f3], by simpa using h.lt, ⟨D, ?_, s⟩, ne⟩
  obtain ⟨es, clock, hb, r⟩ := o
  exact ⟨es, clock, (heap_setCell_other w _ mb _ ne).trans hb, r⟩
def rest (S L : List Int) : List Int := S.filter fun y => decide (y ∉ L)
theorem rest_nil (S : List Int) : rest S [] = S := by
  unfold rest
  exact List.filter_eq_self.2 fun a _ => by simp
theorem SetOf.del {D : DataW Unit} {S L : List Int} {x : Int} (h : SetOf D (rest S L)) (t : Tidy D) (n : S.Nodup) (m : x ∈ rest S L) : SetOf (D.del (kl x)) (rest S (L ++ [x])) := by
  have e : rest S (L ++ [x]) = (rest S L).erase x := by
    have nr : (rest S L).Nodup := n.filter _
    rw [nr.erase_eq_filter]
    unfold rest
    rw [List.filter_filter]
    refine List.filter_congr fun y _ => ?_
    by_cases e : y = x
    · subst e; simp
    · simp [e]
  have hx : Maps.has D (kl x) = true := by rw [h.has]; simpa using m
  refine ⟨fun y => ?_, ?_⟩
  · by_cases e : y = x
    · subst e
      rw [has_del_same]
      simp [rest]
    · rw [has_del_other (kl_ne e), h.has]
      simp [rest, e]
  · have := size_del t (k := kl x)
    rw [hx, h.size] at this
    rw [e, List.length_erase_of_mem m]
    simp at this
    omega
structure ColP (S : List Int) (p : Int → Bool) (left : Lit → Bool) (L : List Int) : Prop where
  nodup : L.Nodup
  mem : ∀ x, x ∈ L ↔ (x ∈ S ∧ left (kl x) = false) ∧ p x = true
theorem ColP.len {S : List Int} {p : Int → Bool} {left : Lit → Bool} {L : List Int} (h : ColP S p left L) : L.length ≤ S.length := h.nodup.length_le_of_subset fun x hx => ((h.mem x).1 hx).1.1
theorem ColP.start {D : DataW Unit} {S : List Int} (p : Int → Bool) (h : SetOf D S) : ColP S p (Maps.has D) [] :=
  ⟨List.nodup_nil, fun x => by rw [h.has]; simp⟩
theorem ColP.step {S L : List Int} {p : Int → Bool} {left : Lit → Bool} {x : Int} (h : ColP S p left L) (hl : left (kl x) = true) (hx : x ∈ S) (hp : p x = true) : ColP S p (fun z => left z && !z.sameKey (kl x)) (L ++ [x]) := by
  have nx : x ∉ L := fun q => by have := ((h.mem x).1 q).1.2; rw [hl] at this; cases this
  refine ⟨List.nodup_append.2 ⟨h.nodup, by simp, fun a ha b hb => ?_⟩, fun y => ?_⟩
  · rw [List.mem_singleton] at hb; subst hb; intro e; subst e; exact nx ha
  · rw [List.mem_append, h.mem, List.mem_singleton]
    show _ ↔ (y ∈ S ∧ (left (kl y) && !Lit.sameKey (kl y) (kl x)) = false) ∧ p y = true
    rw [same_kl]
    by_cases e : y = x
    · subst e; simp [hx, hp]
    · simp [e]
theorem ColP.skip {S L : List Int} {p : Int → Bool} {left : Lit → Bool} {x : Int} (h : ColP S p left L) (hp : p x = false) : ColP S p (fun z => left z && !z.sameKey (kl x)) L :=
  ⟨h.nodup, Col.skip h.mem hp⟩
theorem ColP.done {S L : List Int} {p : Int → Bool} {left : Lit → Bool} (h : ColP S p left L) (hl : ∀ z, left z = false) (up : S.Pairwise (· < ·)) : srt L = S.filter p := by
  have ns : S.Nodup := up.imp (fun {a b} q => by omega)
  have q : (S.filter p).Perm L := (List.perm_ext_iff_of_nodup (ns.filter _) h.nodup).2 fun x => by rw [h.mem, List.mem_filter]; simp [hl]
  exact (srt_of q ((up.filter _).imp (fun {a b} q => by omega))).symm
theorem ColP.left {S L : List Int} {p : Int → Bool} {left : Lit → Bool} (h : ColP S p left L) (hl : ∀ z, left z = false) : rest S L = S.filter fun y => !p y := by
  unfold rest
  refine List.filter_congr fun y hy => ?_
  have := h.mem y
  simp [hl, hy] at this
  cases e : p y
  · simp [this, e]
  · simp [this, e]
def ClosePost (w : World) (bb mb : Nat) (d q : Int) (S : List Int) (e : Ending) (w' : World) : Prop := ∃ v, e = .returned v ∧ OwnR w.heap.size w' v (S.filter fun y => decide (y ≤ q)) ∧ BookAt w' bb mb d q (S.filter fun y => !decide (y ≤ q)) ∧ Mod [bb, mb] w w'
def CloseRel (w0 : World) (mb r : Nat) (q : Int) (S : List Int) (v : Value) (wr : World) (left : Lit → Bool) (cnt : Nat) (L : List Int) (D : DataW Unit) : Prop :=
  wr.ranges Try.prog 2 (unitElem (H := Unit)) mb r S.length D left cnt ∧ OwnR (r + 1) wr v L ∧ ColP S (fun y => decide (y ≤ q)) left L ∧ SetOf D (rest S L) ∧ Mod [mb] w0 wr
set_option maxRecDepth 100000 in
set_option maxHeartbeats 4000000 in
theorem close_ok {w : World} {bb mb : Nat} {d c : Int} {S : List Int} (h : BookAt w bb mb d c S) (hs : S.length ≤ 4096) (up : S.Pairwise (· < ·)) (t q : Int) (j : IsHi t) (h1 : 1 ≤ d) (h2 : d ≤ 1048576) (hq : q + 1 = t / d) (n : -9223372036854775808 < q + 1) (hc : c < q) :
    Calls Try.prog 17 #[.pointer (some ⟨bb, 0, none⟩), .int .i64 t] w (ClosePost w bb mb d q S) := by
  have k := made_ok h
  have kt := through_ok t d (q + 1) j h1 h2 hq n
  have c1 := h.c1
  have c2 := h.c2
  have c3 := h.c3
  have f3 := h.f3
  have lt := h.lt
  have HB := hide (h.closed q)
  have HZ := hide (show (w.setCell ⟨bb, 3, none⟩ (.int .i64 q)).heap.size = w.heap.size by simp)
  have HM := hide ((Mod.refl [bb, mb] w).setCell (p := ⟨bb, 3, none⟩) (by simp) (.int .i64 q))
  obtain ⟨D, o, so⟩ := (h.closed q).map
  have OW := hide o
  have SO := hide so
  have HS := hide hs
  have UP := hide up
  have NE := hide h.ne
  rw [show q + 1 - 1 = q by omega] at kt
  have nc : ¬ q ≤ c := by omega
  clear h o so hs up j h1 h2 hq n hc
  go_enter Try.func17, Try.ntmps17
  go_wp2_with fail
  refine k.mono ?_
  rintro e w' ⟨rfl, rfl⟩
  go_wp2_with fail
  refine (kt _).mono ?_
  rintro e w' ⟨rfl, rfl⟩
  clear k kt
  go_wp2_with (first
    | (at_range; refine wpList_range_own _ rfl _ 79 rfl 2 83 lawK Try.underlying79 _ mb _ D rfl OW.out ?_; intro w0 hrg0 hg0 hs0; have RG := hide hrg0; have GR := hide hg0; have SZ := hide hs0; clear hrg0 hg0 hs0)
    | fail)
  rw [HZ.out] at RG SZ
  try rw [HZ.out]
  obtain ⟨w1, hw1⟩ : ∃ X, X = w.setCell ⟨bb, 3, none⟩ (.int .i64 q) := ⟨_, rfl⟩
  rw [← hw1] at HB HM GR HZ
  clear hw1 OW c1 c2 c3 f3 nc
  have LM := hide HB.out.mlt
  have LB := hide HB.out.lt
  have QQ := hide (rfl : q = q)
  go_frame
  go_loopw [7] (fun v wr => ∃ (left : Lit → Bool) (cnt : Nat) (L : List Int) (D : DataW Unit), Hid (CloseRel w1 mb w.heap.size q S v wr left cnt L D)) (fun _ wr => wr.rangeLeft mb w.heap.size)
  case atStart =>
    exact ⟨_, _, [], D, ⟨RG.out, OwnR.nil _ _, ColP.start _ SO.out, by rw [rest_nil]; exact SO.out, (Mod.refl _ _).grown GR.out (fun k hk => by cases hk)⟩⟩
  case round =>
    obtain ⟨left, cnt, L, D1, HR⟩ := hrel
    have c2 : wr.cell? ⟨bb, 2, none⟩ = some (.map (some mb)) := (HR.out.2.2.2.2.cell LB.out (by simp; exact fun e => NE.out e.symm)).trans HB.out.c2
    go_wp2_with (first
      | (at_next; refine wpList_next_ranges (α := Int) (β := Unit) _ rfl _ rfl 2 lawK (unitElem (H := Unit)) (fun x => .int .i64 x) (fun _ => .agg #[]) invKey invUnit mb w.heap.size S.length D1 left cnt rfl HR.out.1 ?_ ?_)
      | go_in)
    · intro _ hl0
      have DN := hide (HR.out.2.2.1.done hl0 UP.out)
      have LE := hide (HR.out.2.2.1.len)
      have RS := hide (HR.out.2.2.1.left hl0)
      clear hl0
      go_wp2_with fail
      refine (sortR HR.out.2.1 (by have := LE.out; have := HS.out; omega)).mono ?_
      rintro e w2 ⟨rfl, o2, g2⟩
      go_wp2_with fail
      go_returns
      have mm : Mod [mb] w1 w2 := HR.out.2.2.2.2.grown g2 (fun k hk => .inr (by have := (HR.out.2.1.lt hk); have := HZ.out; omega))
      have b1 := HB.out
      have ne : bb ∉ [mb] := by simp; exact fun e => NE.out e.symm
      have so := HR.out.2.2.2.1
      rw [RS.out] at so
      have ow := owns_tight (HR.out.1.kept g2 (fun e => by have := (HR.out.2.1.lt e.symm); have := LM.out; have := HZ.out; omega) (fun e => by have := (HR.out.2.1.lt e.symm); omega)).owns
      rw [so.size] at ow
      refine ⟨u7, rfl, ?_, ⟨(mm.cell b1.lt ne).trans b1.c0, (mm.cell b1.lt ne).trans b1.c1, (mm.cell b1.lt ne).trans b1.c2, (mm.cell b1.lt ne).trans b1.c3, (mm.frozen b1.lt ne).trans b1.f3, Nat.lt_of_lt_of_le b1.lt mm.size, ⟨_, ow, so⟩, b1.ne⟩, HM.out.trans (mm.more (by simp))⟩
      rw [DN.out] at o2; exact o2.base (by omega)
    · intro x cc z y w2 cnt1 hkey hlx hv hat hrg1 hlt hg1 hs1 hen
      obtain ⟨rfl, wx⟩ := key_is hkey
      have xr := hide (HR.out.2.2.2.1.mem_of hat hv)
      have R1 := hide hrg1
      have O1 := hide (HR.out.2.1.kept hg1 (fun k hk => by injection hk with hk; omega))
      have M1 := hide (HR.out.2.2.2.2.grown hg1 (fun k hk => .inr (by injection hk with hk; have := HZ.out; omega)))
      have LX := hide hlx
      have LT := hide hlt
      have bl : (L.length + 1) * 8 ≤ 140737488355328 := by have := HR.out.2.2.1.len; have := HS.out; omega
      have HB2 : w.heap.size + 1 ≤ w2.heap.size := by have := hrg1.lt; omega
      have S1 := hide hs1
      have WX := hide wx
      have c3 : w2.cell? ⟨bb, 2, none⟩ = some (.map (some mb)) := (M1.out.cell LB.out (by simp; exact fun e => NE.out e.symm)).trans HB.out.c2
      clear hrg1 hlx hv hat hlt hkey hs1 hg1 wx c2
      go_wp2_with (first
        | (at_builtin; refine wpList_append_r rfl _ _ rfl (w.heap.size + 1) u7 L rfl (O1.out.later ((Below.refl _ _).alloc (Nat.le_refl _) _)) w2.heap.size x rfl (by simp [go_sem]) (by simp; omega) bl ?_; intro v2 w3 O2 g2; have OX := hide O2; have M3 := hide ((M1.out.alloc (.cells #[.int .i64 x] 2)).grown g2 (fun k hk => .inr (by have := (O1.out.lt hk); have := HZ.out; omega))); have R3 := hide ((R1.out.alloc (.cells #[.int .i64 x] 2)).kept g2 (fun e => by have := (O1.out.lt e.symm); have := LM.out; have := HZ.out; omega) (fun e => by have := (O1.out.lt e.symm); omega)); have c4 : w3.cell? ⟨bb, 2, none⟩ = some (.map (some mb)) := (M3.out.cell LB.out (by simp; exact fun e => NE.out e.symm)).trans HB.out.c2; clear O2 g2)
        | (at_delete; refine wpList_delete_ranges _ rfl _ _ 79 2 rfl 83 lawK Try.underlying79 (unitElem (H := Unit)) mb w.heap.size S.length D1 _ _ rfl R3.out _ _ rfl (keyOf_int_mk Try.underlying2 WX.out) ?_; intro w4 cnt2 hrg4 hle hturn; have R4 := hide hrg4; have LE := hide hle; have TU := hide hturn; clear hrg4 hle hturn; go_frame)
        | go_in)
      · have r4 := R4.out
        rw [strike_twice] at r4
        have M4 := M3.out.trans (turned_mod TU.out)
        have XS : x ∈ S := (List.mem_filter.1 xr.out).1
        have lq : decide (x ≤ q) = true := by simpa using (by assumption : x ≤ q)
        have UN : S.Nodup := UP.out.imp (fun {a b} q => by omega)
        have O4 : OwnR (w.heap.size + 1) w4 v2 (L ++ [x]) := OX.out.kept TU.out.grown (fun k hk => by injection hk with hk; have := LM.out; have := HZ.out; omega)
        go_roundw
        case rel => exact ⟨_, cnt2, L ++ [x], _, ⟨r4, O4, HR.out.2.2.1.step LX.out XS lq, HR.out.2.2.2.1.del (HR.out.1.owns.tidy lawK) UN xr.out, M4⟩⟩
        case measure => rw [r4.left_eq, HR.out.1.left_eq]; have := LT.out; have := LE.out; omega
      · have lq : decide (x ≤ q) = false := by simpa using (by assumption : q < x)
        go_roundw
        case rel => exact ⟨_, cnt1, L, _, ⟨R1.out, O1.out, HR.out.2.2.1.skip lq, HR.out.2.2.2.1, M1.out⟩⟩
        case measure => rw [R1.out.left_eq, HR.out.1.left_eq]; exact LT.out
set_option maxRecDepth 100000 in
set_option maxHeartbeats 4000000 in
theorem close_old {w : World} {bb mb : Nat} {d c : Int} {S : List Int} (h : BookAt w bb mb d c S) (t q : Int) (j : IsHi t) (h1 : 1 ≤ d) (h2 : d ≤ 1048576) (hq : q + 1 = t / d) (n : -9223372036854775808 < q + 1) (hc : q ≤ c) :
    CalcN 17 #[.pointer (some ⟨bb, 0, none⟩), .int .i64 t] w (.slice none 0 0) := by
  have k := made_ok h
  have kt := through_ok t d (q + 1) j h1 h2 hq n
  have c1 := h.c1
  have c3 := h.c3
  rw [show q + 1 - 1 = q by omega] at kt
  clear h j h1 h2 hq n
  go_enter Try.func17, Try.ntmps17
  go_wp2_with fail
  refine k.mono ?_
  rintro e w' ⟨rfl, rfl⟩
  go_wp2_with fail
  refine (kt _).mono ?_
  rintro e w' ⟨rfl, rfl⟩
  clear k kt
  go_wp2_with fail
  go_returns
  exact ⟨rfl, rfl⟩
set_option maxRecDepth 100000 in
set_option maxHeartbeats 4000000 in
theorem close_no {w : World} {bb mb : Nat} {d c : Int} {S : List Int} (h : BookAt w bb mb d c S) (t : Int) (j : IsHi t) (h1 : 1 ≤ d) (h2 : d ≤ 1048576) (hq : -9223372036854775808 = t / d) :
    CalcN 17 #[.pointer (some ⟨bb, 0, none⟩), .int .i64 t] w (.slice none 0 0) := by
  have k := made_ok h
  have kt := through_no t d j h1 h2 hq
  have c1 := h.c1
  have c3 := h.c3
  clear h j h1 h2 hq
  go_enter Try.func17, Try.ntmps17
  go_wp2_with fail
  refine k.mono ?_
  rintro e w' ⟨rfl, rfl⟩
  go_wp2_with fail
  refine (kt _).mono ?_
  rintro e w' ⟨rfl, rfl⟩
  clear k kt
  go_wp2_with fail
  go_returns
  exact ⟨rfl, rfl⟩
end Go.Proofs.Ytpkkcdbmhgmncaa
