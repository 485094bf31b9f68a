/- WindowPlays. -/
import Derived.Test.YtpkkcdbmhgmncaaBkj
namespace Go.Proofs.Ytpkkcdbmhgmncaa
set_option linter.unusedVariables false
set_option linter.unusedSimpArgs false
open Go.RowKit W T9 Go.Maps
/-- A slice of pairs of numbers. -/
def IsOp2 (w : World) (p : Option Addr) (n : Nat) (ops : List (Int × Int)) : Prop :=
  ops.length = n ∧ n ≤ 140737488355328 ∧ (n = 0 ∨ ∃ b off, p = some ⟨b, off, none⟩ ∧ b < w.heap.size ∧ (∀ j, j < n → w.cell? ⟨b, off + j * 2, none⟩ = some (.int .i64 (ops.getD j (0, 0)).1) ∧ w.cell? ⟨b, off + j * 2 + 1, none⟩ = some (.int .i64 (ops.getD j (0, 0)).2) ∧ IsHi (ops.getD j (0, 0)).2))
def PlR (w wr : World) (bb mb rb : Nat) (d c : Int) (S : List Int) : Prop := Both wr bb mb rb d c S ∧ Below w.heap.size w wr ∧ w.heap.size ≤ bb ∧ w.heap.size ≤ mb ∧ w.heap.size ≤ rb
theorem PlR.next {w wr w' : World} {bb mb rb : Nat} {d c : Int} {S : List Int} (h : PlR w wr bb mb rb d c S) (k : Below wr.heap.size wr w') : PlR w w' bb mb rb d c S :=
  ⟨h.1.later k, h.2.1.trans (k.mono h.2.1.size), h.2.2⟩
theorem PlR.small {w wr : World} {bb mb rb : Nat} {d c : Int} {S : List Int} (h : PlR w wr bb mb rb d c S) : bb < wr.heap.size ∧ mb < wr.heap.size ∧ rb < wr.heap.size := ⟨h.1.bk.lt, h.1.bk.mlt, h.1.rk.lt rb h.1.rk.mem⟩
/-- After a call on each of the two. -/
theorem PlR.both {w w4 w5 w6 : World} {bb mb rb : Nat} {d c c' : Int} {S S' : List Int} (h : PlR w w4 bb mb rb d c S) (m5 : Mod [bb, mb] w4 w5) (m6 : Mod [rb] w5 w6) (k1 : BookAt w5 bb mb d c' S') (k2 : RBook [rb, bb, mb] w6 rb d c' S') (z : S'.Pairwise (· < ·) ∧ S'.length ≤ 4096) : PlR w w6 bb mb rb d c' S' := by
  obtain ⟨b, bl, l1, l2, l3⟩ := h
  refine ⟨b.after k1 k2 m6 z.1 z.2, (bl.trans (m5.below bl.size ?_)).trans (m6.below (Nat.le_trans bl.size m5.size) ?_), l1, l2, l3⟩
  · intro x hx; simp at hx; omega
  · intro x hx; simp at hx; omega
theorem PlR.both2 {w w4 w5 w6 : World} {bb mb rb : Nat} {d c c' : Int} {S S' : List Int} (h : PlR w w4 bb mb rb d c S) (m5 : Mod [rb] w4 w5) (m6 : Mod [bb, mb] w5 w6) (k1 : RBook [rb, bb, mb] w5 rb d c' S') (k2 : BookAt w6 bb mb d c' S') (z : S'.Pairwise (· < ·) ∧ S'.length ≤ 4096) : PlR w w6 bb mb rb d c' S' := by
  obtain ⟨b, bl, l1, l2, l3⟩ := h
  refine ⟨b.after2 k1 k2 m6 z.1 z.2, (bl.trans (m5.below bl.size ?_)).trans (m6.below (Nat.le_trans bl.size m5.size) ?_), l1, l2, l3⟩
  · intro x hx; simp at hx; omega
  · intro x hx; simp at hx; omega
theorem OwnR.drew {B : Nat} {w : World} {v : Value} {xs : List Int} (h : OwnR B w v xs) : OwnR B w.drew v xs := h
theorem BookAt.drew {w : World} {bb mb : Nat} {d c : Int} {S : List Int} (h : BookAt w bb mb d c S) : BookAt w.drew bb mb d c S := h.mod ((Mod.refl [] w).drew) (by simp) (by simp)
theorem RBook.drew {X : List Nat} {w : World} {rb : Nat} {d c : Int} {S : List Int} (h : RBook X w rb d c S) : RBook X w.drew rb d c S := h.mod ((Mod.refl [] w).drew) (by simp) (by simp)
theorem PlR.drew {w wr : World} {bb mb rb : Nat} {d c : Int} {S : List Int} (h : PlR w wr bb mb rb d c S) : PlR w wr.drew bb mb rb d c S :=
  ⟨⟨h.1.bk.drew, h.1.rk.drew, h.1.up, h.1.few, h.1.ne⟩, h.2.1.drew, h.2.2⟩
theorem PlR.fin {w w4 w5 : World} {bb mb rb : Nat} {d c c' : Int} {S S' : List Int} (h : PlR w w4 bb mb rb d c S) (m : Mod [rb, bb, mb] w4 w5) (k1 : BookAt w5 bb mb d c' S') (k2 : RBook [rb, bb, mb] w5 rb d c' S') (z : S'.Pairwise (· < ·) ∧ S'.length ≤ 4096) : PlR w w5 bb mb rb d c' S' := by
  obtain ⟨b, bl, l1, l2, l3⟩ := h
  refine ⟨⟨k1, k2, z.1, z.2, b.ne⟩, bl.trans (m.below bl.size ?_), l1, l2, l3⟩
  intro x hx; simp at hx; omega
/-- What Close leaves, called in W, where since w4 the reference alone may have changed. -/
theorem PlR.closeA {w w4 : World} {bb mb rb : Nat} {d c : Int} {S : List Int} (h : PlR w w4 bb mb rb d c S) (t : Int) (j : IsHi t) (h1 : 1 ≤ d) (h2 : d ≤ 1048576) (W : World) (m : Mod [rb] w4 W) :
    Calls Try.prog 17 #[.pointer (some ⟨bb, 0, none⟩), .int .i64 t] W fun e w' => ∃ v, e = .returned v ∧ OwnR w4.heap.size w' v (cloO d c S t) ∧ BookAt w' bb mb d (cloC d c t) (cloS d c S t) ∧ Mod [rb, bb, mb] w4 w' ∧ (∀ v xs, OwnR w4.heap.size W v xs → OwnR w4.heap.size w' v xs) ∧ (∀ c S, RBook [rb, bb, mb] W rb d c S → RBook [rb, bb, mb] w' rb d c S) ∧ (Mod [bb, mb] w4 W → Mod [bb, mb] w4 w') := by
  have b := h.1
  refine (close_any (b.bk.mod m (by simp; exact fun e => b.ne.1 e.symm) (by simp; exact fun e => b.ne.2 e.symm)) b.few b.up t j h1 h2).mono ?_
  rintro e w' ⟨v, rfl, o, k, m'⟩
  refine ⟨v, rfl, o.base m.size, k, (m.more (by simp)).trans (m'.more (by simp)), fun v xs ho => ho.mod m' ?_, fun c S hr => hr.mod m' (by simp; exact b.ne) (by simp), fun k => k.trans m'⟩
  have := b.bk.lt
  have := b.bk.mlt
  intro x hx; simp at hx; omega
theorem PlR.closeB {w w4 : World} {bb mb rb : Nat} {d c : Int} {S : List Int} (h : PlR w w4 bb mb rb d c S) (t : Int) (j : IsHi t) (h1 : 1 ≤ d) (h2 : d ≤ 1048576) (W : World) (m : Mod [bb, mb] w4 W) :
    Calls Try.prog 18 #[.pointer (some ⟨rb, 0, none⟩), .int .i64 t] W fun e w' => ∃ v, e = .returned v ∧ OwnR w4.heap.size w' v (cloO d c S t) ∧ RBook [rb, bb, mb] w' rb d (cloC d c t) (cloS d c S t) ∧ Mod [rb, bb, mb] w4 w' ∧ (∀ v xs, OwnR w4.heap.size W v xs → OwnR w4.heap.size w' v xs) ∧ (∀ c S, BookAt W bb mb d c S → BookAt w' bb mb d c S) ∧ (Mod [rb] w4 W → Mod [rb] w4 w') := by
  have b := h.1
  refine (rclose_any (b.rafter m) b.few t j h1 h2).mono ?_
  rintro e w' ⟨v, rfl, o, k, m'⟩
  refine ⟨v, rfl, o.base m.size, k, (m.more (by simp)).trans (m'.more (by simp)), fun v xs ho => ho.mod m' ?_, fun c S hr => hr.mod m' (by simp; exact fun e => b.ne.1 e.symm) (by simp; exact fun e => b.ne.2 e.symm), fun k => k.trans m'⟩
  have := b.rk.lt rb b.rk.mem
  intro x hx; simp at hx; omega
theorem PlR.opens {w w4 : World} {bb mb rb : Nat} {d c : Int} {S : List Int} (h : PlR w w4 bb mb rb d c S) (W : World) (m : Below w4.heap.size w4 W) :
    Calls Try.prog 19 #[.pointer (some ⟨bb, 0, none⟩)] W fun e w' => ∃ v, e = .returned v ∧ OwnR w4.heap.size w' v S ∧ Below w4.heap.size w4 w' := by
  refine (open_spec (h.1.bk.later m) h.1.few h.1.up).mono ?_
  rintro e w' ⟨v, rfl, o, k⟩
  exact ⟨v, rfl, o.base m.size, m.trans (k.mono m.size)⟩
theorem PlR.sames {w4 : World} {a : Option Addr} {cap : Nat} {S : List Int} (i : IsInts .i64 w4 a S) (few : S.length ≤ 4096) (W : World) (v : Value) (m : Below w4.heap.size w4 W) (o : OwnR w4.heap.size W v S) :
    Calls Try.prog 16 #[v, .slice a S.length cap] W fun e w' => e = .returned (.bool true) ∧ Below w4.heap.size w4 w' := by
  obtain ⟨a', c', rfl, _, _, i', _⟩ := o.is
  refine (same6 c' cap i' (i.later m) few).mono ?_
  rintro e w' ⟨rfl, k⟩
  exact ⟨rfl, m.trans (k.mono m.size)⟩
set_option maxRecDepth 100000 in
set_option maxHeartbeats 4000000 in
theorem plays_bad (d : Int) (l : Value) (h1 : d < 1 ∨ 1048576 < d) (w : World) :
    Calls Try.prog 3 #[.int .i64 d, l] w fun e w' => e = .returned (.bool true) ∧ Below w.heap.size w w' := by
  have k1 := new_bad d h1
  have k2 := rnew_bad d h1
  have k3 := awake_ok
  clear h1
  go_enter Try.func3, Try.ntmps3
  go_wp2_with fail
  refine (k1 _).mono ?_
  rintro e w' ⟨rfl, rfl⟩
  go_wp2_with fail
  refine (k2 _).mono ?_
  rintro e w2 ⟨rfl, b2⟩
  have sz := b2.size
  go_wp2_with fail
  refine (k3 _).mono ?_
  rintro e w' ⟨rfl, rfl⟩
  go_wp2_with fail
  go_returns
  exact ⟨rfl, by go_grown⟩
theorem both_new {w1 w2 : World} {bb mb : Nat} {d : Int} (b : BookAt w1 bb mb d (-9223372036854775808) []) (k : Below w1.heap.size w1 w2) : Both (w2.alloc (.cells #[.int .i64 d, .slice none 0 0, .int .i64 (-9223372036854775808), .bool true] 29)) bb mb w2.heap.size d (-9223372036854775808) [] := by
  have lb := b.lt
  have lm := b.mlt
  have sz := k.size
  refine ⟨(b.later k).later ((Below.refl _ _).alloc (Nat.le_refl _) _), ⟨by simp [go_sem], ⟨none, 0, by simp [go_sem], .inl rfl, fun _ => rfl, by simp, by omega, fun g e => by cases e⟩, by simp [go_sem], by simp [go_sem], by simp [go_sem], fun x hx => ?_, by simp⟩, List.Pairwise.nil, by simp, by omega, by omega⟩
  simp at hx
  simp
  omega
set_option maxRecDepth 100000 in
set_option maxHeartbeats 4000000 in
theorem plays_ok (d : Int) (a : Option Addr) (n cap : Nat) (ops : List (Int × Int)) (h1 : 1 ≤ d) (h2 : d ≤ 1048576) (w : World) (ho : IsOp2 w a n ops) :
    Calls Try.prog 3 #[.int .i64 d, .slice a n cap] w fun e w' => e = .returned (.bool true) ∧ Below w.heap.size w w' := by
  have k1 := new_ok d h1 h2
  have k2 := rnew_ok d h1 h2
  have HO := hide ho
  have hn : n ≤ 140737488355328 := ho.2.1
  have H1 := hide h1
  have H2 := hide h2
  clear h1 h2 ho
  go_enter Try.func3, Try.ntmps3
  go_wp2_with fail
  refine (k1 _).mono ?_
  rintro e w1 ⟨bb, mb, rfl, B1, lb, lm, b1⟩
  have HB := hide B1
  have HL := hide (And.intro lb lm)
  have BW := hide b1
  clear B1 lb lm b1
  go_wp2_with fail
  refine (k2 _).mono ?_
  rintro e w2 ⟨rfl, b2⟩
  have BV := hide b2
  have lw : w1.heap.size ≤ w2.heap.size := b2.size
  clear b2 k1 k2
  go_wp2_with fail
  obtain ⟨w3, hw3⟩ : ∃ Y, Y = w2.alloc (.cells #[.int .i64 d, .slice none 0 0, .int .i64 (-9223372036854775808), .bool true] 29) := ⟨_, rfl⟩
  have PB : Hid (PlR w w3 bb mb w2.heap.size d (-9223372036854775808) []) := by
    rw [hw3]
    have q1 := BW.out.size
    exact ⟨both_new HB.out BV.out, (BW.out.trans (BV.out.mono q1)).alloc (by omega) _, HL.out.1, HL.out.2, by omega⟩
  rw [← hw3]
  clear hw3
  obtain ⟨rb, hrb⟩ : ∃ Y, Y = w2.heap.size := ⟨_, rfl⟩
  rw [← hrb] at PB
  rw [← hrb]
  clear hrb HB HL BW BV lw
  go_loopw [9] (fun i wr => ∃ (k : Nat) (c : Int) (S : List Int), k ≤ n ∧ i = .int .i64 k ∧ Hid (PlR w wr bb mb rb d c S)) (fun i _ => n - (intOf i).toNat)
  case atStart => exact ⟨0, _, [], by omega, rfl, PB⟩
  case round =>
    obtain ⟨k, c, S, hk, rfl, PR⟩ := hrel
    by_cases hlt : k < n
    · obtain ⟨b, off, rfl, hb, cells⟩ := HO.out.2.2.resolve_left (by omega)
      have hlt' : (k : Int) < (n : Int) := by omega
      obtain ⟨e1, e2, jt⟩ := cells k hlt
      have e1 := (PR.out.2.1.cell (p := ⟨b, off + k * 2, none⟩) hb).trans e1
      have e2 := (PR.out.2.1.cell (p := ⟨b, off + k * 2 + 1, none⟩) hb).trans e2
      generalize (ops.getD k (0, 0)).1 = x at e1
      generalize (ops.getD k (0, 0)).2 = t at e2 jt
      have JT := hide jt
      clear cells jt
      by_cases x0 : x = 0
      · subst x0
        go_wp2_with fail
        obtain ⟨w4, hw4⟩ : ∃ Y, Y = wr.alloc (.cells #[.int .i64 0, .int .i64 t] 34) := ⟨_, rfl⟩
        have o4 : w4.cell? ⟨wr.heap.size, 1, none⟩ = some (.int .i64 t) := by rw [hw4]; simp [go_sem]
        have z4 : wr.heap.size < w4.heap.size := by rw [hw4]; simp
        have al : Below wr.heap.size wr w4 := by rw [hw4]; exact (Below.refl _ _).alloc (Nat.le_refl _) _
        rw [← hw4]
        clear hw4
        have P4 := hide (PR.out.next al)
        have NB := hide (PR.out.small)
        clear al
        refine (put_any P4.out.1 t JT.out H1.out).mono ?_
        rintro e w5 ⟨rfl, bk5, m5⟩
        have M5 := hide (m5.more (m := [bb, mb]) (by simp))
        have o5 := (M5.out.cell z4 (by simp; have := NB.out; omega)).trans o4
        have BK := hide bk5
        clear bk5 m5 o4
        go_wp2_with fail
        refine (rput_any (P4.out.1.rafter M5.out) P4.out.1.few t JT.out H1.out H2.out).mono ?_
        rintro e w6 ⟨rfl, rk6, m6⟩
        have F := hide (P4.out.both M5.out m6 BK.out rk6 (putS_up t P4.out.1.up P4.out.1.few))
        clear rk6 m6 o5
        go_wp2_with fail
        go_roundw
        case rel => exact ⟨k + 1, _, _, by omega, by go_num, F.out⟩
        case measure => simp [intOf]; omega
      · by_cases x1 : x = 1
        · subst x1
          go_wp2_with fail
          obtain ⟨w4, hw4⟩ : ∃ Y, Y = wr.alloc (.cells #[.int .i64 1, .int .i64 t] 34) := ⟨_, rfl⟩
          have o4 : w4.cell? ⟨wr.heap.size, 1, none⟩ = some (.int .i64 t) := by rw [hw4]; simp [go_sem]
          have z4 : wr.heap.size < w4.heap.size := by rw [hw4]; simp
          have al : Below wr.heap.size wr w4 := by rw [hw4]; exact (Below.refl _ _).alloc (Nat.le_refl _) _
          rw [← hw4]
          clear hw4
          have P4 := hide (PR.out.next al)
          have NB := hide (PR.out.small)
          clear al
          have FA := P4.out.closeA t JT.out H1.out H2.out
          have FB := P4.out.closeB t JT.out H1.out H2.out
          have Z := hide (cloS_up (d := d) (c := c) t P4.out.1.up P4.out.1.few)
          have ZO := hide (cloO_few (d := d) (c := c) t P4.out.1.few)
          have nz : wr.heap.size ∉ [rb, bb, mb] := by have := NB.out; simp; omega
          clear x0
          go_region_with (first
            | (go_at_call 17; (with_reducible refine Calls.mono (FA _ (by first | exact mB0 | exact mB0.drew | exact Mod.refl _ _ | exact (Mod.refl _ _).drew)) ?_); rintro e wA ⟨vA, rfl, oA, kA, mA, pA, qA, gA⟩; have cA := (mA.cell z4 nz).trans o4; (try have mA0 := gA (by first | exact Mod.refl _ _ | exact (Mod.refl _ _).drew)); (try have oB2 := pA _ _ (by first | exact oB | exact oB.drew)); (try have rk2 := qA _ _ (by first | exact kB | exact kB.drew)))
            | (go_at_call 18; (with_reducible refine Calls.mono (FB _ (by first | exact mA0 | exact mA0.drew | exact Mod.refl _ _ | exact (Mod.refl _ _).drew)) ?_); rintro e wB ⟨vB, rfl, oB, kB, mB, pB, qB, gB⟩; have cB := (mB.cell z4 nz).trans o4; (try have mB0 := gB (by first | exact Mod.refl _ _ | exact (Mod.refl _ _).drew)); (try have oA2 := pB _ _ (by first | exact oA | exact oA.drew)); (try have bk2 := qB _ _ (by first | exact kA | exact kA.drew)))
            | (go_at_call 16; (with_reducible refine Calls.mono (same6R (by first | exact oA2 | exact oA2.drew | exact oA | exact oA.drew) (by first | exact oB2 | exact oB2.drew | exact oB | exact oB.drew) ZO.out) ?_); rintro e wS ⟨rfl, bS⟩; (first | have F := hide ((P4.out.fin mB bk2 kB Z.out).next bS) | have F := hide ((P4.out.fin mB bk2 kB Z.out).drew.next bS) | have F := hide ((P4.out.fin mA kA rk2 Z.out).next bS) | have F := hide ((P4.out.fin mA kA rk2 Z.out).drew.next bS))))
          all_goals
            go_wp2_with fail
            go_roundw
            case rel => first | exact ⟨k + 1, _, _, by omega, by go_num, F.out⟩ | exact ⟨k + 1, _, _, by omega, by go_num, F.out.drew⟩
            case measure => first | (simp [intOf]; done) | (simp [intOf]; omega)
        · by_cases x2 : x = 2
          · subst x2
            go_wp2_with fail
            obtain ⟨w4, hw4⟩ : ∃ Y, Y = wr.alloc (.cells #[.int .i64 2, .int .i64 t] 34) := ⟨_, rfl⟩
            have o4 : w4.cell? ⟨wr.heap.size, 1, none⟩ = some (.int .i64 t) := by rw [hw4]; simp [go_sem]
            have z4 : wr.heap.size < w4.heap.size := by rw [hw4]; simp
            have al : Below wr.heap.size wr w4 := by rw [hw4]; exact (Below.refl _ _).alloc (Nat.le_refl _) _
            rw [← hw4]
            clear hw4
            have P4 := hide (PR.out.next al)
            have NB := hide (PR.out.small)
            clear al
            have FO := P4.out.opens
            obtain ⟨la, lc, c1, li, _⟩ := P4.out.1.rk.c1
            have FS := fun W v => PlR.sames li P4.out.1.few (cap := lc) W v
            have c2 := P4.out.1.rk.c2
            have zr := P4.out.1.rk.lt rb P4.out.1.rk.mem
            clear x0 x1
            go_region_with (first
            | (go_at_call 19; (with_reducible refine Calls.mono (FO _ (by first | exact Below.refl _ _ | exact (Below.refl _ _).drew)) ?_); rintro e wO ⟨vO, rfl, oO, bO⟩; have cO := (bO.cell (p := ⟨rb, 1, none⟩) zr).trans c1; have dO := (bO.cell (p := ⟨rb, 2, none⟩) zr).trans c2)
            | (go_at_call 16; (with_reducible refine Calls.mono (FS _ _ (by first | exact bO | exact bO.drew) (by first | exact oO | exact oO.drew)) ?_); rintro e wS ⟨rfl, bS⟩; have dS := (bS.cell (p := ⟨rb, 2, none⟩) zr).trans c2))
            all_goals
              have F := P4.out.next bS
              go_wp2_with fail
              go_roundw
              case rel => first | exact ⟨k + 1, _, _, by omega, by go_num, F⟩ | exact ⟨k + 1, _, _, by omega, by go_num, F.drew⟩
              case measure => first | (simp [intOf]; done) | (simp [intOf]; omega)
          · by_cases x3 : x = 3
            · subst x3
              go_wp2_with fail
              obtain ⟨w4, hw4⟩ : ∃ Y, Y = wr.alloc (.cells #[.int .i64 3, .int .i64 t] 34) := ⟨_, rfl⟩
              have o4 : w4.cell? ⟨wr.heap.size, 1, none⟩ = some (.int .i64 t) := by rw [hw4]; simp [go_sem]
              have z4 : wr.heap.size < w4.heap.size := by rw [hw4]; simp
              have al : Below wr.heap.size wr w4 := by rw [hw4]; exact (Below.refl _ _).alloc (Nat.le_refl _) _
              rw [← hw4]
              clear hw4
              have P4 := hide (PR.out.next al)
              have NB := hide (PR.out.small)
              clear al
              have FC := fun W m => closed_spec (P4.out.1.bk.later (w' := W) m)
              have c2 := P4.out.1.rk.c2
              clear x0 x1 x2
              go_region_with (go_at_call 20; (with_reducible refine Calls.mono (FC _ (by first | exact Below.refl _ _ | exact (Below.refl _ _).drew)) ?_); rintro e w' ⟨rfl, rfl⟩)
              all_goals
                go_wp2_with fail
                go_roundw
                case rel => first | exact ⟨k + 1, _, _, by omega, by go_num, P4.out⟩ | exact ⟨k + 1, _, _, by omega, by go_num, P4.out.drew⟩ | exact ⟨k + 1, _, _, by omega, by go_num, P4.out.drew.drew⟩
                case measure => first | (simp [intOf]; done) | (simp [intOf]; omega)
            · have y0 : (x == 0) = false := by simpa using x0
              have y1 : (x == 1) = false := by simpa using x1
              have y2 : (x == 2) = false := by simpa using x2
              have y3 : (x == 3) = false := by simpa using x3
              have F := hide (PR.out.next ((Below.refl wr.heap.size wr).alloc (Nat.le_refl _) (.cells #[.int .i64 x, .int .i64 t] 34)))
              go_wp2_with fail
              go_roundw
              case rel => exact ⟨k + 1, _, _, by omega, by go_num, F.out⟩
              case measure => simp [intOf]; omega
    · obtain rfl : k = n := by omega
      clear HO hlt
      have FO := PR.out.opens
      obtain ⟨la, lc, c1, li, _⟩ := PR.out.1.rk.c1
      have FS := fun W v => PlR.sames li PR.out.1.few (cap := lc) W v
      have c2 := PR.out.1.rk.c2
      have zr := PR.out.1.rk.lt rb PR.out.1.rk.mem
      have FC := fun W m => closed_spec (PR.out.1.bk.later (w' := W) m)
      have BL := hide PR.out.2.1
      go_wp2_with fail
      go_region_with (first
            | (go_at_call 19; (with_reducible refine Calls.mono (FO _ (by first | exact Below.refl _ _ | exact (Below.refl _ _).drew)) ?_); rintro e wO ⟨vO, rfl, oO, bO⟩; have cO := (bO.cell (p := ⟨rb, 1, none⟩) zr).trans c1; have dO := (bO.cell (p := ⟨rb, 2, none⟩) zr).trans c2)
            | (go_at_call 16; (with_reducible refine Calls.mono (FS _ _ (by first | exact bO | exact bO.drew) (by first | exact oO | exact oO.drew)) ?_); rintro e wS ⟨rfl, bS⟩; have dS := (bS.cell (p := ⟨rb, 2, none⟩) zr).trans c2)
            | (go_at_call 20; (with_reducible refine Calls.mono (FC _ (by first | exact bS | exact bS.drew | exact bS.drew.drew)) ?_); rintro e w' ⟨rfl, rfl⟩))
      all_goals
        have F := (PR.out.next bS).2.1
        go_wp2_with fail
        go_returns
        first | exact ⟨rfl, F⟩ | exact ⟨rfl, F.drew⟩ | exact ⟨rfl, F.drew.drew⟩
theorem law_WindowPlays (d : Int) (a : Option Addr) (n cap : Nat) (ops : List (Int × Int)) (w0 : (Lit.int .i64 d).wf = true) (w : World) (ho : IsOp2 w a n ops) :
    Calls Try.prog 3 #[.int .i64 d, .slice a n cap] w fun e w' => e = .returned (.bool true) ∧ Below w.heap.size w w' := by
  by_cases h : 1 ≤ d ∧ d ≤ 1048576
  · exact plays_ok d a n cap ops h.1 h.2 w ho
  · exact plays_bad d _ (by omega) w
end Go.Proofs.Ytpkkcdbmhgmncaa
