/- due: DueKeeps. -/
import Derived.Test.YtdfmfkibafcbcaaDrd
namespace Go.Proofs.Ytdfmfkibafcbcaa
set_option linter.unusedVariables false
set_option linter.unusedSimpArgs false
open Go.RowKit W Go.Maps
/-- What all, Len and the reference's cell say between calls: the law's last line. -/
structure EndK (W : World) (qb kb mb rb lim : Nat) (wr : World) (v : Value) (a : Option Addr) (c n : Nat) (m : Int) (r : List En) : Prop where
  cell : ∀ V, Below wr.heap.size wr V → V.cell? ⟨rb, 1, none⟩ = some (.slice a n c)
  len : ∀ V, Below wr.heap.size wr V → CalcN 10 #[.pointer (some ⟨qb, 0, none⟩)] V (.int .i64 (n : Int))
  all : ∀ V, Below wr.heap.size wr V → Calls Try.prog 12 #[.pointer (some ⟨qb, 0, none⟩), .int .i64 m] V fun e w' => ∃ A1 c1, e = .returned (.slice A1 n c1) ∧ Hid (IsE w' A1 r) ∧ Hid (Below wr.heap.size wr w') ∧ w'.cell? ⟨rb, 1, none⟩ = some (.slice a n c)
  same : ∀ V A1 c1, Below wr.heap.size wr V → IsE V A1 r → Calls Try.prog 11 #[.slice A1 n c1, .slice a n c] V fun e w' => e = .returned (.bool true) ∧ Hid (Below wr.heap.size wr w') ∧ w'.cell? ⟨rb, 1, none⟩ = some (.slice a n c)
  lt : rb < wr.heap.size
theorem DJ.endK {W : World} {qb kb mb rb lim : Nat} {wr : World} {v : Value} {a : Option Addr} {c n : Nat} {m : Int} {r : List En} (h : DJ W qb kb mb rb lim wr v a c r r) (hn : n = r.length) (hm : m = (n : Int) + 1) : EndK W qb kb mb rb lim wr v a c n m r where
  cell V b := by rw [hn]; exact (h.later b).rq.r.cell 1 _ rfl
  len V b := by rw [hn]; exact qlen (h.later b).qa
  all V b := by
    have ce : cutE r m = r := by
      unfold cutE
      rw [if_pos (by omega), List.take_of_length_le (by omega)]
    have k := lall_spec (h.later b).qa m
    rw [ce, ← hn] at k
    refine k.mono ?_
    rintro e w' ⟨s, rfl, O, b2⟩
    obtain ⟨A1, c1, rfl, I⟩ := isE_own O hn
    have bb := b.trans (b2.mono b.size)
    exact ⟨A1, c1, rfl, I, bb, by rw [hn]; exact (h.later bb).rq.r.cell 1 _ rfl⟩
  same V A1 c1 b I := by
    have k := rsame7_spec (c1 := c1) (c2 := c) I (h.later b).rq.is (by have := h.le; omega)
    rw [← hn] at k
    refine k.mono ?_
    rintro e w' ⟨rfl, b2⟩
    have bb := b.trans (b2.mono b.size)
    exact ⟨rfl, bb, by rw [hn]; exact (h.later bb).rq.r.cell 1 _ rfl⟩
  lt := h.rq.r.lt
set_option maxRecDepth 100000 in
set_option maxHeartbeats 8000000 in
theorem law_DueKeeps (limit : Int) (a : Option Addr) (n c : Nat) (L : List Oq) (hn : L.length = n ∧ n ≤ 140737488355328) (hsz : ∀ o ∈ L, o.nm.size ≤ maxLen) (W : World) (hI : IsOq W a L) :
    Calls Try.prog 3 #[.int .i64 limit, .slice a n c] W fun e w' => e = .returned (.bool true) ∧ Below W.heap.size W w' := by
  obtain ⟨hl, hb⟩ := hn
  have ka := alive7_spec
  have HL := hide hl
  have HS := hide hsz
  have HI := hide hI
  clear hl hsz hI
  by_cases ok : 1 ≤ limit ∧ limit ≤ 65536
  · obtain ⟨o1, o2⟩ := ok
    obtain ⟨lim, rfl⟩ : ∃ lim : Nat, limit = (lim : Int) := ⟨limit.toNat, by omega⟩
    have kn := qnew_ok lim (by omega) (by omega) W
    have kr := fun w => rnew7_ok (lim : Int) o1 o2 w
    go_enter Try.func3, Try.ntmps3
    go_upto_region 3 with (first
      | (go_at_call 6; refine kn.mono ?_; rintro e w1 ⟨qb, kb, mb, rfl, t1, b1⟩)
      | (go_at_call 7; refine (kr _).mono ?_; rintro e w2 ⟨rfl, b2⟩))
    obtain ⟨W3, hW3⟩ : ∃ W3, W3 = w2.alloc (.cells #[.int .i64 (lim : Int), .slice none 0 0] 29) := ⟨_, rfl⟩
    have z1 := b1.size
    have z2 := b2.size
    have b3 : Below w2.heap.size w2 W3 := by rw [hW3]; exact (Below.refl _ _).alloc (Nat.le_refl _) _
    have r3 : Bw W3 w2.heap.size 29 #[.int .i64 (lim : Int), .slice none 0 0] := by rw [hW3]; exact Bw.new w2 _ _
    rw [← hW3]
    obtain ⟨rb, hrb⟩ : ∃ rb, rb = w2.heap.size := ⟨_, rfl⟩
    rw [← hrb] at r3 ⊢
    have rbB : W.heap.size ≤ rb := by omega
    have J0 : Hid (DJ W qb kb mb rb lim W3 (.slice none 0 0) none 0 [] []) :=
      ⟨(t1.later b2).later b3, ⟨r3, .inl rfl, Nat.le_refl _, Nat.zero_le _, fun _ e => (by cases e), fun _ => rfl, fun _ e => (by cases e)⟩, List.Pairwise.nil, Nat.zero_le _, b1.trans ((b2.mono z1).trans (b3.mono (by omega))), fun _ e => by cases e⟩
    clear kn kr t1 b1 b2 b3 r3 hW3 z1 z2 hrb o1 o2
    go_wp2_with (go_at_call 8; refine (ka _).mono ?_; rintro e w4 ⟨rfl, b4⟩; have J4 := hide (J0.out.later b4); clear b4)
    clear J0
    go_loopw [9] (fun s9 wr => ∃ (i : Nat) (v : Value) (a' : Option Addr) (c' : Nat) (r : List En), s9 = .int .i64 (i : Int) ∧ i ≤ n ∧ Hid (DJ W qb kb mb rb lim wr v a' c' r r)) (fun s9 _ => n - (intOf s9).toNat)
    case atStart => exact ⟨0, _, _, _, [], rfl, by omega, J4⟩
    case round =>
      obtain ⟨i, v, a', c', r, rfl, hi, N⟩ := hrel
      by_cases hlt : i < n
      · have e1 : decide ((i : Int) < (n : Int)) = true := by rw [decide_eq_true_eq]; omega
        have e2 : decide (i < n) = true := by rw [decide_eq_true_eq]; omega
        have il : i < L.length := by have := HL.out; omega
        obtain ⟨g, o, rfl, gl, x0, x1, x2⟩ := (HI.out.later (N.out.bl)).at_ il
        have xs : L[i].nm.size ≤ maxLen := HS.out _ (List.getElem_mem il)
        obtain ⟨⟨kd, nm, t⟩, hq⟩ : ∃ q, q = L[i] := ⟨_, rfl⟩
        rw [← hq] at x0 x1 x2 xs
        dsimp only at x0 x1 x2 xs
        have ks := step_any N.out rbB kd nm t xs
        clear hq
        go_wp2_with (go_at_call 9; refine ks.mono ?_; rintro e w5 ⟨rfl, y1, y2, y3, y4, J5⟩; have J5' := hide J5; clear J5)
        go_roundw
        case rel => exact ⟨i + 1, y1, y2, y3, y4, by go_num, by omega, J5'⟩
        case measure => (first | (simp [intOf]; done) | (simp [intOf]; omega))
      · obtain rfl : i = n := by omega
        have e1 : decide ((i : Int) < (i : Int)) = false := by rw [decide_eq_false_iff_not]; omega
        have e2 : decide (i < i) = false := by rw [decide_eq_false_iff_not]; omega
        obtain ⟨k, hk⟩ : ∃ k, k = r.length := ⟨_, rfl⟩
        obtain ⟨m, hm⟩ : ∃ m : Int, m = (k : Int) + 1 := ⟨_, rfl⟩
        have kl : k ≤ 65536 := by rw [hk]; exact N.out.le
        have wm : IntKind.i64.wrap ((k : Int) + 1) = m := by rw [IntKind.wrap_i64]; omega
        have E := hide (N.out.endK hk hm)
        have BW := hide N.out.bl
        have S0 := E.out.cell wr (Below.refl _ _)
        have lr := E.out.lt
        have kk : ((k : Int) == (k : Int)) = true := by simp
        have zW := BW.out.size
        clear N hk hm
        go_wp2_with fail
        go_region_held3 (fun w' => w'.cell? ⟨rb, 1, none⟩ = some (.slice a' k c'))
          (first | exact S0 | exact S7 | exact S8 | with_reducible assumption)
          (first
            | (go_at_call 10; (with_reducible refine Calls.mono (E.out.len _ (by first | exact Below.refl _ _ | exact (Below.refl _ _).drew | exact below_drewN (Below.refl _ _) _)) ?_); rintro e w4 ⟨rfl, rfl⟩)
            | (go_at_call 12; (with_reducible refine Calls.mono (E.out.all _ (by first | exact Below.refl _ _ | exact (Below.refl _ _).drew | exact below_drewN (Below.refl _ _) _)) ?_); rintro e w7 ⟨a7, c7, rfl, I7, B7, S7⟩)
            | (go_at_call 11; (with_reducible refine Calls.mono (E.out.same _ a7 c7 (by first | exact B7.out | exact B7.out.drew | exact below_drewN B7.out _) (I7.out.later (by first | exact Below.refl _ _ | exact (Below.refl _ _).drew | exact below_drewN (Below.refl _ _) _))) ?_); rintro e w8 ⟨rfl, B8, S8⟩))
        all_goals
          go_wp2_with fail
          go_returns
          exact ⟨rfl, BW.out.trans ((by first | exact B8.out | exact B8.out.drew | exact below_drewN B8.out _ : Below wr.heap.size wr _).mono zW)⟩
  · have kn := qnew_bad limit ok W
    have kr := fun w => rnew7_bad limit ok w
    clear ok
    go_enter Try.func3, Try.ntmps3
    go_wp2_with (first
      | (go_at_call 6; refine kn.mono ?_; rintro e w1 ⟨rfl, rfl⟩)
      | (go_at_call 7; refine (kr _).mono ?_; rintro e w2 ⟨rfl, b2⟩; have z2 := b2.size)
      | (go_at_call 8; refine (ka _).mono ?_; rintro e w4 ⟨rfl, b4⟩))
    go_returns
    exact ⟨rfl, (b2.alloc z2 _).trans (b4.mono (Nat.le_trans z2 (by simp)))⟩
end Go.Proofs.Ytdfmfkibafcbcaa
