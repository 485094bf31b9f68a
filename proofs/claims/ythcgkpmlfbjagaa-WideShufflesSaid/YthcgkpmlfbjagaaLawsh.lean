/- WideShuffles: the law's walk. -/
import Derived.Test.YthcgkpmlfbjagaaLshr
import Derived.Test.YthcgkpmlfbjagaaWadd
import Derived.Deep.DeepCutAuto
import Derived.BigRegion
namespace Go.Proofs.Ythcgkpmlfbjagaa
set_option linter.unusedVariables false
set_option linter.unusedSimpArgs false
open Go.RowKit W
theorem wide_info : (Try.prog.info? 24).map (fun i => (i.zero, i.size, i.bytes)) = some (some (.agg #[.int .i64 0, .int .u64 0]), 2, 16) := by kernel_rfl
theorem size_l (w : World) : (Go.sizeOf (Try.prog.elem 44)).run Try.prog w = .ok 2 w := by kernel_rfl
theorem cut_lo (A : Option Addr) (n c m : Nat) (hm : m ≤ n) (w : World) : (Instr.slice 44 (.slice A n c) (some (.int .i64 (m : Int))) none none).run Try.prog w = .ok (.slice (if c = m then A else A.map (·.add (m * 2))) (n - m) (c - m)) w := by
  rw [run_slice_l (P := Try.prog) (w := w) 44 A n c (by kernel_rfl) .i64 (m : Int) (by omega) (by omega), size_l]
  simp [Result.andThen, sliced]
theorem cut_hi (A : Option Addr) (n c m : Nat) (hm : m ≤ n) (hc : n ≤ c) (w : World) : (Instr.slice 44 (.slice A n c) none (some (.int .i64 (m : Int))) none).run Try.prog w = .ok (.slice A m c) w := by
  rw [run_slice_h (P := Try.prog) (w := w) 44 A n c (by kernel_rfl) .i64 (m : Int) (by omega) (by omega), size_l]
  have e : ∀ x : Addr, x.add 0 = x := fun x => by unfold Addr.add; simp
  simp [Result.andThen, sliced, e]
/-- What the place p holds when i pairs have been exchanged. -/
def revF (n i : Nat) (ys : List (Int × Int)) (p : Nat) : Int × Int := if p < i ∨ n - i ≤ p then ys.getD (n - 1 - p) (0, 0) else ys.getD p (0, 0)
structure Turned (w : World) (g n i : Nat) (ys : List (Int × Int)) : Prop where
  chi : ∀ p, p < n → w.cell? ⟨g, p * 2, none⟩ = some (.int .i64 (revF n i ys p).1)
  clo : ∀ p, p < n → w.cell? ⟨g, p * 2 + 1, none⟩ = some (.int .u64 (revF n i ys p).2)
  fr : ∀ o, w.frozen? ⟨g, o, none⟩ = false
  lt : g < w.heap.size
theorem Turned.next {w w' : World} {g n i : Nat} {ys : List (Int × Int)} (h : Turned w g n i ys) (hi : i < n / 2) (hs : w.heap.size ≤ w'.heap.size)
    (c1 : w'.cell? ⟨g, i * 2, none⟩ = some (.int .i64 (ys.getD (n - 1 - i) (0, 0)).1)) (c2 : w'.cell? ⟨g, i * 2 + 1, none⟩ = some (.int .u64 (ys.getD (n - 1 - i) (0, 0)).2))
    (c3 : w'.cell? ⟨g, (n - 1 - i) * 2, none⟩ = some (.int .i64 (ys.getD i (0, 0)).1)) (c4 : w'.cell? ⟨g, (n - 1 - i) * 2 + 1, none⟩ = some (.int .u64 (ys.getD i (0, 0)).2))
    (oth : ∀ o, o ≠ i * 2 → o ≠ i * 2 + 1 → o ≠ (n - 1 - i) * 2 → o ≠ (n - 1 - i) * 2 + 1 → w'.cell? ⟨g, o, none⟩ = w.cell? ⟨g, o, none⟩)
    (fr : ∀ o, w'.frozen? ⟨g, o, none⟩ = w.frozen? ⟨g, o, none⟩) : Turned w' g n (i + 1) ys := by
  have F1 : revF n (i + 1) ys i = ys.getD (n - 1 - i) (0, 0) := by unfold revF; rw [if_pos (by omega)]
  have F2 : revF n (i + 1) ys (n - 1 - i) = ys.getD i (0, 0) := by unfold revF; rw [if_pos (by omega)]; congr 1; omega
  have F3 : ∀ p, p < n → p ≠ i → p ≠ n - 1 - i → revF n (i + 1) ys p = revF n i ys p := by
    intro p hp h1 h2
    unfold revF
    by_cases g : p < i ∨ n - i ≤ p
    · rw [if_pos g, if_pos (by omega)]
    · rw [if_neg g, if_neg (by omega)]
  refine ⟨fun p hp => ?_, fun p hp => ?_, fun o => (fr o).trans (h.fr o), Nat.lt_of_lt_of_le h.lt hs⟩
  · by_cases e1 : p = i
    · subst e1; rw [F1]; exact c1
    by_cases e2 : p = n - 1 - i
    · subst e2; rw [F2]; exact c3
    rw [F3 p hp e1 e2, oth _ (by omega) (by omega) (by omega) (by omega)]
    exact h.chi p hp
  · by_cases e1 : p = i
    · subst e1; rw [F1]; exact c2
    by_cases e2 : p = n - 1 - i
    · subst e2; rw [F2]; exact c4
    rw [F3 p hp e1 e2, oth _ (by omega) (by omega) (by omega) (by omega)]
    exact h.clo p hp
theorem Turned.start {w : World} {g n : Nat} {ys : List (Int × Int)} (H : Holds w g 0 n ys) (fr : ∀ o, w.frozen? ⟨g, o, none⟩ = false) (lt : g < w.heap.size) : Turned w g n 0 ys := by
  have F : ∀ p, p < n → revF n 0 ys p = ys.getD p (0, 0) := fun p hp => by unfold revF; rw [if_neg (by omega)]
  refine ⟨fun p hp => ?_, fun p hp => ?_, fr, lt⟩
  · rw [F p hp]; have := H.chi p hp; simpa using this
  · rw [F p hp]; have := H.clo p hp; simpa using this
theorem getD_rev (ys : List (Int × Int)) (p : Nat) (hp : p < ys.length) : ys.reverse.getD p (0, 0) = ys.getD (ys.length - 1 - p) (0, 0) := by
  rw [List.getD_eq_getElem?_getD, List.getD_eq_getElem?_getD, List.getElem?_reverse hp]
theorem Turned.done {w : World} {g n : Nat} {ys : List (Int × Int)} (h : Turned w g n (n / 2) ys) (hl : ys.length = n) (F : ∀ p ∈ ys, IsW p) : Holds w g 0 n ys.reverse := by
  have E : ∀ p, p < n → revF n (n / 2) ys p = ys.reverse.getD p (0, 0) := by
    intro p hp
    rw [getD_rev ys p (by omega), hl]
    unfold revF
    by_cases g : p < n / 2 ∨ n - n / 2 ≤ p
    · rw [if_pos g]
    · rw [if_neg g]; congr 1; omega
  refine ⟨by simpa using hl, fun p hp => ?_, fun p hp => ?_, fun p hp => F p (by simpa using hp)⟩
  · rw [← E p hp]; have := h.chi p hp; simpa using this
  · rw [← E p hp]; have := h.clo p hp; simpa using this
/-- Two pairs of cells are stored, one pair behind the other. -/
theorem swap4 (w : World) (g t z : Nat) (a b c d x1 x2 x3 x4 : Value) (hne : z ≠ t) (e1 : w.cell? ⟨g, t * 2, none⟩ = some x1) (e2 : w.cell? ⟨g, t * 2 + 1, none⟩ = some x2) (e3 : w.cell? ⟨g, z * 2, none⟩ = some x3) (e4 : w.cell? ⟨g, z * 2 + 1, none⟩ = some x4)
    (U : World) (hU : U = ((((w.setCell ⟨g, t * 2, none⟩ a).setCell ⟨g, t * 2 + 1, none⟩ b).setCell ⟨g, z * 2, none⟩ c).setCell ⟨g, z * 2 + 1, none⟩ d).drew) :
    U.cell? ⟨g, t * 2, none⟩ = some a ∧ U.cell? ⟨g, t * 2 + 1, none⟩ = some b ∧ U.cell? ⟨g, z * 2, none⟩ = some c ∧ U.cell? ⟨g, z * 2 + 1, none⟩ = some d ∧
    (∀ o, o ≠ t * 2 → o ≠ t * 2 + 1 → o ≠ z * 2 → o ≠ z * 2 + 1 → U.cell? ⟨g, o, none⟩ = w.cell? ⟨g, o, none⟩) ∧ (∀ o, U.frozen? ⟨g, o, none⟩ = w.frozen? ⟨g, o, none⟩) := by
  have ot : ∀ (v : World) (x : Value) (p q : Nat), p ≠ q → (v.setCell ⟨g, p, none⟩ x).cell? ⟨g, q, none⟩ = v.cell? ⟨g, q, none⟩ := fun v x p q h =>
    World.cell?_setCell_other v ⟨g, p, none⟩ ⟨g, q, none⟩ x (fun e => by injection e with _ e; omega)
  have sm : ∀ (v : World) (x y : Value) (p : Nat), v.cell? ⟨g, p, none⟩ = some y → (v.setCell ⟨g, p, none⟩ x).cell? ⟨g, p, none⟩ = some x := fun v x y p h =>
    World.cell?_setCell_same' v ⟨g, p, none⟩ x (by simp [h])
  subst hU
  simp only [World.cell?_drew]
  refine ⟨?_, ?_, ?_, ?_, ?_, ?_⟩
  · rw [ot _ _ _ _ (by omega), ot _ _ _ _ (by omega), ot _ _ _ _ (by omega)]
    exact sm _ _ _ _ e1
  · rw [ot _ _ _ _ (by omega), ot _ _ _ _ (by omega)]
    refine sm _ _ x2 _ ?_
    rw [ot _ _ _ _ (by omega)]; exact e2
  · rw [ot _ _ _ _ (by omega)]
    refine sm _ _ x3 _ ?_
    rw [ot _ _ _ _ (by omega), ot _ _ _ _ (by omega)]; exact e3
  · refine sm _ _ x4 _ ?_
    rw [ot _ _ _ _ (by omega), ot _ _ _ _ (by omega), ot _ _ _ _ (by omega)]; exact e4
  · intro o h1 h2 h3 h4
    rw [ot _ _ _ _ (by omega), ot _ _ _ _ (by omega), ot _ _ _ _ (by omega), ot _ _ _ _ (by omega)]
  · intro o
    simp [go_sem]
set_option maxRecDepth 100000 in
set_option maxHeartbeats 8000000 in
theorem shuf_walk (A : Option Addr) (n c : Nat) (k : Int) (ws : List (Int × Int)) (x1 x0 er : Int) (Y1 Y0 Ye Z1 Z0 Ze : Nat → Int) (w : World)
    (H0 : IsWides w A n c ws) (hc : n ≤ c) (hn : n * 16 ≤ 140737488355328) (ik : -9223372036854775808 ≤ k ∧ k ≤ 9223372036854775807)
    (kS : ∀ w' A' c', IsWides w' A' n c' ws → Calls Try.prog 34 #[.slice A' n c'] w' fun e u => e = .returned (.tuple #[.agg #[.int .i64 x1, .int .u64 x0], .int .i64 er]) ∧ Below w'.heap.size w' u)
    (kR : ∀ q, q ≤ n → ∀ w' A' c', IsWides w' A' n c' (ws.drop q ++ ws.take q).reverse → Calls Try.prog 34 #[.slice A' n c'] w' fun e u => e = .returned (.tuple #[.agg #[.int .i64 x1, .int .u64 x0], .int .i64 er]) ∧ Below w'.heap.size w' u)
    (kP : ∀ q, q ≤ n → ∀ w' A' c', IsWides w' A' q c' (ws.take q) → Calls Try.prog 34 #[.slice A' q c'] w' fun e u => e = .returned (.tuple #[.agg #[.int .i64 (Y1 q), .int .u64 (Y0 q)], .int .i64 (Ye q)]) ∧ Below w'.heap.size w' u)
    (kQ : ∀ q, q ≤ n → ∀ w' A' c', IsWides w' A' (n - q) c' (ws.drop q) → Calls Try.prog 34 #[.slice A' (n - q) c'] w' fun e u => e = .returned (.tuple #[.agg #[.int .i64 (Z1 q), .int .u64 (Z0 q)], .int .i64 (Ze q)]) ∧ Below w'.heap.size w' u)
    (kA : ∀ q, q ≤ n → Ye q = 0 → Ze q = 0 → ∀ w', Calls Try.prog 26 #[.agg #[.int .i64 (Y1 q), .int .u64 (Y0 q)], .agg #[.int .i64 (Z1 q), .int .u64 (Z0 q)]] w' fun e u => e = .returned (.tuple #[.agg #[.int .i64 x1, .int .u64 x0], .int .i64 er]) ∧ Below w'.heap.size w' u)
    : Calls Try.prog 12 #[.slice A n c, .int .i64 k] w fun e w' => e = .returned (.bool true) ∧ Below w.heap.size w w' := by
  obtain ⟨i0, hi0, hz0, hz1, hz2⟩ := info_parts wide_info
  have kal := alive_ok
  have HI := hide H0
  clear H0
  go_enter Try.func12, Try.ntmps12
  go_wp2_with fail
  refine (kal _).mono ?_
  rintro e w1 ⟨rfl, h1⟩
  have B1 : Below w.heap.size w w1 := h1
  have y1 := B1.size
  clear h1 kal
  have H1 := hide (HI.out.later (Nat.le_refl _) B1)
  go_wp2_with (first
    | (at_builtin
       refine wpList_append_wides _ rfl (.tmp 22) (.tmp 23) _ rfl w.heap.size 24 i0 _ Try.underlying44 hi0 hz0 hz1 hz2 rfl (.slice none 0 0) 0 [] rfl (World.ownsRow_nil _ _ _ _) A n c ws rfl H1.out (by omega) y1 ?_
       intro v1 w2 own1 b2
       rw [Nat.zero_add, List.nil_append] at own1
       obtain ⟨A1, c1, rfl, hc1, W1, l1, -⟩ := own_wides own1 HI.out.fit (by omega)
       have HW1 := hide W1
       clear own1 W1))
  have B2 : Below w.heap.size w w2 := B1.trans b2
  refine (kS _ _ _ HW1.out).mono ?_
  rintro e w3 ⟨rfl, h3⟩
  have B3 : Below w.heap.size w w3 := B2.trans (h3.mono B2.size)
  have H3 := hide (HI.out.later (Nat.le_refl _) B3)
  have HW3 := hide (HW1.out.later (Nat.le_refl _) h3)
  clear h3 kS B1 B2 b2 H1 HW1 y1
  go_upto_region 6 with fail
  refine abs_wp (fun W => W.cell? ⟨w3.heap.size, 0, none⟩ = some (.int .i64 x1) ∧ W.cell? ⟨w3.heap.size, 1, none⟩ = some (.int .u64 x0) ∧ w3.heap.size < W.heap.size ∧ Hid (IsWides W A n c ws) ∧ Hid (IsWides W A1 n c1 ws) ∧ Below w.heap.size w W) ?_ ?_
  · have s3 := B3.size
    have K3 : Below w3.heap.size w3 w3 := Below.refl _ _
    refine ⟨?_, ?_, ?_, hide (H3.out.later (Nat.le_refl _) ?_), hide (HW3.out.later (Nat.le_refl _) ?_), ?_⟩
    all_goals first | assumption | (go_grown; done) | (simp [go_sem]; done) | (simp; done) | (simp; omega)
  clear B3 H3 HW3
  rintro W ⟨a0, a1, az, HA, HB, BW⟩
  go_wp2_with fail
  go_loopw [8] (fun i wr => ∃ (j : Nat), j ≤ n ∧ i = .int .i64 j ∧ Below W.heap.size W wr) (fun i _ => n - (intOf i).toNat)
  case atStart => exact ⟨0, by omega, rfl, by go_grown⟩
  case round =>
    obtain ⟨j, hj, rfl, BR⟩ := hrel
    by_cases hlt : j < n
    · rcases HA.out with ⟨h0, _⟩ | ⟨b, off, rfl, hb, hl, HH⟩
      · omega
      rcases HB.out with ⟨h0, _⟩ | ⟨b', off', rfl, hb', hl', HH'⟩
      · omega
      have e1 := (BR.cell (p := ⟨b, off + j * 2, none⟩) hb).trans (HH.chi j hlt)
      have e2 := (BR.cell (p := ⟨b, off + j * 2 + 1, none⟩) hb).trans (HH.clo j hlt)
      have e3 := (BR.cell (p := ⟨b', off' + j * 2, none⟩) hb').trans (HH'.chi j hlt)
      have e4 := (BR.cell (p := ⟨b', off' + j * 2 + 1, none⟩) hb').trans (HH'.clo j hlt)
      obtain ⟨eh, heh⟩ : ∃ x, x = (ws.getD j (0, 0)).1 := ⟨_, rfl⟩
      obtain ⟨el, hel⟩ : ∃ x, x = (ws.getD j (0, 0)).2 := ⟨_, rfl⟩
      rw [← heh] at e1 e3
      rw [← hel] at e2 e4
      clear heh hel HH HH'
      go_wp2_with fail
      go_region
      go_wp2_with fail
      go_roundw
      case rel => exact ⟨j + 1, by omega, by go_num, by go_grown⟩
      case measure => simp [intOf]; omega
    · obtain rfl : j = n := by omega
      have a0' := (BR.cell (p := ⟨w3.heap.size, 0, none⟩) az).trans a0
      have a1' := (BR.cell (p := ⟨w3.heap.size, 1, none⟩) az).trans a1
      have az' := Nat.lt_of_lt_of_le az BR.size
      have BV := BW.trans (BR.mono BW.size)
      have HV := hide (HA.out.later (Nat.le_refl _) BR)
      clear a0 a1 az HA HB BW BR
      go_upto_if 46 with fail
      go_cut [9] (fun q wx => ∃ m : Nat, m ≤ j ∧ q = .int .i64 m ∧ wx = wr)
      case first =>
        by_cases hk : 0 < k
        · have hd : ¬ ((j : Int) + 1 = 0) := by omega
          have ht : 0 ≤ k.tmod ((j : Int) + 1) ∧ k.tmod ((j : Int) + 1) < (j : Int) + 1 := by
            rw [Int.tmod_eq_emod_of_nonneg (by omega)]
            exact ⟨Int.emod_nonneg _ hd, Int.emod_lt_of_pos _ (by omega)⟩
          obtain ⟨m, hm⟩ := Int.eq_ofNat_of_zero_le ht.1
          have hml : m ≤ j := by omega
          have hm2 : k.tmod (((j + 1 : Nat) : Int)) = (m : Int) := by rw [show (((j + 1 : Nat) : Int)) = (j : Int) + 1 by omega]; exact hm
          clear ht
          go_wp2_with fail
          go_meet
          case rel => exact ⟨m, hml, by go_num, rfl⟩
        · go_wp2_with fail
          go_meet
          case rel => exact ⟨0, by omega, rfl, rfl⟩
      case rest =>
        obtain ⟨m, hm, rfl, rfl⟩ := hcut
        clear ik
        have q1 := cut_lo A j c m hm
        have q2 := cut_hi A j c m hm hc
        have HDf := hide (fun (w' : World) (h : IsWides w' A j c ws) => h.drop (c2 := c - m) hm hc)
        obtain ⟨A2, hA2⟩ : ∃ x, x = if c = m then A else A.map (·.add (m * 2)) := ⟨_, rfl⟩
        rw [← hA2] at q1 HDf
        clear hA2
        have HD := hide (HDf.out _ HV.out)
        go_wp2_with (first
          | (at_builtin
             refine wpList_append_wides _ rfl (.tmp 52) (.tmp 55) _ rfl wc.heap.size 24 i0 _ Try.underlying44 hi0 hz0 hz1 hz2 rfl (.slice none 0 0) 0 [] rfl (World.ownsRow_nil _ _ _ _) _ (j - m) (c - m) (ws.drop m) rfl HD.out (by omega) (Nat.le_refl _) ?_
             intro v4 w4 own4 b4
             rw [Nat.zero_add, List.nil_append] at own4
             have H4 := hide (HV.out.later (Nat.le_refl _) b4)
             have y4 := b4.size)
          | (at_builtin
             refine wpList_append_wides _ rfl (.tmp 57) (.tmp 60) _ rfl wc.heap.size 24 i0 _ Try.underlying44 hi0 hz0 hz1 hz2 rfl v4 (j - m) (ws.drop m) rfl own4 A m c (ws.take m) rfl (H4.out.take hm) (by omega) y4 ?_
             intro v5 w5 own5 b5
             rw [Nat.sub_add_cancel hm] at own5
             have ft : ∀ p ∈ ws.drop m ++ ws.take m, IsW p := fun p hp => by rcases List.mem_append.1 hp with h | h <;> first | exact HV.out.fit p (List.mem_of_mem_drop h) | exact HV.out.fit p (List.mem_of_mem_take h)
             obtain ⟨A5, c5, rfl, hc5, W5, l5, O5⟩ := own_wides own5 ft (by omega)
             have HO := hide O5
             have HF := hide ft
             clear own5 own4 W5 O5 ft))
        have b6 := b4.trans b5
        have H6 := hide (HV.out.later (Nat.le_refl _) b6)
        clear H4 HD b4 b5
        have kr := kR m hm
        obtain ⟨ys, hys⟩ : ∃ ys, ys = ws.drop m ++ ws.take m := ⟨_, rfl⟩
        rw [← hys] at l5 HO HF kr
        clear hys kR
        have hdiv : ((j : Int)).tdiv 2 = ((j / 2 : Nat) : Int) := by rw [Int.tdiv_eq_ediv_of_nonneg (by omega)]; omega
        go_loopw [11] (fun i wr => ∃ (t : Nat), t ≤ j / 2 ∧ i = .int .i64 t ∧ Below wc.heap.size w5 wr ∧ ∀ g, A5 = some ⟨g, 0, none⟩ → 0 < j → Turned wr g j t ys) (fun i _ => j / 2 - (intOf i).toNat)
        case atStart =>
          refine ⟨0, by omega, rfl, by go_grown, fun g hg hj0 => ?_⟩
          obtain ⟨g', e, _, lt, H, fr⟩ := HO.out hj0
          rw [hg] at e
          injection e with e
          injection e with e
          subst e
          exact Turned.start H fr lt
        case round =>
          obtain ⟨t, ht, rfl, BR, TT⟩ := hrel
          by_cases hlt : t < j / 2
          · obtain ⟨g, rfl, gb, -, -, -⟩ := HO.out (by omega)
            have T := TT g rfl (by omega)
            have e1 := T.chi t (by omega)
            have e2 := T.clo t (by omega)
            have e3 := T.chi (j - 1 - t) (by omega)
            have e4 := T.clo (j - 1 - t) (by omega)
            have f1 : revF j t ys t = ys.getD t (0, 0) := by unfold revF; rw [if_neg (by omega)]
            have f2 : revF j t ys (j - 1 - t) = ys.getD (j - 1 - t) (0, 0) := by unfold revF; rw [if_neg (by omega)]
            rw [f1] at e1 e2
            rw [f2] at e3 e4
            clear f1 f2
            have g1 := T.fr (t * 2)
            have g2 := T.fr (t * 2 + 1)
            have g3 := T.fr ((j - 1 - t) * 2)
            have g4 := T.fr ((j - 1 - t) * 2 + 1)
            have glt := T.lt
            have TS := hide T
            have TN := hide (fun (w' : World) => T.next (w' := w') hlt)
            clear T TT
            obtain ⟨z, hz⟩ : ∃ z, z = j - 1 - t := ⟨_, rfl⟩
            have hzi : (j : Int) - 1 - (t : Int) = (z : Int) := by omega
            rw [← hz] at e3 e4 g3 g4 TN
            obtain ⟨P1, hP1⟩ : ∃ x, x = (ys.getD t (0, 0)).1 := ⟨_, rfl⟩
            obtain ⟨P0, hP0⟩ : ∃ x, x = (ys.getD t (0, 0)).2 := ⟨_, rfl⟩
            obtain ⟨R1, hR1⟩ : ∃ x, x = (ys.getD z (0, 0)).1 := ⟨_, rfl⟩
            obtain ⟨R0, hR0⟩ : ∃ x, x = (ys.getD z (0, 0)).2 := ⟨_, rfl⟩
            rw [← hP1] at e1 TN
            rw [← hP0] at e2 TN
            rw [← hR1] at e3 TN
            rw [← hR0] at e4 TN
            clear hP1 hP0 hR1 hR0
            have hne : z ≠ t := by omega
            have hzj : z < j := by omega
            clear hz
            go_wp2_with fail
            go_region
            obtain ⟨U, hU⟩ : ∃ U, U = ((((wr.setCell ⟨g, t * 2, none⟩ (.int .i64 R1)).setCell ⟨g, t * 2 + 1, none⟩ (.int .u64 R0)).setCell ⟨g, z * 2, none⟩ (.int .i64 P1)).setCell ⟨g, z * 2 + 1, none⟩ (.int .u64 P0)).drew := ⟨_, rfl⟩
            have BU : Below wc.heap.size w5 U := by rw [hU]; refine Below.drew (Below.setCell (Below.setCell (Below.setCell (Below.setCell BR gb _) gb _) gb _) gb _)
            have SU : wr.heap.size ≤ U.heap.size := by rw [hU]; simp [go_sem]
            obtain ⟨u1, u2, u3, u4, u5, u6⟩ := swap4 wr g t z _ _ _ _ _ _ _ _ hne e1 e2 e3 e4 U hU
            rw [← hU]
            clear hU
            have TU := hide (TN.out U SU u1 u2 u3 u4 u5 u6)
            clear TN SU u1 u2 u3 u4 u5 u6 e1 e2 e3 e4 g1 g2 g3 g4 TS
            go_wp2_with fail
            go_roundw
            case rel => exact ⟨t + 1, by omega, by go_num, by go_grown, fun g' hg' _ => by injection hg' with hg'; injection hg' with hg'; subst hg'; exact TU.out⟩
            case measure => simp [intOf]; omega
          · obtain rfl : t = j / 2 := by omega
            have WT : Hid (IsWides wr A5 j c5 ys.reverse) := by
              apply hide
              rcases Nat.eq_zero_or_pos j with h0 | h0
              · obtain rfl : ys = [] := List.eq_nil_of_length_eq_zero (by omega)
                exact .inl ⟨h0, rfl⟩
              · obtain ⟨g, rfl, -, -, -, -⟩ := HO.out h0
                have T := TT g rfl h0
                exact .inr ⟨g, 0, rfl, T.lt, by omega, T.done l5 HF.out⟩
            have b7 := b6.trans BR
            have a0 := (b7.cell (p := ⟨w3.heap.size, 0, none⟩) az').trans a0'
            have a1 := (b7.cell (p := ⟨w3.heap.size, 1, none⟩) az').trans a1'
            have az := Nat.lt_of_lt_of_le az' b7.size
            have B7 := BV.trans (b7.mono BV.size)
            have H7 := hide (HV.out.later (Nat.le_refl _) b7)
            clear a0' a1' az' BV HV BR TT HO HF b6 b7 H6 hdiv l5
            have kp := kP m hm
            have kq := kQ m hm
            have ka := kA m hm
            clear kP kQ kA
            obtain ⟨p1, hp1⟩ : ∃ x, x = Y1 m := ⟨_, rfl⟩
            obtain ⟨p0, hp0⟩ : ∃ x, x = Y0 m := ⟨_, rfl⟩
            obtain ⟨pe, hpe⟩ : ∃ x, x = Ye m := ⟨_, rfl⟩
            obtain ⟨r1, hr1⟩ : ∃ x, x = Z1 m := ⟨_, rfl⟩
            obtain ⟨r0, hr0⟩ : ∃ x, x = Z0 m := ⟨_, rfl⟩
            obtain ⟨re, hre⟩ : ∃ x, x = Ze m := ⟨_, rfl⟩
            rw [← hp1, ← hp0] at kp ka
            rw [← hpe] at kp ka
            rw [← hr1, ← hr0] at kq ka
            rw [← hre] at kq ka
            clear hp1 hp0 hpe hr1 hr0 hre Y1 Y0 Ye Z1 Z0 Ze
            go_wp2_with fail
            refine (kr _ _ _ WT.out).mono ?_
            rintro e w8 ⟨rfl, h8⟩
            have B8 : Below w.heap.size w w8 := B7.trans (h8.mono B7.size)
            have H8 := hide (H7.out.later (Nat.le_refl _) h8)
            have a0' := (h8.cell (p := ⟨w3.heap.size, 0, none⟩) az).trans a0
            have a1' := (h8.cell (p := ⟨w3.heap.size, 1, none⟩) az).trans a1
            have az' := Nat.lt_of_lt_of_le az h8.size
            have nz8 : ¬ w3.heap.size = w8.heap.size := by omega
            clear h8 kr WT H7 B7 a0 a1 az
            go_wp2_with fail
            refine (kp _ _ _ ((H8.out.later (Nat.le_refl _) (by go_grown)).take hm)).mono ?_
            rintro e w9 ⟨rfl, h9⟩
            have K9 : Below w8.heap.size w8 w9 := Below.trans (by go_grown) (h9.mono (by first | (simp; done) | omega | (simp; omega)))
            have a0 := (K9.cell (p := ⟨w3.heap.size, 0, none⟩) az').trans a0'
            have a1 := (K9.cell (p := ⟨w3.heap.size, 1, none⟩) az').trans a1'
            have az := Nat.lt_of_lt_of_le az' K9.size
            have B9 : Below w.heap.size w w9 := B8.trans (K9.mono B8.size)
            have H9 := hide (H8.out.later (Nat.le_refl _) K9)
            have nz9 : ¬ w3.heap.size = w9.heap.size := by omega
            clear kp h9 K9 a0' a1' az' B8 H8 nz8 q2
            go_wp2_with fail
            refine (kq _ _ _ (HDf.out _ (H9.out.later (Nat.le_refl _) (by go_grown)))).mono ?_
            rintro e w10 ⟨rfl, h10⟩
            have X0 := box2 h10 (w9.heap.size) (.int .i64 p1) (.int .u64 p0) (by first | assumption | (simp [go_sem]; done) | (simp [go_sem]; done)) (by first | assumption | (simp [go_sem]; done) | (simp [go_sem]; done)) (by first | assumption | (simp [go_sem]; done) | (simp [go_sem]; done)) (by first | assumption | (simp [go_sem]; done) | (simp [go_sem]; done)) (by first | assumption | omega | (simp; done) | (simp; omega))
            obtain ⟨X0c0, X0c1, X0f0, X0f1, X0z⟩ := X0
            have K10 : Below w9.heap.size w9 w10 := Below.trans (by go_grown) (h10.mono (by first | (simp; done) | omega | (simp; omega)))
            have a0' := (K10.cell (p := ⟨w3.heap.size, 0, none⟩) az).trans a0
            have a1' := (K10.cell (p := ⟨w3.heap.size, 1, none⟩) az).trans a1
            have az' := Nat.lt_of_lt_of_le az K10.size
            have B10 : Below w.heap.size w w10 := B9.trans (K10.mono B9.size)
            have nz10 : ¬ w3.heap.size = w10.heap.size := by omega
            have nx10 : ¬ w9.heap.size = w10.heap.size := by omega
            have y10 := B10.size
            clear kq h10 K10 a0 a1 az B9 H9 nz9 q1
            by_cases gp : pe = 0
            · subst gp
              by_cases gr : re = 0
              · subst gr
                have ka' := ka rfl rfl
                clear ka
                go_wp2_with fail
                refine (ka' _).mono ?_
                rintro e w11 ⟨rfl, h11⟩
                have K11 : Below w10.heap.size w10 w11 := Below.trans (by go_grown) (h11.mono (by first | (simp; done) | omega | (simp; omega)))
                have a0 := (K11.cell (p := ⟨w3.heap.size, 0, none⟩) az').trans a0'
                have a1 := (K11.cell (p := ⟨w3.heap.size, 1, none⟩) az').trans a1'
                have az := Nat.lt_of_lt_of_le az' K11.size
                have B11 : Below w.heap.size w w11 := B10.trans (K11.mono y10)
                have nz11 : ¬ w3.heap.size = w11.heap.size := by omega
                have y11 := B11.size
                clear ka' h11 K11 a0' a1' az' B10
                go_wp2_with fail
                go_returns
                exact ⟨rfl, by go_grown⟩
              · clear ka
                go_wp2_with fail
                go_returns
                exact ⟨rfl, by go_grown⟩
            · clear ka
              go_wp2_with fail
              go_returns
              exact ⟨rfl, by go_grown⟩
theorem sumV_rev (l : List (Int × Int)) : sumV l.reverse = sumV l := by
  induction l with
  | nil => rfl
  | cons p l ih => rw [List.reverse_cons, sumV_append, ih]; simp [sumV]; omega
theorem resE_fit {v : Int} (h : resE v = 0) : Fits v := by
  unfold resE at h
  by_cases g : Fits v
  · exact g
  · rw [if_neg g] at h; exact absurd h (by decide)
theorem law_WideShuffles (A : Option Addr) (n c : Nat) (k : Int) (ws : List (Int × Int)) (w : World) (H : IsWides w A n c ws) (hc : n ≤ c) (hn : n * 16 ≤ 140737488355328) (ik : -9223372036854775808 ≤ k ∧ k ≤ 9223372036854775807) :
    Calls Try.prog 12 #[.slice A n c, .int .i64 k] w fun e w' => e = .returned (.bool true) ∧ Below w.heap.size w w' := by
  have hl := H.size
  have hf := H.fit
  refine shuf_walk A n c k ws (hi (resV (sumV ws))) (lo (resV (sumV ws))) (resE (sumV ws)) (fun q => hi (resV (sumV (ws.take q)))) (fun q => lo (resV (sumV (ws.take q)))) (fun q => resE (sumV (ws.take q)))
    (fun q => hi (resV (sumV (ws.drop q)))) (fun q => lo (resV (sumV (ws.drop q)))) (fun q => resE (sumV (ws.drop q))) w H hc hn ik
    (fun w' A' c' h => sum_any A' n c' ws w' h) (fun q hq w' A' c' h => ?_) (fun q hq w' A' c' h => sum_any A' q c' _ w' h) (fun q hq w' A' c' h => sum_any A' (n - q) c' _ w' h) (fun q hq e1 e2 w' => ?_)
  · have e : sumV (ws.drop q ++ ws.take q).reverse = sumV ws := by
      rw [sumV_rev, sumV_append, Int.add_comm, ← sumV_append, List.take_append_drop]
    have := sum_any A' n c' _ w' h
    rw [e] at this
    exact this
  · have f1 : Fits (sumV (ws.take q)) := resE_fit e1
    have f2 : Fits (sumV (ws.drop q)) := resE_fit e2
    have e : sumV (ws.take q) + sumV (ws.drop q) = sumV ws := by rw [← sumV_append, List.take_append_drop]
    have v1 : resV (sumV (ws.take q)) = sumV (ws.take q) := by unfold resV; rw [if_pos f1]
    have v2 : resV (sumV (ws.drop q)) = sumV (ws.drop q) := by unfold resV; rw [if_pos f2]
    have := add_spec _ _ _ _ (isW_res (sumV (ws.take q))) (isW_res (sumV (ws.drop q))) w'
    rw [V_hi_lo, V_hi_lo] at this
    rw [show resV (sumV (ws.take q)) + resV (sumV (ws.drop q)) = sumV ws by rw [v1, v2, e]] at this
    exact this
end Go.Proofs.Ythcgkpmlfbjagaa
