/- wide: read. -/
import Derived.Test.YtdjehbagnkfkpaaDoorWplain
import Derived.Test.YtdjehbagnkfkpaaDoorWmul
import Derived.Test.YtdjehbagnkfkpaaDoorWbits
namespace Go.Proofs.YtdjehbagnkfkpaaDoor
set_option linter.unusedVariables false
set_option linter.unusedSimpArgs false
open Go.RowKit W
/-- The number of the first k digits. -/
def wk (s : ByteArray) (k : Nat) : Nat := Dc.worth (s.data.toList.take k)
theorem wk_zero (s : ByteArray) : wk s 0 = 0 := by unfold wk; simp; rfl
theorem wk_succ (s : ByteArray) (k : Nat) (h : k < s.size) : wk s (k + 1) = wk s k * 10 + (s[k].toNat - 48) := by
  unfold wk
  have : k < s.data.toList.length := by simpa using h
  rw [Dc.worth_take _ k this]; rfl
theorem wk_mono (s : ByteArray) (k : Nat) : wk s k ≤ wk s s.size := by
  unfold wk
  have := Dc.worth_mono s.data.toList k
  rwa [List.take_of_length_le (show s.data.toList.length ≤ s.size by simp)]
theorem add_words {p p1 p0 d : Int} (a : 0 ≤ p) (b : p < 340282366920938463463374607431768211456) (e1 : p1 = hi p) (e0 : p0 = lo p) (d0 : 0 ≤ d) (d1 : d < 10) :
    (addC p1 0 (addC p0 d 0) = 0 → p + d < 340282366920938463463374607431768211456 ∧ addD p0 d 0 = lo (p + d) ∧ addD p1 0 (addC p0 d 0) = hi (p + d)) ∧ (addC p1 0 (addC p0 d 0) ≠ 0 → 340282366920938463463374607431768211456 ≤ p + d) := by
  unfold addC addD hi lo at *
  omega
/-- The state of read's loop. -/
structure RdInv (w wr : World) (M : Int) : Prop where
  m0 : wr.cell? ⟨w.heap.size + 1, 0, none⟩ = some (.int .u64 (lo M))
  m1 : wr.cell? ⟨w.heap.size + 1, 1, none⟩ = some (.int .u64 (hi M))
  f0 : wr.frozen? ⟨w.heap.size + 1, 0, none⟩ = false
  f1 : wr.frozen? ⟨w.heap.size + 1, 1, none⟩ = false
  r0 : wr.cell? ⟨w.heap.size, 0, none⟩ = some (.int .u64 0)
  r1 : wr.cell? ⟨w.heap.size, 1, none⟩ = some (.int .u64 0)
  g0 : wr.frozen? ⟨w.heap.size, 0, none⟩ = false
  g1 : wr.frozen? ⟨w.heap.size, 1, none⟩ = false
  lt : w.heap.size + 1 < wr.heap.size
  below : Below w.heap.size w wr
theorem RdInv.later {w wr v : World} {M : Int} (h : RdInv w wr M) (k : Below wr.heap.size wr v) : RdInv w v M := by
  have lt := h.lt
  have z0 : w.heap.size < wr.heap.size := by omega
  exact ⟨(k.cell (p := ⟨w.heap.size + 1, 0, none⟩) lt).trans h.m0, (k.cell (p := ⟨w.heap.size + 1, 1, none⟩) lt).trans h.m1, (k.frozen (p := ⟨w.heap.size + 1, 0, none⟩) lt).trans h.f0, (k.frozen (p := ⟨w.heap.size + 1, 1, none⟩) lt).trans h.f1,
    (k.cell (p := ⟨w.heap.size, 0, none⟩) z0).trans h.r0, (k.cell (p := ⟨w.heap.size, 1, none⟩) z0).trans h.r1, (k.frozen (p := ⟨w.heap.size, 0, none⟩) z0).trans h.g0, (k.frozen (p := ⟨w.heap.size, 1, none⟩) z0).trans h.g1,
    Nat.lt_of_lt_of_le lt k.size, h.below.trans (k.mono h.below.size)⟩
theorem RdInv.put {w v : World} {M : Int} (h : RdInv w v M) (M' : Int) : RdInv w ((v.setCell ⟨w.heap.size + 1, 0, none⟩ (.int .u64 (lo M'))).setCell ⟨w.heap.size + 1, 1, none⟩ (.int .u64 (hi M'))) M' := by
  obtain ⟨m0, m1, f0, f1, r0, r1, g0, g1, lt, bl⟩ := h
  refine ⟨?_, ?_, ?_, ?_, ?_, ?_, ?_, ?_, by simpa [World.setCell] using lt, (bl.setCell (by show w.heap.size ≤ w.heap.size + 1; omega) _).setCell (by show w.heap.size ≤ w.heap.size + 1; omega) _⟩
  · simp [go_sem, m0, lt]
  · refine World.cell?_setCell_same' _ _ _ ?_; simp [go_sem, m1]
  · simp [go_sem, f0]
  · simp [go_sem, f1]
  · simp [go_sem, r0]
  · simp [go_sem, r1]
  · simp [go_sem, g0]
  · simp [go_sem, g1]
def rdRes (n : Nat) : Ending := if n < 340282366920938463463374607431768211456 then .returned (.tuple #[.agg #[.int .u64 (lo n), .int .u64 (hi n)], .bool true]) else .returned (.tuple #[.agg #[.int .u64 0, .int .u64 0], .bool false])
theorem rdRes_yes {n : Nat} (h : n < 340282366920938463463374607431768211456) : rdRes n = .returned (.tuple #[.agg #[.int .u64 (lo n), .int .u64 (hi n)], .bool true]) := by unfold rdRes; rw [if_pos h]
theorem rdRes_no {n : Nat} (h : ¬ n < 340282366920938463463374607431768211456) : rdRes n = .returned (.tuple #[.agg #[.int .u64 0, .int .u64 0], .bool false]) := by unfold rdRes; rw [if_neg h]
set_option maxRecDepth 100000 in
set_option maxHeartbeats 8000000 in
theorem read_spec (s : ByteArray) (w : World) (hs : s.size ≤ 140737488355328) (hd : ∀ j (hj : j < s.size), Dc.isD s[j] = true) :
    Calls Tryd.prog 65 #[.string s] w fun e w' => e = rdRes (wk s s.size) ∧ Below w.heap.size w w' := by
  have HD := hide hd
  clear hd
  go_enter Tryd.func65, Tryd.ntmps65
  go_wp2_with fail
  go_loopw [14] (fun i wr => ∃ k : Nat, k ≤ s.size ∧ i = .int .i64 k ∧ Hid (wk s k < 340282366920938463463374607431768211456) ∧ RdInv w wr (wk s k : Nat)) (fun i _ => s.size - (intOf i).toNat)
  case atStart =>
    refine ⟨0, by omega, rfl, by rw [wk_zero]; show (0:Nat) < _; omega, ?_⟩
    rw [wk_zero]
    refine ⟨?_, ?_, ?_, ?_, ?_, ?_, ?_, ?_, ?_, ?_⟩
    all_goals first | (go_grown; done) | (simp [go_sem]; done) | (simp [go_sem, lo, hi]; done) | (simp; done) | (simp; omega)
  case round =>
    obtain ⟨k, hk, rfl, hm, inv⟩ := hrel
    have I := hide inv
    clear inv
    by_cases hlt : k < s.size
    · obtain ⟨M, hM⟩ : ∃ M : Int, M = (wk s k : Nat) := ⟨_, rfl⟩
      have M0 : 0 ≤ M := by omega
      have M1 : M < 340282366920938463463374607431768211456 := by have := hm.out; omega
      have dd := HD.out k hlt
      obtain ⟨d0, d1⟩ : 48 ≤ (s[k].toNat : Int) ∧ (s[k].toNat : Int) ≤ 57 := by
        unfold Dc.isD at dd; simp at dd; omega
      have SU := hide (wk_succ s k hlt)
      have MO := hide (wk_mono s (k + 1))
      rw [← hM] at I
      have HM := hide hM
      have kt := times_yes (hi M) (lo M) 0 10 ⟨by unfold hi; omega, by unfold hi; omega⟩ (isLo_lo M) isLo_0 ⟨by omega, by omega⟩ (.inr rfl)
      rw [V_hi_lo, show V 0 10 = 10 by decide] at kt
      obtain ⟨m0, m1, f0, f1, r0, r1, g0, g1, lt, bl⟩ := I.out
      generalize lo M = y0 at *
      generalize hi M = y1 at *
      clear hm hM dd
      go_wp2_with fail
      refine (kt _).mono ?_
      clear kt
      rintro e w2 ⟨p1, p0, ok, rfl, TO, h2⟩
      obtain ⟨i1, i0, yes, no⟩ := TO
      obtain ⟨d, hd⟩ : ∃ d : Int, d = (s[k].toNat : Int) - 48 := ⟨_, rfl⟩
      have id : IsLo d := ⟨by omega, by omega⟩
      have b1 := isBit_addC i0 id isBit_0
      have A1 := run_addC p0 d 0 i0 id isBit_0
      have A2 := run_addC p1 0 (addC p0 d 0) i1 isLo_0 b1
      have FY := fun (h : ok = true) => add_words (p := M * 10) (p1 := p1) (p0 := p0) (d := d) (by omega) (yes h).2.2 (yes h).1 (yes h).2.1 (by omega) (by omega)
      obtain ⟨x0, e0⟩ : ∃ x, x = addD p0 d 0 := ⟨_, rfl⟩
      obtain ⟨q0, e1⟩ : ∃ x, x = addC p0 d 0 := ⟨_, rfl⟩
      rw [← e0, ← e1] at A1
      rw [← e1] at A2
      simp only [← e0, ← e1] at FY
      obtain ⟨x1, e2⟩ : ∃ x, x = addD p1 0 q0 := ⟨_, rfl⟩
      obtain ⟨q1, e3⟩ : ∃ x, x = addC p1 0 q0 := ⟨_, rfl⟩
      rw [← e2, ← e3] at A2
      simp only [← e2, ← e3] at FY
      have hw : ((wk s (k + 1) : Nat) : Int) = M * 10 + d := by have := SU.out; have := HM.out; omega
      have YES : Hid (ok = true → q1 = 0 → wk s (k + 1) < 340282366920938463463374607431768211456 ∧ x0 = lo ((wk s (k + 1) : Nat) : Int) ∧ x1 = hi ((wk s (k + 1) : Nat) : Int)) := fun h h' => by
        obtain ⟨a, b, c⟩ := (FY h).1 h'
        rw [hw]
        exact ⟨by omega, b, c⟩
      have NO : Hid (ok = false ∨ q1 ≠ 0 → rdRes (wk s s.size) = .returned (.tuple #[.agg #[.int .u64 0, .int .u64 0], .bool false])) := fun h => by
        refine rdRes_no ?_
        have := MO.out
        cases ok with
        | false => have := no rfl; omega
        | true => rcases h with h | h
                  · cases h
                  · have := (FY rfl).2 h; omega
      have I2 := hide (I.out.later (v := w2) (by refine Below.trans (by go_grown) h2))
      have H2 := hide h2
      have HD2 := hide hd
      have bd : IntKind.u8.wrap ((s[k].toNat : Int) - 48) = d := by rw [← hd, IntKind.wrap_u8]; omega
      have bd' : IntKind.u64.wrap d = d := by rw [IntKind.wrap_u64]; omega
      clear m0 m1 f0 f1 r0 r1 g0 g1 lt bl e0 e1 e2 e3 FY b1 yes no h2 I hd d0 d1 id i0 i1
      obtain ⟨m0, m1, f0, f1, r0, r1, g0, g1, lt, bl⟩ := I2.out
      have BL := hide bl
      clear bl
      have lt0 : w.heap.size < w2.heap.size := by omega
      by_cases hq : q1 = 0
      · subst hq
        cases ok with
        | true =>
          have E := hide (YES.out rfl rfl)
          clear YES NO
          go_wp2_with fail
          go_region
          all_goals
            go_wp2_with fail
            go_roundw
            case rel =>
              refine ⟨k + 1, by omega, by go_num, E.out.1, ?_⟩
              rw [E.out.2.1, E.out.2.2]
              refine RdInv.later (I2.out.put _) ?_
              repeat (first | exact Below.refl _ _ | refine Below.drew ?_ | refine below_drewN ?_ _ | refine Below.alloc ?_ (by first | exact Nat.le_refl _ | (simp; done) | omega | (simp; omega)) _)
            case measure => simp [intOf]; omega
        | false =>
          have E := hide (NO.out (.inl rfl))
          clear YES NO
          go_wp2_with fail
          go_region
          all_goals
            go_wp2_with fail
            refine bodyPost_ret (by simp [results, Tryd.results65, go_sem, r0, r1, lt0]; try rfl) rfl ?_
            refine ⟨E.out.symm, ?_⟩
            repeat (first | exact BL.out | refine Below.setCell ?_ (by first | (simp; done) | omega | (simp; omega)) _ | refine Below.drew ?_ | refine below_drewN ?_ _ | refine Below.alloc ?_ (by first | (simp; done) | omega | (simp; omega)) _)
      · have n' : (q1 != 0) = true := by simpa using hq
        have E := hide (NO.out (.inr hq))
        clear YES NO
        cases ok
        all_goals
          go_wp2_with fail
          go_region
          all_goals
            go_wp2_with fail
            refine bodyPost_ret (by simp [results, Tryd.results65, go_sem, r0, r1, lt0]; try rfl) rfl ?_
            refine ⟨E.out.symm, ?_⟩
            repeat (first | exact BL.out | refine Below.setCell ?_ (by first | (simp; done) | omega | (simp; omega)) _ | refine Below.drew ?_ | refine below_drewN ?_ _ | refine Below.alloc ?_ (by first | (simp; done) | omega | (simp; omega)) _)
    · obtain rfl : k = s.size := by omega
      obtain ⟨m0, m1, f0, f1, r0, r1, g0, g1, lt, bl⟩ := I.out
      have F := hide (rdRes_yes hm.out)
      have BL := hide bl
      have z0 : w.heap.size < wr.heap.size := by omega
      clear I bl hm HD
      generalize lo ((wk s s.size : Nat) : Int) = y0 at *
      generalize hi ((wk s s.size : Nat) : Int) = y1 at *
      have q0 : (wr.setCell ⟨w.heap.size, 0, none⟩ (.int .u64 y0)).cell? ⟨w.heap.size, 0, none⟩ = some (.int .u64 y0) := by simp [go_sem, r0]
      go_wp2_with fail
      refine bodyPost_ret (by simp [results, Tryd.results65, go_sem, r0, r1]; try rfl) rfl ?_
      exact ⟨F.out.symm, (BL.out.setCell (Nat.le_refl _) _).setCell (Nat.le_refl _) _⟩
end Go.Proofs.YtdjehbagnkfkpaaDoor
