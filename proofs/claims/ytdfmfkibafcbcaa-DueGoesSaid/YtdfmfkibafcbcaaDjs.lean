/- due: the law's step: one call held against the reference. -/
import Derived.Test.YtdfmfkibafcbcaaDju
namespace Go.Proofs.Ytdfmfkibafcbcaa
set_option linter.unusedVariables false
set_option linter.unusedSimpArgs false
open Go.RowKit W Go.Maps
/-- What is told of a step. -/
def StepD (W : World) (qb kb mb rb lim : Nat) (e : Ending) (w' : World) : Prop :=
  e = .returned (.bool true) ∧ ∃ v a c r, DJ W qb kb mb rb lim w' v a c r r
theorem isE_chg {S : Nat → Prop} {w w' : World} {a : Option Addr} {L : List En} (h : IsE w a L) (C : Chg S w w') (n : ∀ ad, a = some ad → ¬ S ad.block) : IsE w' a L := by
  rcases h with h | ⟨g, o, e, l⟩
  · exact .inl h
  · exact .inr ⟨g, o, e, l.chg C (n _ e)⟩
/-- In the midst of a step: both, and the box of the call's description. -/
structure MB (W : World) (qb kb mb rb lim bx : Nat) (kd : Int) (key : ByteArray) (t : Int) (wr : World) (v : Value) (a : Option Addr) (c : Nat) (r r' : List En) : Prop where
  dj : DJ W qb kb mb rb lim wr v a c r r'
  bo : Bw wr bx 36 #[.int .i64 kd, .string key, .int .i64 t]
section
variable {W : World} {qb kb mb rb lim bx : Nat} {kd : Int} {key : ByteArray} {t : Int} {wr w w' : World} {v v' : Value} {a a' : Option Addr} {c c' : Nat} {r r' r2 : List En}
theorem MB.later (h : MB W qb kb mb rb lim bx kd key t wr v a c r r') (b : Below wr.heap.size wr w') : MB W qb kb mb rb lim bx kd key t w' v a c r r' := ⟨h.dj.later b, h.bo.later b⟩
theorem MB.c0 (h : MB W qb kb mb rb lim bx kd key t wr v a c r r') : wr.cell? ⟨bx, 0, none⟩ = some (.int .i64 kd) := h.bo.cell 0 _ rfl
theorem MB.c1 (h : MB W qb kb mb rb lim bx kd key t wr v a c r r') : wr.cell? ⟨bx, 1, none⟩ = some (.string key) := h.bo.cell 1 _ rfl
theorem MB.c2 (h : MB W qb kb mb rb lim bx kd key t wr v a c r r') : wr.cell? ⟨bx, 2, none⟩ = some (.int .i64 t) := h.bo.cell 2 _ rfl
theorem MB.q (h : MB W qb kb mb rb lim bx kd key t wr v a c r r') (d : DJ W qb kb mb rb lim w' v' a c r2 r') (C : Chg (kS3 kb mb v) wr w') : MB W qb kb mb rb lim bx kd key t w' v' a c r2 r' :=
  ⟨d, h.bo.chg C (h.bo.nk7 h.dj.qa (by decide) (by decide))⟩
theorem MB.rf (h : MB W qb kb mb rb lim bx kd key t wr v a c r r') (d : DJ W qb kb mb rb lim w' v a' c' r r2) (C : Chg (· = rb) wr w') : MB W qb kb mb rb lim bx kd key t w' v a' c' r r2 :=
  ⟨d, h.bo.chg C (h.bo.ne h.dj.rq.r (by decide))⟩
theorem MB.start (N : DJ W qb kb mb rb lim w v a c r r') {V : World} (hV : V = w.alloc (.cells #[.int .i64 kd, .string key, .int .i64 t] 36)) : MB W qb kb mb rb lim w.heap.size kd key t V v a c r r' := by
  have bl : Below w.heap.size w V := by rw [hV]; exact (Below.refl _ _).alloc (Nat.le_refl _) _
  exact ⟨N.later bl, by rw [hV]; exact Bw.new w _ _⟩
set_option maxRecDepth 100000 in
set_option maxHeartbeats 8000000 in
theorem step_set (N : DJ W qb kb mb rb lim w v a c r r) (hrb : W.heap.size ≤ rb) (key : ByteArray) (t : Int) (xs : key.size ≤ maxLen) :
    Calls Try.prog 9 #[.pointer (some ⟨qb, 0, none⟩), .pointer (some ⟨rb, 0, none⟩), .agg #[.int .i64 1, .string key, .int .i64 t]] w (StepD W qb kb mb rb lim) := by
  have M0 : Hid (∀ V, V = w.alloc (.cells #[.int .i64 1, .string key, .int .i64 t] 36) → MB W qb kb mb rb lim w.heap.size 1 key t V v a c r r) := fun V hV => MB.start N hV
  obtain ⟨C, hC⟩ : ∃ C, C = stC lim r key := ⟨_, rfl⟩
  obtain ⟨D, hD⟩ : ∃ D, D = stR lim r key t := ⟨_, rfl⟩
  have KP : Hid (∀ V v1 a1 c1 r1 (bx : Nat), MB W qb kb mb rb lim bx 1 key t V v1 a1 c1 r r1 → Calls Try.prog 13 #[.pointer (some ⟨qb, 0, none⟩), .string key, .int .i64 t] V fun e w' => ∃ v', e = .returned (.int .i64 C) ∧ Hid (MB W qb kb mb rb lim bx 1 key t w' v' a1 c1 D r1)) := by
    intro V v1 a1 c1 r1 bx M
    rw [hC, hD]
    refine (jset M.dj key xs t).mono ?_
    rintro e w' ⟨v', rfl, d, C⟩
    exact ⟨v', rfl, M.q d.out C.out⟩
  have KR : Hid (∀ V v1 r1 (bx : Nat) (_ : True), MB W qb kb mb rb lim bx 1 key t V v1 a c r1 r → Calls Try.prog 14 #[.pointer (some ⟨rb, 0, none⟩), .string key, .int .i64 t] V fun e w' => ∃ a' c', e = .returned (.int .i64 C) ∧ Hid (MB W qb kb mb rb lim bx 1 key t w' v1 a' c' r1 D)) := by
    intro V v1 r1 bx _ M
    rw [hC, hD]
    refine (jrset M.dj hrb key t).mono ?_
    rintro e w' ⟨a', c', rfl, d, C, _⟩
    exact ⟨a', c', rfl, M.rf d.out C.out⟩
  have ne : (C == C) = true := by simp
  clear N hC hD
  go_enter Try.func9, Try.ntmps9
  go_upto_region 3 with fail
  refine abs_wp (fun V => Hid (MB W qb kb mb rb lim w.heap.size 1 key t V v a c r r)) (hide (M0.out _ rfl)) ?_
  rintro V M1
  obtain ⟨bx, hbx⟩ : ∃ bx, bx = w.heap.size := ⟨_, rfl⟩
  rw [← hbx] at M1 ⊢
  clear hbx M0
  have lbx := M1.out.bo.lt
  have S0 : V.cell? ⟨bx, 1, none⟩ = some (.string key) ∧ V.cell? ⟨bx, 2, none⟩ = some (.int .i64 t) := ⟨M1.out.c1, M1.out.c2⟩
  go_region_held3 (fun w' => w'.cell? ⟨bx, 1, none⟩ = some (.string key) ∧ w'.cell? ⟨bx, 2, none⟩ = some (.int .i64 t))
    (first | exact S0 | exact S4 | exact S5)
    (first
      | (go_at_call 13; (first
          | ((with_reducible refine Calls.mono (KP.out _ _ _ _ _ _ (M1.out.later (by first | exact Below.refl _ _ | exact (Below.refl _ _).drew | exact below_drewN (Below.refl _ _) _))) ?_); rintro e w4 ⟨v4, rfl, M4⟩; have S4 : w4.cell? ⟨bx, 1, none⟩ = some (.string key) ∧ w4.cell? ⟨bx, 2, none⟩ = some (.int .i64 t) := ⟨M4.out.c1, M4.out.c2⟩)
          | ((with_reducible refine Calls.mono (KP.out _ _ _ _ _ _ (M5.out.later (by first | exact Below.refl _ _ | exact (Below.refl _ _).drew | exact below_drewN (Below.refl _ _) _))) ?_); rintro e w6 ⟨v6, rfl, M6⟩; have S4 : w6.cell? ⟨bx, 1, none⟩ = some (.string key) ∧ w6.cell? ⟨bx, 2, none⟩ = some (.int .i64 t) := ⟨M6.out.c1, M6.out.c2⟩; have M9 := M6)))
      | (go_at_call 14; (first
          | ((with_reducible refine Calls.mono (KR.out _ _ _ _ trivial (M1.out.later (by first | exact Below.refl _ _ | exact (Below.refl _ _).drew | exact below_drewN (Below.refl _ _) _))) ?_); rintro e w5 ⟨a5, c5, rfl, M5⟩; have S5 : w5.cell? ⟨bx, 1, none⟩ = some (.string key) ∧ w5.cell? ⟨bx, 2, none⟩ = some (.int .i64 t) := ⟨M5.out.c1, M5.out.c2⟩)
          | ((with_reducible refine Calls.mono (KR.out _ _ _ _ trivial (M4.out.later (by first | exact Below.refl _ _ | exact (Below.refl _ _).drew | exact below_drewN (Below.refl _ _) _))) ?_); rintro e w7 ⟨a7, c7, rfl, M7⟩; have S5 : w7.cell? ⟨bx, 1, none⟩ = some (.string key) ∧ w7.cell? ⟨bx, 2, none⟩ = some (.int .i64 t) := ⟨M7.out.c1, M7.out.c2⟩; have M9 := M7))))
  all_goals
    go_wp2_with fail
    go_returns
    exact ⟨rfl, _, _, _, _, (M9.out.later (by first | exact Below.refl _ _ | exact (Below.refl _ _).drew | exact below_drewN (Below.refl _ _) _)).dj⟩
set_option maxRecDepth 100000 in
set_option maxHeartbeats 8000000 in
theorem step_drop (N : DJ W qb kb mb rb lim w v a c r r) (hrb : W.heap.size ≤ rb) (key : ByteArray) (t : Int) (xs : key.size ≤ maxLen) :
    Calls Try.prog 9 #[.pointer (some ⟨qb, 0, none⟩), .pointer (some ⟨rb, 0, none⟩), .agg #[.int .i64 2, .string key, .int .i64 t]] w (StepD W qb kb mb rb lim) := by
  have M0 : Hid (∀ V, V = w.alloc (.cells #[.int .i64 2, .string key, .int .i64 t] 36) → MB W qb kb mb rb lim w.heap.size 2 key t V v a c r r) := fun V hV => MB.start N hV
  obtain ⟨C, hC⟩ : ∃ C, C = hasK r key := ⟨_, rfl⟩
  obtain ⟨D, hD⟩ : ∃ D, D = delK r key := ⟨_, rfl⟩
  have KP : Hid (∀ V v1 a1 c1 r1 (bx : Nat), MB W qb kb mb rb lim bx 2 key t V v1 a1 c1 r r1 → Calls Try.prog 16 #[.pointer (some ⟨qb, 0, none⟩), .string key] V fun e w' => ∃ v', e = .returned (.bool C) ∧ Hid (MB W qb kb mb rb lim bx 2 key t w' v' a1 c1 D r1)) := by
    intro V v1 a1 c1 r1 bx M
    rw [hC, hD]
    refine (jdrop M.dj key xs).mono ?_
    rintro e w' ⟨v', rfl, d, C⟩
    exact ⟨v', rfl, M.q d.out C.out⟩
  have KR : Hid (∀ V v1 r1 (bx : Nat) (_ : True), MB W qb kb mb rb lim bx 2 key t V v1 a c r1 r → Calls Try.prog 17 #[.pointer (some ⟨rb, 0, none⟩), .string key] V fun e w' => ∃ a' c', e = .returned (.bool C) ∧ Hid (MB W qb kb mb rb lim bx 2 key t w' v1 a' c' r1 D)) := by
    intro V v1 r1 bx _ M
    rw [hC, hD]
    refine (jrdrop M.dj hrb key).mono ?_
    rintro e w' ⟨a', c', rfl, d, C, _⟩
    exact ⟨a', c', rfl, M.rf d.out C.out⟩
  have ne : (C == C) = true := by simp
  clear N hC hD
  go_enter Try.func9, Try.ntmps9
  go_upto_region 5 with fail
  refine abs_wp (fun V => Hid (MB W qb kb mb rb lim w.heap.size 2 key t V v a c r r)) (hide (M0.out _ rfl)) ?_
  rintro V M1
  obtain ⟨bx, hbx⟩ : ∃ bx, bx = w.heap.size := ⟨_, rfl⟩
  rw [← hbx] at M1 ⊢
  clear hbx M0
  have lbx := M1.out.bo.lt
  have S0 : V.cell? ⟨bx, 1, none⟩ = some (.string key) := M1.out.c1
  go_region_held3 (fun w' => w'.cell? ⟨bx, 1, none⟩ = some (.string key))
    (first | exact S0 | exact S4 | exact S5)
    (first
      | (go_at_call 16; (first
          | ((with_reducible refine Calls.mono (KP.out _ _ _ _ _ _ (M1.out.later (by first | exact Below.refl _ _ | exact (Below.refl _ _).drew | exact below_drewN (Below.refl _ _) _))) ?_); rintro e w4 ⟨v4, rfl, M4⟩; have S4 : w4.cell? ⟨bx, 1, none⟩ = some (.string key) := M4.out.c1)
          | ((with_reducible refine Calls.mono (KP.out _ _ _ _ _ _ (M5.out.later (by first | exact Below.refl _ _ | exact (Below.refl _ _).drew | exact below_drewN (Below.refl _ _) _))) ?_); rintro e w6 ⟨v6, rfl, M6⟩; have S4 : w6.cell? ⟨bx, 1, none⟩ = some (.string key) := M6.out.c1; have M9 := M6)))
      | (go_at_call 17; (first
          | ((with_reducible refine Calls.mono (KR.out _ _ _ _ trivial (M1.out.later (by first | exact Below.refl _ _ | exact (Below.refl _ _).drew | exact below_drewN (Below.refl _ _) _))) ?_); rintro e w5 ⟨a5, c5, rfl, M5⟩; have S5 : w5.cell? ⟨bx, 1, none⟩ = some (.string key) := M5.out.c1)
          | ((with_reducible refine Calls.mono (KR.out _ _ _ _ trivial (M4.out.later (by first | exact Below.refl _ _ | exact (Below.refl _ _).drew | exact below_drewN (Below.refl _ _) _))) ?_); rintro e w7 ⟨a7, c7, rfl, M7⟩; have S5 : w7.cell? ⟨bx, 1, none⟩ = some (.string key) := M7.out.c1; have M9 := M7))))
  all_goals
    go_wp2_with fail
    go_returns
    exact ⟨rfl, _, _, _, _, (M9.out.later (by first | exact Below.refl _ _ | exact (Below.refl _ _).drew | exact below_drewN (Below.refl _ _) _)).dj⟩
set_option maxRecDepth 100000 in
set_option maxHeartbeats 8000000 in
theorem step_at (N : DJ W qb kb mb rb lim w v a c r r) (hrb : W.heap.size ≤ rb) (key : ByteArray) (t : Int) (xs : key.size ≤ maxLen) :
    Calls Try.prog 9 #[.pointer (some ⟨qb, 0, none⟩), .pointer (some ⟨rb, 0, none⟩), .agg #[.int .i64 3, .string key, .int .i64 t]] w (StepD W qb kb mb rb lim) := by
  have M0 : Hid (∀ V, V = w.alloc (.cells #[.int .i64 3, .string key, .int .i64 t] 36) → MB W qb kb mb rb lim w.heap.size 3 key t V v a c r r) := fun V hV => MB.start N hV
  obtain ⟨A, hA⟩ : ∃ A, A = (atK r key).getD 0 := ⟨_, rfl⟩
  obtain ⟨H, hH⟩ : ∃ H, H = hasK r key := ⟨_, rfl⟩
  have KP : Hid (∀ V (bx : Nat), MB W qb kb mb rb lim bx 3 key t V v a c r r → CalcN 21 #[.pointer (some ⟨qb, 0, none⟩), .string key] V (.tuple #[.int .i64 A, .bool H])) := by
    intro V bx M
    rw [hA, hH]
    exact qat_spec M.dj.qa key xs
  have KR : Hid (∀ V (bx : Nat), MB W qb kb mb rb lim bx 3 key t V v a c r r → Calls Try.prog 22 #[.pointer (some ⟨rb, 0, none⟩), .string key] V fun e w' => e = .returned (.tuple #[.int .i64 A, .bool H]) ∧ Hid (MB W qb kb mb rb lim bx 3 key t w' v a c r r)) := by
    intro V bx M
    rw [hA, hH]
    refine (rat7_spec M.dj.rq M.dj.ks M.dj.le key).mono ?_
    rintro e w' ⟨rfl, b⟩
    exact ⟨rfl, M.later b⟩
  have e1 : (A == A) = true := by simp
  have e2 : (H == H) = true := by simp
  clear N hA hH
  go_enter Try.func9, Try.ntmps9
  go_upto_region 7 with fail
  refine abs_wp (fun V => Hid (MB W qb kb mb rb lim w.heap.size 3 key t V v a c r r)) (hide (M0.out _ rfl)) ?_
  rintro V M1
  obtain ⟨bx, hbx⟩ : ∃ bx, bx = w.heap.size := ⟨_, rfl⟩
  rw [← hbx] at M1 ⊢
  clear hbx M0
  have S0 := M1.out.c1
  have lbx := M1.out.bo.lt
  have kp := KP.out _ _ M1.out
  go_wp2_with (go_at_call 21; refine kp.mono ?_; rintro e w2 ⟨rfl, rfl⟩)
  refine (KR.out _ _ M1.out).mono ?_
  rintro e w3 ⟨rfl, M9⟩
  all_goals
    go_wp2_with fail
    go_returns
    exact ⟨rfl, _, _, _, _, (M9.out.later (by first | exact Below.refl _ _ | exact (Below.refl _ _).drew | exact below_drewN (Below.refl _ _) _)).dj⟩
set_option maxRecDepth 100000 in
set_option maxHeartbeats 8000000 in
theorem step_next (N : DJ W qb kb mb rb lim w v a c r r) (hrb : W.heap.size ≤ rb) (key : ByteArray) (t : Int) (xs : key.size ≤ maxLen) :
    Calls Try.prog 9 #[.pointer (some ⟨qb, 0, none⟩), .pointer (some ⟨rb, 0, none⟩), .agg #[.int .i64 4, .string key, .int .i64 t]] w (StepD W qb kb mb rb lim) := by
  have M0 : Hid (∀ V, V = w.alloc (.cells #[.int .i64 4, .string key, .int .i64 t] 36) → MB W qb kb mb rb lim w.heap.size 4 key t V v a c r r) := fun V hV => MB.start N hV
  have KP : Hid (∀ V (bx : Nat), MB W qb kb mb rb lim bx 4 key t V v a c r r → Calls Try.prog 20 #[.pointer (some ⟨qb, 0, none⟩)] V fun e w' => e = .returned (nxtV r) ∧ Hid (MB W qb kb mb rb lim bx 4 key t w' v a c r r)) := by
    intro V bx M
    refine (qnext_spec M.dj.qa).mono ?_
    rintro e w' ⟨rfl, b⟩
    exact ⟨rfl, M.later b⟩
  have KR : Hid (∀ V (bx : Nat), MB W qb kb mb rb lim bx 4 key t V v a c r r → Calls Try.prog 23 #[.pointer (some ⟨rb, 0, none⟩)] V fun e w' => e = .returned (nxtV r) ∧ Hid (MB W qb kb mb rb lim bx 4 key t w' v a c r r)) := by
    intro V bx M
    refine (rnext7_spec M.dj.rq M.dj.le).mono ?_
    rintro e w' ⟨rfl, b⟩
    exact ⟨rfl, M.later b⟩
  obtain ⟨nk, na, nb, hn⟩ : ∃ nk na nb, nxtV r = .tuple #[.agg #[.string nk, .int .i64 na], .bool nb] := by
    cases r with
    | nil => exact ⟨_, _, _, rfl⟩
    | cons x y => exact ⟨_, _, _, rfl⟩
  rw [hn] at KP KR
  have HN := hide hn
  have e1 : (na == na) = true := by simp
  have e2 : (nb == nb) = true := by simp
  have e3 : (nk.toList == nk.toList) = true := by simp
  clear N hn
  go_enter Try.func9, Try.ntmps9
  go_upto_region 11 with fail
  refine abs_wp (fun V => Hid (MB W qb kb mb rb lim w.heap.size 4 key t V v a c r r)) (hide (M0.out _ rfl)) ?_
  rintro V M1
  obtain ⟨bx, hbx⟩ : ∃ bx, bx = w.heap.size := ⟨_, rfl⟩
  rw [← hbx] at M1 ⊢
  clear hbx M0
  go_upto_region 12 with (go_at_call 20; refine (KP.out _ _ M1.out).mono ?_; rintro e w2 ⟨rfl, M2⟩)
  refine abs_wp (fun V => Hid (MB W qb kb mb rb lim bx 4 key t V v a c r r) ∧ V.cell? ⟨w2.heap.size, 0, none⟩ = some (.string nk) ∧ V.cell? ⟨w2.heap.size, 1, none⟩ = some (.int .i64 na) ∧ w2.heap.size < V.heap.size) ⟨hide (M2.out.later ((Below.refl _ _).alloc (Nat.le_refl _) _)), by simp [go_sem], by simp [go_sem], by simp⟩ ?_
  rintro V3 ⟨M3, x0, x1, xl⟩
  have kr : Calls Try.prog 23 #[.pointer (some ⟨rb, 0, none⟩)] V3 fun e w' => e = .returned (.tuple #[.agg #[.string nk, .int .i64 na], .bool nb]) ∧ Hid (MB W qb kb mb rb lim bx 4 key t w' v a c r r) ∧ w'.cell? ⟨w2.heap.size, 0, none⟩ = some (.string nk) ∧ w'.cell? ⟨w2.heap.size, 1, none⟩ = some (.int .i64 na) ∧ w2.heap.size < w'.heap.size := by
    refine (rnext7_spec M3.out.dj.rq M3.out.dj.le).mono ?_
    rintro e w' ⟨rfl, b⟩
    exact ⟨by rw [HN.out], M3.out.later b, (b.cell (p := ⟨w2.heap.size, 0, none⟩) xl).trans x0, (b.cell (p := ⟨w2.heap.size, 1, none⟩) xl).trans x1, Nat.lt_of_lt_of_le xl b.size⟩
  go_wp2_with (go_at_call 23; refine kr.mono ?_; rintro e w4 ⟨rfl, M4, y0, y1, yl⟩)
  have M9 : Hid (MB W qb kb mb rb lim bx 4 key t (w4.alloc (.cells #[.string nk, .int .i64 na] 43)) v a c r r) := hide (M4.out.later ((Below.refl _ _).alloc (Nat.le_refl _) _))
  clear x0 x1 xl kr
  go_wp2_with fail
  go_returns
  exact ⟨rfl, _, _, _, _, (M9.out.later (by first | exact Below.refl _ _ | exact (Below.refl _ _).drew | exact below_drewN (Below.refl _ _) _)).dj⟩
set_option maxRecDepth 100000 in
set_option maxHeartbeats 8000000 in
theorem step_take (N : DJ W qb kb mb rb lim w v a c r r) (hrb : W.heap.size ≤ rb) (key : ByteArray) (t : Int) (xs : key.size ≤ maxLen) :
    Calls Try.prog 9 #[.pointer (some ⟨qb, 0, none⟩), .pointer (some ⟨rb, 0, none⟩), .agg #[.int .i64 5, .string key, .int .i64 t]] w (StepD W qb kb mb rb lim) := by
  have M0 : Hid (∀ V, V = w.alloc (.cells #[.int .i64 5, .string key, .int .i64 t] 36) → MB W qb kb mb rb lim w.heap.size 5 key t V v a c r r) := fun V hV => MB.start N hV
  obtain ⟨T, hT⟩ : ∃ T, T = tkR r t := ⟨_, rfl⟩
  obtain ⟨D, hD⟩ : ∃ D, D = drR r t := ⟨_, rfl⟩
  obtain ⟨n, hn⟩ : ∃ n, n = T.length := ⟨_, rfl⟩
  have tl : T.length ≤ 1048576 := by rw [hT]; have := tk_len r t; have := N.le; omega
  have NA : Hid (∀ ad, a = some ad → ¬ kS3 kb mb v ad.block) := N.na
  have KP1 : Hid (∀ V (bx : Nat), MB W qb kb mb rb lim bx 5 key t V v a c r r → Calls Try.prog 18 #[.pointer (some ⟨qb, 0, none⟩), .int .i64 t] V fun e w' => ∃ v' A1 c1, e = .returned (.slice A1 n c1) ∧ Hid (w'.ownsRow V.heap.size 43 2 (.slice A1 n c1) n (dues T)) ∧ Hid (MB W qb kb mb rb lim bx 5 key t w' v' a c D r)) := by
    intro V bx M
    rw [hn, hT, hD]
    refine (jtake M.dj t).mono ?_
    rintro e w' ⟨v', s, rfl, O, d, _, C⟩
    obtain ⟨A1, c1, rfl, _, _⟩ := own_form O.out
    exact ⟨v', A1, c1, rfl, O.out, M.q d.out C.out⟩
  have KR1 : Hid (∀ V (bx : Nat), MB W qb kb mb rb lim bx 5 key t V v a c r r → Calls Try.prog 19 #[.pointer (some ⟨rb, 0, none⟩), .int .i64 t] V fun e w' => ∃ c1 a' c', e = .returned (.slice a n c1) ∧ Hid (IsE w' a T) ∧ Hid (MB W qb kb mb rb lim bx 5 key t w' v a' c' r D)) := by
    intro V bx M
    rw [hn, hT, hD]
    refine (jrtake M.dj hrb t).mono ?_
    rintro e w' ⟨c1, a', c', rfl, I, d, C, _⟩
    exact ⟨c1, a', c', rfl, I.out, M.rf d.out C.out⟩
  have KP2 : Hid (∀ V (bx : Nat) a1 c1, MB W qb kb mb rb lim bx 5 key t V v a1 c1 r D → IsE V a T → Calls Try.prog 18 #[.pointer (some ⟨qb, 0, none⟩), .int .i64 t] V fun e w' => ∃ v' A1 c9, e = .returned (.slice A1 n c9) ∧ Hid (IsE w' A1 T ∧ IsE w' a T) ∧ Hid (MB W qb kb mb rb lim bx 5 key t w' v' a1 c1 D D)) := by
    intro V bx a1 c1 M I
    rw [hn]
    have k := jtake M.dj t
    rw [← hT, ← hD] at k
    refine k.mono ?_
    rintro e w' ⟨v', s, rfl, O, d, _, C⟩
    obtain ⟨A1, c9, rfl, I1⟩ := isE_own O.out rfl
    exact ⟨v', A1, c9, rfl, ⟨I1, isE_chg I C.out NA.out⟩, M.q d.out C.out⟩
  have KR2 : Hid (∀ V (bx : Nat) v1 A1 (c9 : Nat) B1, MB W qb kb mb rb lim bx 5 key t V v1 a c D r → V.ownsRow B1 43 2 (.slice A1 n c9) n (dues T) → Calls Try.prog 19 #[.pointer (some ⟨rb, 0, none⟩), .int .i64 t] V fun e w' => ∃ c1 a' c', e = .returned (.slice a n c1) ∧ Hid (IsE w' A1 T ∧ IsE w' a T) ∧ Hid (MB W qb kb mb rb lim bx 5 key t w' v1 a' c' D D)) := by
    intro V bx v1 A1 c9 B1 M O
    have k := jrtake M.dj hrb t
    rw [← hT, ← hD, ← hn] at k
    refine k.mono ?_
    rintro e w' ⟨c1, a', c', rfl, I, d, C, _⟩
    obtain ⟨A2, c2, e2, I1⟩ := isE_own (row_ref7 O M.dj.rq C.out) hn
    injection e2 with e2
    subst e2
    exact ⟨c1, a', c', rfl, ⟨I1, I.out⟩, M.rf d.out C.out⟩
  have KS : Hid (∀ V A1 c1 c2, IsE V A1 T ∧ IsE V a T → Calls Try.prog 11 #[.slice A1 n c1, .slice a n c2] V fun e w' => e = .returned (.bool true) ∧ Below V.heap.size V w') := by
    intro V A1 c1 c2 I
    rw [hn]
    exact rsame7_spec I.1 I.2 tl
  have IL : Hid (∀ V V' A1, Below V.heap.size V V' → IsE V A1 T ∧ IsE V a T → IsE V' A1 T ∧ IsE V' a T) := fun V V' A1 b I => ⟨I.1.later b, I.2.later b⟩
  clear N hT hD hn tl
  go_enter Try.func9, Try.ntmps9
  go_upto_region 15 with fail
  refine abs_wp (fun V => Hid (MB W qb kb mb rb lim w.heap.size 5 key t V v a c r r)) (hide (M0.out _ rfl)) ?_
  rintro V M1
  obtain ⟨bx, hbx⟩ : ∃ bx, bx = w.heap.size := ⟨_, rfl⟩
  rw [← hbx] at M1 ⊢
  clear hbx M0
  have lbx := M1.out.bo.lt
  have S0 := M1.out.c2
  go_region_held3 (fun w' => w'.cell? ⟨bx, 2, none⟩ = some (.int .i64 t))
    (first | exact S0 | exact S4 | exact S5 | exact S8)
    (first
      | (go_at_call 18; (first
          | ((with_reducible refine Calls.mono (KP1.out _ _ (M1.out.later (by first | exact Below.refl _ _ | exact (Below.refl _ _).drew | exact below_drewN (Below.refl _ _) _))) ?_); rintro e w4 ⟨v4, A4, c4, rfl, O4, M4⟩; have S4 : w4.cell? ⟨bx, 2, none⟩ = some (.int .i64 t) := M4.out.c2)
          | ((with_reducible refine Calls.mono (KP2.out _ _ _ _ (M5.out.later (by first | exact Below.refl _ _ | exact (Below.refl _ _).drew | exact below_drewN (Below.refl _ _) _)) (I5.out.later (by first | exact Below.refl _ _ | exact (Below.refl _ _).drew | exact below_drewN (Below.refl _ _) _))) ?_); rintro e w6 ⟨v6, A4, c4, rfl, I9, M9⟩; have S4 : w6.cell? ⟨bx, 2, none⟩ = some (.int .i64 t) := M9.out.c2)))
      | (go_at_call 19; (first
          | ((with_reducible refine Calls.mono (KR1.out _ _ (M1.out.later (by first | exact Below.refl _ _ | exact (Below.refl _ _).drew | exact below_drewN (Below.refl _ _) _))) ?_); rintro e w5 ⟨c5, a5, d5, rfl, I5, M5⟩; have S5 : w5.cell? ⟨bx, 2, none⟩ = some (.int .i64 t) := M5.out.c2)
          | ((with_reducible refine Calls.mono (KR2.out _ _ _ A4 c4 _ (M4.out.later (by first | exact Below.refl _ _ | exact (Below.refl _ _).drew | exact below_drewN (Below.refl _ _) _)) (chg_row O4.out (Chg.of_below (S := fun _ => False) (by first | exact Below.refl _ _ | exact (Below.refl _ _).drew | exact below_drewN (Below.refl _ _) _)) (fun _ _ q => q))) ?_); rintro e w7 ⟨c5, a7, d7, rfl, I9, M9⟩; have S5 : w7.cell? ⟨bx, 2, none⟩ = some (.int .i64 t) := M9.out.c2)))
      | (go_at_call 11; (with_reducible refine Calls.mono (KS.out _ A4 c4 c5 (IL.out _ _ _ (by first | exact Below.refl _ _ | exact (Below.refl _ _).drew | exact below_drewN (Below.refl _ _) _) I9.out)) ?_); rintro e w8 ⟨rfl, b8⟩; have M10 := hide ((M9.out.later (by first | exact Below.refl _ _ | exact (Below.refl _ _).drew | exact below_drewN (Below.refl _ _) _)).later b8); have S8 : w8.cell? ⟨bx, 2, none⟩ = some (.int .i64 t) := M10.out.c2))
  all_goals
    go_wp2_with fail
    go_returns
    exact ⟨rfl, _, _, _, _, (M10.out.later (by first | exact Below.refl _ _ | exact (Below.refl _ _).drew | exact below_drewN (Below.refl _ _) _)).dj⟩
set_option maxRecDepth 100000 in
set_option maxHeartbeats 8000000 in
theorem step_len (N : DJ W qb kb mb rb lim w v a c r r) (hrb : W.heap.size ≤ rb) (key : ByteArray) (t : Int) (xs : key.size ≤ maxLen) :
    Calls Try.prog 9 #[.pointer (some ⟨qb, 0, none⟩), .pointer (some ⟨rb, 0, none⟩), .agg #[.int .i64 6, .string key, .int .i64 t]] w (StepD W qb kb mb rb lim) := by
  have M0 : Hid (∀ V, V = w.alloc (.cells #[.int .i64 6, .string key, .int .i64 t] 36) → MB W qb kb mb rb lim w.heap.size 6 key t V v a c r r) := fun V hV => MB.start N hV
  obtain ⟨n, hn⟩ : ∃ n, n = r.length := ⟨_, rfl⟩
  have KL : Hid (∀ V (bx : Nat), MB W qb kb mb rb lim bx 6 key t V v a c r r → CalcN 10 #[.pointer (some ⟨qb, 0, none⟩)] V (.int .i64 (n : Int))) := by
    intro V bx M
    rw [hn]
    exact qlen M.dj.qa
  have KC : Hid (∀ V (bx : Nat), MB W qb kb mb rb lim bx 6 key t V v a c r r → V.cell? ⟨rb, 1, none⟩ = some (.slice a n c) ∧ rb < V.heap.size) := fun V bx M => ⟨by rw [hn]; exact M.dj.rq.r.cell 1 _ rfl, M.dj.rq.r.lt⟩
  have e1 : ((n : Int) == (n : Int)) = true := by simp
  clear N hn
  go_enter Try.func9, Try.ntmps9
  go_upto_region 17 with fail
  refine abs_wp (fun V => Hid (MB W qb kb mb rb lim w.heap.size 6 key t V v a c r r)) (hide (M0.out _ rfl)) ?_
  rintro V M1
  obtain ⟨bx, hbx⟩ : ∃ bx, bx = w.heap.size := ⟨_, rfl⟩
  rw [← hbx] at M1 ⊢
  clear hbx M0
  obtain ⟨S0, lr⟩ := KC.out _ _ M1.out
  go_region_held3 (fun w' => w'.cell? ⟨rb, 1, none⟩ = some (.slice a n c))
    (first | exact S0 | with_reducible assumption)
    ((go_at_call 10; (with_reducible refine Calls.mono (KL.out _ _ (M1.out.later (by first | exact Below.refl _ _ | exact (Below.refl _ _).drew | exact below_drewN (Below.refl _ _) _))) ?_); rintro e w4 ⟨rfl, rfl⟩))
  all_goals
    go_wp2_with fail
    go_returns
    exact ⟨rfl, _, _, _, _, (M1.out.later (by first | exact Below.refl _ _ | exact (Below.refl _ _).drew | exact below_drewN (Below.refl _ _) _)).dj⟩
set_option maxRecDepth 100000 in
set_option maxHeartbeats 8000000 in
theorem step_all (N : DJ W qb kb mb rb lim w v a c r r) (hrb : W.heap.size ≤ rb) (key : ByteArray) (t : Int) (xs : key.size ≤ maxLen) :
    Calls Try.prog 9 #[.pointer (some ⟨qb, 0, none⟩), .pointer (some ⟨rb, 0, none⟩), .agg #[.int .i64 7, .string key, .int .i64 t]] w (StepD W qb kb mb rb lim) := by
  have M0 : Hid (∀ V, V = w.alloc (.cells #[.int .i64 7, .string key, .int .i64 t] 36) → MB W qb kb mb rb lim w.heap.size 7 key t V v a c r r) := fun V hV => MB.start N hV
  obtain ⟨n, hn⟩ : ∃ n, n = r.length := ⟨_, rfl⟩
  have nl : n ≤ 65536 := by rw [hn]; exact N.le
  obtain ⟨m, hm⟩ : ∃ m : Int, m = (n : Int) + 1 := ⟨_, rfl⟩
  have wm : IntKind.i64.wrap ((n : Int) + 1) = m := by rw [IntKind.wrap_i64]; omega
  have KC : Hid (∀ V (bx : Nat), MB W qb kb mb rb lim bx 7 key t V v a c r r → V.cell? ⟨rb, 1, none⟩ = some (.slice a n c) ∧ rb < V.heap.size) := fun V bx M => ⟨by rw [hn]; exact M.dj.rq.r.cell 1 _ rfl, M.dj.rq.r.lt⟩
  have KA : Hid (∀ V (bx : Nat), MB W qb kb mb rb lim bx 7 key t V v a c r r → Calls Try.prog 12 #[.pointer (some ⟨qb, 0, none⟩), .int .i64 m] V fun e w' => ∃ A1 c1, e = .returned (.slice A1 n c1) ∧ Hid (IsE w' A1 r) ∧ Hid (MB W qb kb mb rb lim bx 7 key t w' v a c r r) ∧ w'.cell? ⟨rb, 1, none⟩ = some (.slice a n c)) := by
    intro V bx M
    have ce : cutE r m = r := by
      unfold cutE
      rw [if_pos (by omega), List.take_of_length_le (by omega)]
    have k := lall_spec M.dj.qa m
    rw [ce, ← hn] at k
    refine k.mono ?_
    rintro e w' ⟨s, rfl, O, b⟩
    obtain ⟨A1, c1, rfl, I⟩ := isE_own O hn
    exact ⟨A1, c1, rfl, I, M.later b, (KC.out _ _ (M.later b)).1⟩
  have KS : Hid (∀ V (bx : Nat) A1 c1, MB W qb kb mb rb lim bx 7 key t V v a c r r → IsE V A1 r → Calls Try.prog 11 #[.slice A1 n c1, .slice a n c] V fun e w' => e = .returned (.bool true) ∧ Hid (MB W qb kb mb rb lim bx 7 key t w' v a c r r) ∧ w'.cell? ⟨rb, 1, none⟩ = some (.slice a n c)) := by
    intro V bx A1 c1 M I
    have k := rsame7_spec (c1 := c1) (c2 := c) I M.dj.rq.is (by omega)
    rw [← hn] at k
    refine k.mono ?_
    rintro e w' ⟨rfl, b⟩
    exact ⟨rfl, M.later b, (KC.out _ _ (M.later b)).1⟩
  clear N hn hm
  go_enter Try.func9, Try.ntmps9
  go_upto_region 19 with fail
  refine abs_wp (fun V => Hid (MB W qb kb mb rb lim w.heap.size 7 key t V v a c r r)) (hide (M0.out _ rfl)) ?_
  rintro V M1
  obtain ⟨bx, hbx⟩ : ∃ bx, bx = w.heap.size := ⟨_, rfl⟩
  rw [← hbx] at M1 ⊢
  clear hbx M0
  obtain ⟨S0, lr⟩ := KC.out _ _ M1.out
  go_region_held3 (fun w' => w'.cell? ⟨rb, 1, none⟩ = some (.slice a n c))
    (first | exact S0 | exact S7 | exact S8)
    (first
      | (go_at_call 12; (with_reducible refine Calls.mono (KA.out _ _ (M1.out.later (by first | exact Below.refl _ _ | exact (Below.refl _ _).drew | exact below_drewN (Below.refl _ _) _))) ?_); rintro e w7 ⟨A7, c7, rfl, I7, M7, S7⟩)
      | (go_at_call 11; (with_reducible refine Calls.mono (KS.out _ _ A7 c7 (M7.out.later (by first | exact Below.refl _ _ | exact (Below.refl _ _).drew | exact below_drewN (Below.refl _ _) _)) (I7.out.later (by first | exact Below.refl _ _ | exact (Below.refl _ _).drew | exact below_drewN (Below.refl _ _) _))) ?_); rintro e w8 ⟨rfl, M9, S8⟩))
  all_goals
    go_wp2_with fail
    go_returns
    exact ⟨rfl, _, _, _, _, (M9.out.later (by first | exact Below.refl _ _ | exact (Below.refl _ _).drew | exact below_drewN (Below.refl _ _) _)).dj⟩
set_option maxRecDepth 100000 in
set_option maxHeartbeats 8000000 in
theorem step_other (N : DJ W qb kb mb rb lim w v a c r r) (hrb : W.heap.size ≤ rb) (kd : Int) (hk : kd ≠ 1 ∧ kd ≠ 2 ∧ kd ≠ 3 ∧ kd ≠ 4 ∧ kd ≠ 5 ∧ kd ≠ 6 ∧ kd ≠ 7) (key : ByteArray) (t : Int) (xs : key.size ≤ maxLen) :
    Calls Try.prog 9 #[.pointer (some ⟨qb, 0, none⟩), .pointer (some ⟨rb, 0, none⟩), .agg #[.int .i64 kd, .string key, .int .i64 t]] w (StepD W qb kb mb rb lim) := by
  have M0 : Hid (∀ V, V = w.alloc (.cells #[.int .i64 kd, .string key, .int .i64 t] 36) → MB W qb kb mb rb lim w.heap.size kd key t V v a c r r) := fun V hV => MB.start N hV
  obtain ⟨k1, k2, k3, k4, k5, k6, k7⟩ := hk
  have e1 : (kd == 1) = false := by simpa using k1
  have e2 : (kd == 2) = false := by simpa using k2
  have e3 : (kd == 3) = false := by simpa using k3
  have e4 : (kd == 4) = false := by simpa using k4
  have e5 : (kd == 5) = false := by simpa using k5
  have e6 : (kd == 6) = false := by simpa using k6
  have e7 : (kd == 7) = false := by simpa using k7
  clear N k1 k2 k3 k4 k5 k6 k7
  go_enter Try.func9, Try.ntmps9
  go_wp2_with fail
  go_returns
  exact ⟨rfl, _, _, _, _, (M0.out _ rfl).dj⟩
theorem step_any (N : DJ W qb kb mb rb lim w v a c r r) (hrb : W.heap.size ≤ rb) (kd : Int) (key : ByteArray) (t : Int) (xs : key.size ≤ maxLen) :
    Calls Try.prog 9 #[.pointer (some ⟨qb, 0, none⟩), .pointer (some ⟨rb, 0, none⟩), .agg #[.int .i64 kd, .string key, .int .i64 t]] w (StepD W qb kb mb rb lim) := by
  by_cases k1 : kd = 1
  · subst k1; exact step_set N hrb key t xs
  by_cases k2 : kd = 2
  · subst k2; exact step_drop N hrb key t xs
  by_cases k3 : kd = 3
  · subst k3; exact step_at N hrb key t xs
  by_cases k4 : kd = 4
  · subst k4; exact step_next N hrb key t xs
  by_cases k5 : kd = 5
  · subst k5; exact step_take N hrb key t xs
  by_cases k6 : kd = 6
  · subst k6; exact step_len N hrb key t xs
  by_cases k7 : kd = 7
  · subst k7; exact step_all N hrb key t xs
  exact step_other N hrb kd ⟨k1, k2, k3, k4, k5, k6, k7⟩ key t xs
end
end Go.Proofs.Ytdfmfkibafcbcaa
