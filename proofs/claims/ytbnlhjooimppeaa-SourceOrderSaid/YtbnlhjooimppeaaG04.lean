/- Texts that belong together: Sk Snb Sl Sm Sn So. -/
import Derived.Test.YtbnlhjooimppeaaG03
import Derived.Test.YtbnlhjooimppeaaG01
set_option linter.unusedSimpArgs false
set_option linter.unusedVariables false
/- source: the reference's reckon. -/
namespace Go.Proofs.Ytbnlhjooimppeaa
set_option linter.unusedVariables false
set_option linter.unusedSimpArgs false
open Go.RowKit W Go.Maps
theorem leastS_eq {A : List Sr} {m : Int} (h1 : ∀ k (h : k < A.length), m ≤ A[k].2.1) (h2 : ∃ k, ∃ h : k < A.length, m = A[k].2.1) : leastS A = some m := by
  obtain ⟨k, hk, e⟩ := h2
  cases q : leastS A with
  | none =>
    cases A with
    | nil => simp at hk
    | cons a A => cases q
  | some m' =>
    obtain ⟨g1, t, ht, g2⟩ := leastS_spec q
    obtain ⟨j, hj, rfl⟩ := List.getElem_of_mem ht
    have a1 := h1 j hj
    have a2 := g1 _ (List.getElem_mem hk)
    congr 1
    omega
def RkP (w : World) (rb : Nat) (lim late idle : Int) (a : Option Addr) (c : Nat) (A : List Sr) (mark : Int) (e : Ending) (w' : World) : Prop := e = .returned (.tuple #[]) ∧ RT w' rb lim late idle a c A mark ∧ Chg (· = rb) w w'
set_option maxRecDepth 100000 in
set_option maxHeartbeats 4000000 in
theorem rreckon_spec {w : World} {rb : Nat} {lim late idle : Int} {a : Option Addr} {c : Nat} {A : List Sr} {mark : Int} (h : RT w rb lim late idle a c A mark) (hg : ∀ g o, a = some ⟨g, o, none⟩ → g ≠ rb) (hl : A.length ≤ 1048576) (hs : ∀ s ∈ A, 0 ≤ s.2.1 ∧ s.2.1 ≤ 1099511627775) (hla : 0 ≤ late ∧ late ≤ 1099511627775) :
    Calls Try.prog 68 #[.pointer (some ⟨rb, 0, none⟩)] w (RkP w rb lim late idle a c A (markS A late mark)) := by
  have H := hide h
  have HG := hide hg
  obtain ⟨n, hn⟩ : ∃ n, n = A.length := ⟨_, rfl⟩
  have c3 : w.cell? ⟨rb, 3, none⟩ = some (.slice a n c) := by rw [hn]; exact h.r.cell 3 _ rfl
  have c1 := h.r.cell 1 _ rfl
  have c4 := h.r.cell 4 _ rfl
  have f4 := h.r.frz 4
  have lr := h.r.lt
  have HN := hide hn
  have HS := hide hs
  rw [← hn] at hl
  obtain ⟨la1, la2⟩ := hla
  by_cases n0 : n = 0
  · have e0 : A = [] := List.eq_nil_of_length_eq_zero (by omega)
    have e1 : markS A late mark = mark := by rw [e0]; rfl
    rw [e1]
    subst n0
    clear h hg hn hs e0 e1
    go_enter Try.func68, Try.ntmps68
    go_wp2_with fail
    go_returns
    exact ⟨rfl, H.out, Chg.refl _ _⟩
  · have nb : ((n : Int) == 0) = false := by rw [beq_eq_false_iff_ne]; omega
    have nb2 : (n == 0) = false := by rw [beq_eq_false_iff_ne]; omega
    have l0 : 0 < A.length := by omega
    have n1 : 0 < n := by omega
    obtain ⟨g, o, rfl, gl, _, y1, _⟩ := h.is.at_ l0
    rw [show o + 0 * 3 + 1 = o + 1 from by omega] at y1
    obtain ⟨m0, hm0⟩ : ∃ m0, m0 = A[0].2.1 := ⟨_, rfl⟩
    rw [← hm0] at y1
    have M0 : Hid (m0 = A[0].2.1) := hm0
    clear h hg hn hs hm0
    go_enter Try.func68, Try.ntmps68
    go_wp2_with fail
    go_loopw [2, 3] (fun s2 s3 wr => ∃ (m : Int) (i : Nat), s2 = .int .i64 m ∧ s3 = .int .i64 (i : Int) ∧ i ≤ n ∧ Hid (∀ k (h : k < A.length), k < i → m ≤ A[k].2.1) ∧ Hid (∃ k, ∃ h : k < A.length, m = A[k].2.1) ∧ w = wr) (fun _ s3 _ => n - (intOf s3).toNat)
    case atStart => exact ⟨m0, 0, rfl, rfl, by omega, hide (fun k h z => by omega), hide ⟨0, l0, M0.out⟩, (by first | rfl | trivial)⟩
    case round =>
      obtain ⟨m, i, rfl, rfl, hi, HL, HE, rfl⟩ := hrel
      by_cases hlt : i < n
      · have d1 : decide ((i : Int) < (n : Int)) = true := by rw [decide_eq_true_eq]; omega
        have d2 : decide (i < n) = true := by rw [decide_eq_true_eq]; omega
        have il : i < A.length := by have := HN.out; omega
        obtain ⟨g', o', e', _, _, x1, _⟩ := H.out.is.at_ il
        injection e' with e'
        injection e' with e5 e6
        subst e5 e6
        obtain ⟨y, hy⟩ : ∃ y, y = A[i].2.1 := ⟨_, rfl⟩
        rw [← hy] at x1
        have HY := hide hy
        clear hy
        by_cases t : y < m
        · have d3 := decide_eq_true t
          go_wp2_with fail
          go_roundw
          case rel =>
            refine ⟨y, i + 1, rfl, by go_num, by omega, hide (fun k hk z => ?_), hide ⟨i, il, HY.out⟩, (by first | rfl | trivial)⟩
            by_cases e : k = i
            · subst e; rw [← HY.out]; exact Int.le_refl _
            · have := HL.out k hk (by omega); omega
          case measure => (first | (simp [intOf]; done) | (simp [intOf]; omega))
        · have d3 := decide_eq_false t
          go_wp2_with fail
          go_roundw
          case rel =>
            refine ⟨m, i + 1, rfl, by go_num, by omega, hide (fun k hk z => ?_), HE, (by first | rfl | trivial)⟩
            by_cases e : k = i
            · subst e; rw [← HY.out]; omega
            · exact HL.out k hk (by omega)
          case measure => (first | (simp [intOf]; done) | (simp [intOf]; omega))
      · obtain rfl : i = n := by omega
        have d1 : decide ((i : Int) < (i : Int)) = false := by rw [decide_eq_false_iff_not]; omega
        have d2 : decide (i < i) = false := by rw [decide_eq_false_iff_not]; omega
        have le := leastS_eq (fun k hk => HL.out k hk (by have := HN.out; omega)) HE.out
        have mb : 0 ≤ m ∧ m ≤ 1099511627775 := by
          obtain ⟨k, hk, e⟩ := HE.out
          rw [e]; exact HS.out _ (List.getElem_mem hk)
        have em : Hid (markS A late mark = max mark (m - late)) := by show _ = _; unfold markS; rw [le]
        have wrp : IntKind.i64.wrap (m - late) = m - late := by rw [IntKind.wrap_i64]; omega
        clear le
        by_cases t : mark < m - late
        · have d3 := decide_eq_true t
          go_wp2_with fail
          go_quiet (fail)
          have RV := hide (H.out.later (below_drewN (Below.refl _ _) nq))
          have BV : Hid (Below w.heap.size w (w.drewN nq)) := below_drewN (Below.refl _ _) nq
          generalize w.drewN nq = V at RV BV ⊢
          have c1' := RV.out.r.cell 1 _ rfl
          have c4' := RV.out.r.cell 4 _ rfl
          have f4' := RV.out.r.frz 4
          go_wp2_with fail
          go_end0
          have e : max mark (m - late) = m - late := by omega
          have ng := HG.out g o rfl
          rw [em.out, e]
          refine ⟨rfl, ⟨RV.out.r.set 4 _, RV.out.is.imp id ?_⟩, (Chg.of_below BV.out).trans (Chg.set (S := (· = rb)) _ rfl) (fun _ _ q => q)⟩
          rintro ⟨g', o', e', k⟩
          injection e' with e'
          injection e' with e5 e6
          subst e5 e6
          exact ⟨_, _, rfl, k.chg (Chg.set (S := (· = rb)) _ rfl) ng⟩
        · have d3 := decide_eq_false t
          go_wp2_with fail
          go_quiet (fail)
          go_wp2_with fail
          go_end0
          have e : max mark (m - late) = mark := by omega
          rw [em.out, e]
          exact ⟨rfl, H.out.later (below_drewN (Below.refl _ _) _), Chg.of_below (below_drewN (Below.refl _ _) _)⟩
end Go.Proofs.Ytbnlhjooimppeaa
/- source: New for parameters it does not take; marks. -/
namespace Go.Proofs.Ytbnlhjooimppeaa
set_option linter.unusedVariables false
set_option linter.unusedSimpArgs false
open Go.RowKit W Go.Maps
set_option maxRecDepth 100000 in
set_option maxHeartbeats 4000000 in
theorem tnew_bad (lim late idle : Int) (h : ¬ (1 ≤ lim ∧ lim ≤ 1024 ∧ secB late = true ∧ secB idle = true ∧ idle ≠ 0)) (w : World) : CalcN 31 #[.int .i64 lim, .int .i64 late, .int .i64 idle] w (.tuple #[.pointer none, .int .i64 1]) := by
  have k1 := second11 late
  have k2 := second11 idle
  by_cases h1 : 1 ≤ lim
  · have d1 : decide (lim < 1) = false := by rw [decide_eq_false_iff_not]; omega
    by_cases h2 : lim ≤ 1024
    · have d2 : decide (1024 < lim) = false := by rw [decide_eq_false_iff_not]; omega
      cases h3 : secB late with
      | false =>
        rw [h3] at k1
        clear h h3
        go_enter Try.func31, Try.ntmps31
        go_wp2_with (go_at_call 56; (first | ((with_reducible refine Calls.mono (k1 _) ?_); rintro e w' ⟨rfl, rfl⟩) | ((with_reducible refine Calls.mono (k2 _) ?_); rintro e w' ⟨rfl, rfl⟩)))
        go_returns
        exact ⟨rfl, rfl⟩
      | true =>
        rw [h3] at k1
        cases h4 : secB idle with
        | false =>
          rw [h4] at k2
          clear h h3 h4
          go_enter Try.func31, Try.ntmps31
          go_wp2_with (go_at_call 56; (first | ((with_reducible refine Calls.mono (k1 _) ?_); rintro e w' ⟨rfl, rfl⟩) | ((with_reducible refine Calls.mono (k2 _) ?_); rintro e w' ⟨rfl, rfl⟩)))
          go_returns
          exact ⟨rfl, rfl⟩
        | true =>
          rw [h4] at k2
          have h5 : idle = 0 := by
            by_cases q : idle = 0
            · exact q
            · exact absurd ⟨h1, h2, h3, h4, q⟩ h
          subst h5
          clear h h3 h4
          go_enter Try.func31, Try.ntmps31
          go_wp2_with (go_at_call 56; (first | ((with_reducible refine Calls.mono (k1 _) ?_); rintro e w' ⟨rfl, rfl⟩) | ((with_reducible refine Calls.mono (k2 _) ?_); rintro e w' ⟨rfl, rfl⟩)))
          go_returns
          exact ⟨rfl, rfl⟩
    · have d2 : decide (1024 < lim) = true := by rw [decide_eq_true_eq]; omega
      clear h
      go_enter Try.func31, Try.ntmps31
      go_wp2_with fail
      go_returns
      exact ⟨rfl, rfl⟩
  · have d1 : decide (lim < 1) = true := by rw [decide_eq_true_eq]; omega
    clear h
    go_enter Try.func31, Try.ntmps31
    go_wp2_with fail
    go_returns
    exact ⟨rfl, rfl⟩
theorem markS_idem (A : List Sr) (late mark : Int) : markS A late (markS A late mark) = markS A late mark := by
  unfold markS
  cases leastS A <;> simp only <;> omega
theorem markS_nil (late mark : Int) : markS [] late mark = mark := rfl
theorem markS_facts {A : List Sr} {late mark m : Int} (h : leastS A = some m) : mark ≤ markS A late mark ∧ m - late ≤ markS A late mark ∧ (mark < markS A late mark → markS A late mark = m - late) := by
  unfold markS
  rw [h]
  simp only
  omega
/-- A table between calls of a script. -/
structure NF (W : World) (b : Tb) (lim : Nat) (late idle : Int) (wr : World) (v1 v2 : Value) (A : List Sr) (r1 r2 : List En) (mark : Int) : Prop where
  tm : TM W.heap.size wr b lim late idle v1 v2 A r1 r2 mark
  bl : Below W.heap.size W wr
  mkI : markS A late mark = mark
theorem NF.below {W wr w' : World} {b : Tb} {lim : Nat} {late idle : Int} {v1 v2 : Value} {A : List Sr} {r1 r2 : List En} {mark : Int} (h : NF W b lim late idle wr v1 v2 A r1 r2 mark) (k : Below wr.heap.size wr w') : NF W b lim late idle w' v1 v2 A r1 r2 mark :=
  ⟨h.tm.later k, h.bl.trans (k.mono h.bl.size), h.mkI⟩
/-- Behind a call. -/
theorem NF.next {W wr w' : World} {b : Tb} {lim : Nat} {late idle : Int} {v1 v2 v1' v2' : Value} {A A' : List Sr} {r1 r2 r1' r2' : List En} {mark mark' : Int} (h : NF W b lim late idle wr v1 v2 A r1 r2 mark) (t : TM W.heap.size w' b lim late idle v1' v2' A' r1' r2' mark') (c : Chg (tS b v1 v2) wr w') (m : mark' = markS A' late mark) : NF W b lim late idle w' v1' v2' A' r1' r2' mark' :=
  ⟨t, h.bl.trans (c.below (fun k q => (h.tm.old k q).1) h.bl.size), by rw [m, markS_idem]⟩
theorem heM_eq {lim : Nat} {late : Int} {A : List Sr} {mark : Int} {name : ByteArray} {at' now : Int} (h : markS A late mark = mark) : heM lim late A mark name at' now = markS (heA lim A name at' now) late mark := by
  unfold heM heA
  split
  · rfl
  · exact h.symm
/-- All, as it reads. -/
theorem tall_is {B : Nat} {w : World} {b : Tb} {lim : Nat} {late idle : Int} {v1 v2 : Value} {A : List Sr} {r1 r2 : List En} {mark : Int} (h : TM B w b lim late idle v1 v2 A r1 r2 mark) :
    Calls Try.prog 37 #[.pointer (some ⟨b.tb, 0, none⟩)] w fun e w' => ∃ a c, e = .returned (.slice a A.length c) ∧ IsS w' a A ∧ Below w.heap.size w w' := by
  refine (tall_spec h).mono ?_
  rintro e w' ⟨s, rfl, o, bl⟩
  obtain ⟨a, c, rfl, i⟩ := isS_own o rfl
  exact ⟨a, c, rfl, i, bl⟩
/-- The least of the first. -/
def LeastT (A : List Sr) (k : Nat) (x : Int) : Prop := (k = 0 ∧ x = -1) ∨ (0 < k ∧ (∀ j (h : j < A.length), j < k → x ≤ A[j].2.1) ∧ ∃ j, ∃ h : j < A.length, j < k ∧ x = A[j].2.1)
theorem LeastT.take {A : List Sr} {k : Nat} {x : Int} (h : LeastT A k x) (hk : k < A.length) (c : x < 0 ∨ A[k].2.1 < x) : LeastT A (k + 1) A[k].2.1 ∨ (0 < k ∧ x < 0 ∧ ¬ A[k].2.1 < x) := by
  rcases h with ⟨rfl, rfl⟩ | ⟨h0, h1, h2⟩
  · left
    refine .inr ⟨by omega, fun j hj jk => ?_, ⟨0, hk, by omega, rfl⟩⟩
    obtain rfl : j = 0 := by omega
    exact Int.le_refl _
  · by_cases c2 : A[k].2.1 < x
    · left
      refine .inr ⟨by omega, fun j hj jk => ?_, ⟨k, hk, by omega, rfl⟩⟩
      by_cases e : j = k
      · subst e; exact Int.le_refl _
      · have := h1 j hj (by omega); omega
    · right
      rcases c with c | c
      · exact ⟨h0, c, c2⟩
      · exact absurd c c2
theorem LeastT.pass {A : List Sr} {k : Nat} {x : Int} (h : LeastT A k x) (hk : k < A.length) (c1 : ¬ x < 0) (c2 : ¬ A[k].2.1 < x) : LeastT A (k + 1) x := by
  rcases h with ⟨rfl, rfl⟩ | ⟨h0, h1, h2⟩
  · omega
  · obtain ⟨j, hj, jk, e⟩ := h2
    refine .inr ⟨by omega, fun i hi ik => ?_, ⟨j, hj, by omega, e⟩⟩
    by_cases q : i = k
    · subst q; omega
    · exact h1 i hi (by omega)
theorem LeastT.least {A : List Sr} {x : Int} (h : LeastT A A.length x) (h0 : 0 < A.length) : leastS A = some x := by
  rcases h with ⟨e, _⟩ | ⟨_, h1, j, hj, _, e⟩
  · omega
  · exact leastS_eq (fun k hk => h1 k hk hk) ⟨j, hj, e⟩
end Go.Proofs.Ytbnlhjooimppeaa
/- source: the reference's Get. -/
namespace Go.Proofs.Ytbnlhjooimppeaa
set_option linter.unusedVariables false
set_option linter.unusedSimpArgs false
open Go.RowKit W Go.Maps
set_option maxRecDepth 100000 in
set_option maxHeartbeats 4000000 in
theorem rget_spec {w : World} {rb : Nat} {lim late idle : Int} {a : Option Addr} {c : Nat} {A : List Sr} {mark : Int} (h : RT w rb lim late idle a c A mark) (hA : Names A) (hl : A.length ≤ 1048576) (name : ByteArray) :
    Calls Try.prog 60 #[.pointer (some ⟨rb, 0, none⟩), .string name] w fun e w' => e = .returned (.tuple #[srV (srcOf A name), .bool (findS A name).isSome]) ∧ Below w.heap.size w w' := by
  have B1 : Below w.heap.size w (w.alloc (.cells #[.string ⟨#[]⟩, .int .i64 0, .int .i64 0] 82)) := (Below.refl _ _).alloc (Nat.le_refl _) _
  have kf := rfind_spec (h.later B1) hA hl name
  obtain ⟨t, ht⟩ : ∃ t, t = (findS A name).isSome := ⟨_, rfl⟩
  rw [← ht] at kf ⊢
  have HT := hide ht
  have H := hide h
  have HA := hide hA
  have lr := h.r.lt
  obtain ⟨n, hn⟩ : ∃ n, n = A.length := ⟨_, rfl⟩
  have HN := hide hn
  rw [← hn] at hl
  have SO : Hid (t = false → srcOf A name = (ByteArray.empty, 0, 0)) := fun q => by
    unfold srcOf
    cases e : findS A name with
    | none => rfl
    | some s => rw [ht, e] at q; cases q
  have SI : Hid (∀ i, FdP A name i → t = true → ∃ hi : i < A.length, srcOf A name = A[i]) := fun i f q => by
    obtain ⟨hi, e⟩ := (f.there hA).1 (ht ▸ q)
    refine ⟨hi, ?_⟩
    unfold srcOf
    rw [(findS_some hA).2 ⟨List.getElem_mem hi, e⟩]; rfl
  obtain ⟨so, hso⟩ : ∃ so, so = srcOf A name := ⟨_, rfl⟩
  have HSO := hide hso
  rw [← hso]
  clear h hA ht hso hn
  go_enter Try.func60, Try.ntmps60
  go_wp2_with (go_at_call 67; refine kf.mono ?_; rintro e w1 ⟨i, rfl, fd, b1⟩; have BB : Hid (Below w.heap.size w w1) := B1.trans (b1.mono (by simp)); have z1 : w.heap.size < w1.heap.size := (by have := b1.size; simp at this; omega); have lr1 : rb < w1.heap.size := Nat.lt_trans lr z1; have nr1 : rb ≠ w.heap.size := Nat.ne_of_lt lr; have nr2 : w.heap.size ≠ rb := Ne.symm nr1; have c3 : w1.cell? ⟨rb, 3, none⟩ = some (.slice a n c) := (by rw [HN.out]; exact (H.out.later BB.out).r.cell 3 _ rfl); have y0 : w1.cell? ⟨w.heap.size, 0, none⟩ = some (.string ⟨#[]⟩) := ((b1.cell (p := ⟨w.heap.size, 0, none⟩) (by simp)).trans (by simp [go_sem])); have y1 : w1.cell? ⟨w.heap.size, 1, none⟩ = some (.int .i64 0) := ((b1.cell (p := ⟨w.heap.size, 1, none⟩) (by simp)).trans (by simp [go_sem])); have y2 : w1.cell? ⟨w.heap.size, 2, none⟩ = some (.int .i64 0) := ((b1.cell (p := ⟨w.heap.size, 2, none⟩) (by simp)).trans (by simp [go_sem])); have FD := hide fd; have f0 := (b1.frozen (p := ⟨w.heap.size, 0, none⟩) (by simp)).trans (show (w.alloc (.cells #[.string ⟨#[]⟩, .int .i64 0, .int .i64 0] 82)).frozen? ⟨w.heap.size, 0, none⟩ = false by simp [go_sem]); have f1 := (b1.frozen (p := ⟨w.heap.size, 1, none⟩) (by simp)).trans (show (w.alloc (.cells #[.string ⟨#[]⟩, .int .i64 0, .int .i64 0] 82)).frozen? ⟨w.heap.size, 1, none⟩ = false by simp [go_sem]); have f2 := (b1.frozen (p := ⟨w.heap.size, 2, none⟩) (by simp)).trans (show (w.alloc (.cells #[.string ⟨#[]⟩, .int .i64 0, .int .i64 0] 82)).frozen? ⟨w.heap.size, 2, none⟩ = false by simp [go_sem]); clear fd b1; cases t)
  · have e := SO.out (by trivial)
    rw [← HSO.out] at e
    subst e
    have q0 : (((w1.setCell ⟨w.heap.size, 0, none⟩ (.string ⟨#[]⟩)).setCell ⟨w.heap.size, 1, none⟩ (.int .i64 0)).setCell ⟨w.heap.size, 2, none⟩ (.int .i64 0)).cell? ⟨w.heap.size, 0, none⟩ = some (.string ⟨#[]⟩) := by simp [go_sem, y0, y1, y2, f0, f1, f2, z1]
    have q1 : (((w1.setCell ⟨w.heap.size, 0, none⟩ (.string ⟨#[]⟩)).setCell ⟨w.heap.size, 1, none⟩ (.int .i64 0)).setCell ⟨w.heap.size, 2, none⟩ (.int .i64 0)).cell? ⟨w.heap.size, 1, none⟩ = some (.int .i64 0) := by simp [go_sem, y0, y1, y2, f0, f1, f2, z1]
    have q2 : (((w1.setCell ⟨w.heap.size, 0, none⟩ (.string ⟨#[]⟩)).setCell ⟨w.heap.size, 1, none⟩ (.int .i64 0)).setCell ⟨w.heap.size, 2, none⟩ (.int .i64 0)).cell? ⟨w.heap.size, 2, none⟩ = some (.int .i64 0) := by simp [go_sem, y0, y1, y2, f0, f1, f2, z1]
    go_wp2_with fail
    refine bodyPost_ret (by simp [results, Try.results60, go_sem, y0, y1, y2, f0, f1, f2, z1]; try rfl) rfl ?_
    exact ⟨rfl, by first | exact BB.out | exact BB.out.setCell (by simp) _ | exact ((BB.out.setCell (by simp) _).setCell (by simp) _).setCell (by simp) _⟩
  · obtain ⟨hi, e⟩ := SI.out i FD.out (by trivial)
    rw [← HSO.out] at e
    have R1 := H.out.later BB.out
    obtain ⟨g, o, rfl, gl, x0, x1, x2⟩ := R1.is.at_ hi
    rw [← e] at x0 x1 x2
    clear R1 e
    have hin : i < n := by have := HN.out; omega
    have d1 : decide ((i : Int) < (n : Int)) = true := by rw [decide_eq_true_eq]; omega
    have d2 : decide (i < n) = true := by rw [decide_eq_true_eq]; exact hin
    clear hi
    have b0 : (0 : Int) ≤ (i : Int) ∧ (i : Int) < (n : Int) := by omega
    have b1 : (i : Int) < (n : Int) := by omega
    have b2 : (0 : Int) ≤ (i : Int) := by omega
    have b3 : (i : Int).toNat = i := by omega
    obtain ⟨s0, s1, s2⟩ := so
    dsimp only at x0 x1 x2
    go_wp2_with fail
    rw [show (Sem.run Try.prog (Instr.indexAt 65 (Value.slice (some { block := g, off := o }) n c) (Value.int IntKind.i64 ↑i)) w1) = Result.ok (Value.pointer (some ⟨g, o + i * 3, none⟩)) w1 by simp [go_sem, b0, b3]]
    go_wp2_with fail
    refine bodyPost_ret (by simp [results, Try.results60, go_sem, y0, y1, y2, f0, f1, f2, z1]; try rfl) rfl ?_
    exact ⟨rfl, by first | exact BB.out | exact BB.out.setCell (by simp) _ | exact ((BB.out.setCell (by simp) _).setCell (by simp) _).setCell (by simp) _⟩
end Go.Proofs.Ytbnlhjooimppeaa
/- source: the reference's New. -/
namespace Go.Proofs.Ytbnlhjooimppeaa
set_option linter.unusedVariables false
set_option linter.unusedSimpArgs false
open Go.RowKit W Go.Maps
set_option maxRecDepth 100000 in
theorem rsecond11 (t : Int) (w : World) : CalcN 57 #[.int .i64 t] w (.bool (secB t)) := by
  unfold secB
  by_cases h1 : 0 ≤ t
  · have d1 := decide_eq_true h1
    by_cases h2 : t ≤ 1099511627775
    · rw [decide_eq_true ⟨h1, h2⟩]
      have d2 := decide_eq_true h2
      go_enter Try.func57, Try.ntmps57
      go_wp2
      go_returns
      exact ⟨rfl, rfl⟩
    · rw [decide_eq_false (fun q => h2 q.2)]
      have d2 := decide_eq_false h2
      go_enter Try.func57, Try.ntmps57
      go_wp2
      go_returns
      exact ⟨rfl, rfl⟩
  · rw [decide_eq_false (fun q => h1 q.1)]
    have d1 := decide_eq_false h1
    go_enter Try.func57, Try.ntmps57
    go_wp2
    go_returns
    exact ⟨rfl, rfl⟩
set_option maxRecDepth 100000 in
set_option maxHeartbeats 4000000 in
theorem rnew_ok (lim : Nat) (l1 : 1 ≤ lim) (l2 : lim ≤ 1024) (late idle : Int) (hl : secB late = true) (hi : 1 ≤ idle ∧ idle ≤ 1099511627775) (w : World) : Calls Try.prog 32 #[.int .i64 (lim : Int), .int .i64 late, .int .i64 idle] w fun e w' => e = .returned (.tuple #[.agg #[.int .i64 (lim : Int), .int .i64 late, .int .i64 idle, .slice none 0 0, .int .i64 0], .int .i64 0]) ∧ Below w.heap.size w w' := by
  have k1 := rsecond11 late
  rw [hl] at k1
  have d1 : decide ((lim : Int) < 1) = false := by rw [decide_eq_false_iff_not]; omega
  have d2 : decide ((1024 : Int) < (lim : Int)) = false := by rw [decide_eq_false_iff_not]; omega
  have d3 : decide (idle < 1) = false := by rw [decide_eq_false_iff_not]; omega
  have d4 : decide ((1099511627775 : Int) < idle) = false := by rw [decide_eq_false_iff_not]; omega
  have d5 : decide (lim < 1) = false := by rw [decide_eq_false_iff_not]; omega
  have d6 : decide (1024 < lim) = false := by rw [decide_eq_false_iff_not]; omega
  have B1 : Below w.heap.size w (w.alloc (.cells #[.int .i64 0, .int .i64 0, .int .i64 0, .slice none 0 0, .int .i64 0] 67)) := (Below.refl _ _).alloc (Nat.le_refl _) _
  clear hl hi
  go_enter Try.func32, Try.ntmps32
  go_wp2_with (go_at_call 57; (with_reducible refine Calls.mono (k1 _) ?_); rintro e w' ⟨rfl, rfl⟩)
  refine bodyPost_ret (by simp [results, Try.results32, go_sem]; try rfl) rfl ?_
  exact ⟨rfl, by first | exact B1 | go_grown⟩
end Go.Proofs.Ytbnlhjooimppeaa
/- source: the reference's Same on equal lists. -/
namespace Go.Proofs.Ytbnlhjooimppeaa
set_option linter.unusedVariables false
set_option linter.unusedSimpArgs false
open Go.RowKit W Go.Maps
set_option maxRecDepth 100000 in
set_option maxHeartbeats 4000000 in
theorem rsame_spec {w : World} {a1 a2 : Option Addr} {c1 c2 : Nat} {A : List Sr} (h1 : IsS w a1 A) (h2 : IsS w a2 A) (hl : A.length ≤ 1048576) :
    Calls Try.prog 36 #[.slice a1 A.length c1, .slice a2 A.length c2] w fun e w' => e = .returned (.bool true) ∧ Below w.heap.size w w' := by
  have H1 := hide h1
  have H2 := hide h2
  obtain ⟨n, hn⟩ : ∃ n, n = A.length := ⟨_, rfl⟩
  have HN := hide hn
  rw [← hn] at hl ⊢
  clear h1 h2 hn
  go_enter Try.func36, Try.ntmps36
  go_wp2_with fail
  go_loopw [5] (fun s5 wr => ∃ i : Nat, s5 = .int .i64 (i : Int) ∧ i ≤ n ∧ Hid (Below w.heap.size w wr)) (fun s5 _ => n - (intOf s5).toNat)
  case atStart => exact ⟨0, rfl, by omega, hide (Below.refl _ _)⟩
  case round =>
    obtain ⟨i, rfl, hi, BB⟩ := hrel
    by_cases hlt : i < n
    · have d1 : decide ((i : Int) < (n : Int)) = true := by rw [decide_eq_true_eq]; omega
      have d2 : decide (i < n) = true := by rw [decide_eq_true_eq]; omega
      have il : i < A.length := by have := HN.out; omega
      obtain ⟨g, o, rfl, gl, x0, x1, x2⟩ := (H1.out.later BB.out).at_ il
      obtain ⟨g', o', rfl, gl', y0, y1, y2⟩ := (H2.out.later BB.out).at_ il
      obtain ⟨⟨s0, s1, s2⟩, hs⟩ : ∃ s, s = A[i] := ⟨_, rfl⟩
      rw [← hs] at x0 x1 x2 y0 y1 y2
      dsimp only at x0 x1 x2 y0 y1 y2
      have f1 : (s0.toList == s0.toList) = true := by simp
      clear hs
      go_wp2_with fail
      go_quiet (fail)
      go_wp2_with fail
      go_roundw
      case rel => exact ⟨i + 1, by go_num, by omega, hide (BB.out.trans (by first | exact below_drewN (Below.refl _ _) _ | exact Below.refl _ _))⟩
      case measure => (first | (simp [intOf]; done) | (simp [intOf]; omega))
    · obtain rfl : i = n := by omega
      have d1 : decide ((i : Int) < (i : Int)) = false := by rw [decide_eq_false_iff_not]; omega
      have d2 : decide (i < i) = false := by rw [decide_eq_false_iff_not]; omega
      go_wp2_with fail
      go_returns
      exact ⟨rfl, BB.out⟩
end Go.Proofs.Ytbnlhjooimppeaa
/- source: the reference's SameTexts on equal lists. -/
namespace Go.Proofs.Ytbnlhjooimppeaa
set_option linter.unusedVariables false
set_option linter.unusedSimpArgs false
open Go.RowKit W Go.Maps
set_option maxRecDepth 100000 in
set_option maxHeartbeats 4000000 in
theorem rtexts_spec {w : World} {a1 a2 : Option Addr} {c1 c2 : Nat} {A : List ByteArray} (h1 : IsTxts w a1 A) (h2 : IsTxts w a2 A) (hl : A.length ≤ 1048576) :
    Calls Try.prog 58 #[.slice a1 A.length c1, .slice a2 A.length c2] w fun e w' => e = .returned (.bool true) ∧ Below w.heap.size w w' := by
  have H1 := hide h1
  have H2 := hide h2
  obtain ⟨n, hn⟩ : ∃ n, n = A.length := ⟨_, rfl⟩
  have HN := hide hn
  rw [← hn] at hl ⊢
  clear h1 h2 hn
  go_enter Try.func58, Try.ntmps58
  go_wp2_with fail
  go_loopw [5] (fun s5 wr => ∃ i : Nat, s5 = .int .i64 (i : Int) ∧ i ≤ n ∧ Hid (Below w.heap.size w wr)) (fun s5 _ => n - (intOf s5).toNat)
  case atStart => exact ⟨0, rfl, by omega, hide (Below.refl _ _)⟩
  case round =>
    obtain ⟨i, rfl, hi, BB⟩ := hrel
    by_cases hlt : i < n
    · have d1 : decide ((i : Int) < (n : Int)) = true := by rw [decide_eq_true_eq]; omega
      have d2 : decide (i < n) = true := by rw [decide_eq_true_eq]; omega
      have il : i < A.length := by have := HN.out; omega
      obtain ⟨g, o, rfl, k1⟩ := (H1.out.later BB.out).resolve_left (fun q => by rw [q] at il; simp at il)
      obtain ⟨g', o', rfl, k2⟩ := (H2.out.later BB.out).resolve_left (fun q => by rw [q] at il; simp at il)
      have gl := k1.lt
      have gl' := k2.lt
      have x0 := k1.cell i il
      have y0 := k2.cell i il
      obtain ⟨s0, hs⟩ : ∃ s, s = A[i] := ⟨_, rfl⟩
      rw [← hs] at x0 y0
      clear k1 k2
      have f1 : (s0.toList == s0.toList) = true := by simp
      clear hs
      go_wp2_with fail
      go_quiet (fail)
      go_wp2_with fail
      go_roundw
      case rel => exact ⟨i + 1, by go_num, by omega, hide (BB.out.trans (by first | exact below_drewN (Below.refl _ _) _ | exact Below.refl _ _))⟩
      case measure => (first | (simp [intOf]; done) | (simp [intOf]; omega))
    · obtain rfl : i = n := by omega
      have d1 : decide ((i : Int) < (i : Int)) = false := by rw [decide_eq_false_iff_not]; omega
      have d2 : decide (i < i) = false := by rw [decide_eq_false_iff_not]; omega
      go_wp2_with fail
      go_returns
      exact ⟨rfl, BB.out⟩
end Go.Proofs.Ytbnlhjooimppeaa
