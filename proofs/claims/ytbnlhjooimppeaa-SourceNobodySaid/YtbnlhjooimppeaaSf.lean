/- source: New. -/
import Derived.Test.YtbnlhjooimppeaaSe
namespace Go.Proofs.Ytbnlhjooimppeaa
set_option linter.unusedVariables false
set_option linter.unusedSimpArgs false
open Go.RowKit W Go.Maps
theorem own_mono' {w : World} {base base' size n : Nat} {e : TypeId} {v : Value} {xs : List Value} (h : w.ownsRow base e size v n xs) (hb : base' ≤ base) : w.ownsRow base' e size v n xs :=
  ⟨h.1, h.2.imp id fun ⟨g, cap, cur, a, b, c⟩ => ⟨g, cap, cur, a, Nat.le_trans hb b, c⟩⟩
theorem QA.down {B B' : Nat} {w : World} {qb kb mb lim : Nat} {v : Value} {r : List En} (h : QA B w qb kb mb lim v r) (hb : B' ≤ B) : QA B' w qb kb mb lim v r := by
  obtain ⟨l, hl, p⟩ := h.hq
  exact ⟨h.q, ⟨l, ⟨⟨⟨hl.kq.km.k, own_mono' hl.kq.km.row hb, hl.kq.km.map, Nat.le_trans hb hl.kq.km.bk, Nat.le_trans hb hl.kq.km.bm, hl.kq.km.sz⟩, hl.kq.keys, hl.kq.len⟩, hl.heap⟩, p⟩, h.srt, h.keys, h.le, h.mx, Nat.le_trans hb h.bq⟩
/-- New. -/
def TNew (w : World) (lim : Nat) (late idle : Int) (e : Ending) (w' : World) : Prop := ∃ b, e = .returned (.tuple #[.pointer (some ⟨b.tb, 0, none⟩), .int .i64 0]) ∧ TM w.heap.size w' b lim late idle (.slice none 0 0) (.slice none 0 0) [] [] [] 0 ∧ Below w.heap.size w w'
theorem TNew.mk {w w1 w2 w' : World} {lim : Nat} {late idle : Int} {q1 k1 m1 q2 k2 m2 : Nat} (l2 : lim ≤ 1024) (hl : 0 ≤ late ∧ late ≤ 1099511627775) (hi : 1 ≤ idle ∧ idle ≤ 1099511627775) (Q1 : QA w.heap.size w1 q1 k1 m1 lim (.slice none 0 0) []) (B1 : Below w.heap.size w w1)
    (Q2 : QA w1.heap.size w2 q2 k2 m2 lim (.slice none 0 0) []) (B2 : Below w1.heap.size w1 w2)
    (hw : w' = ((w2.alloc (.map #[] 0)).alloc (.cells #[.pointer (some ⟨q1, 0, none⟩), .map (some w2.heap.size), .pointer (some ⟨q2, 0, none⟩), .int .i64 late, .int .i64 idle, .int .i64 0] 112)).alloc (.cells #[.pointer (some ⟨w2.heap.size + 1 + 1, 0, none⟩), .pointer (some ⟨w2.heap.size + 1, 0, none⟩)] 93)) :
    TNew w lim late idle (.returned (.tuple #[.pointer (some ⟨w2.heap.size + 1 + 1, 0, none⟩), .int .i64 0])) w' := by
  have m0 := MapG.new (E := elS) w2
  obtain ⟨w3, h3⟩ : ∃ w3, w3 = w2.alloc (.map #[] 0) := ⟨_, rfl⟩
  rw [← h3] at m0 hw
  have s3 : w3.heap.size = w2.heap.size + 1 := by rw [h3]; simp
  have b3 : Below w2.heap.size w2 w3 := by rw [h3]; exact (Below.refl _ _).alloc (Nat.le_refl _) _
  obtain ⟨w4, h4⟩ : ∃ w4, w4 = w3.alloc (.cells #[.pointer (some ⟨q1, 0, none⟩), .map (some w2.heap.size), .pointer (some ⟨q2, 0, none⟩), .int .i64 late, .int .i64 idle, .int .i64 0] 112) := ⟨_, rfl⟩
  have k4 := Bw.new w3 112 #[.pointer (some ⟨q1, 0, none⟩), .map (some w2.heap.size), .pointer (some ⟨q2, 0, none⟩), .int .i64 late, .int .i64 idle, .int .i64 0]
  rw [← h4, s3] at k4
  rw [← h4] at hw
  have s4 : w4.heap.size = w2.heap.size + 1 + 1 := by rw [h4]; simp [s3]
  have b4 : Below w3.heap.size w3 w4 := by rw [h4]; exact (Below.refl _ _).alloc (Nat.le_refl _) _
  have k5 := Bw.new w4 93 #[.pointer (some ⟨w2.heap.size + 1 + 1, 0, none⟩), .pointer (some ⟨w2.heap.size + 1, 0, none⟩)]
  rw [← hw, s4] at k5
  have b5 : Below w4.heap.size w4 w' := by rw [hw]; exact (Below.refl _ _).alloc (Nat.le_refl _) _
  have z1 := B1.size
  have z2 := B2.size
  have b45 : Below w3.heap.size w3 w' := b4.trans (b5.mono (by omega))
  have b25 : Below w2.heap.size w2 w' := b3.trans (b45.mono (by omega))
  have Q1' := Q1.later B2
  have o1 := fun k q => (Q1.old k q).2
  have o2 := fun k q => Q2.old k q
  have lq1 := Q1.q.lt
  have bq2 := Q2.bq
  have lq2 := Q2.q.lt
  refine ⟨⟨w2.heap.size + 1 + 1, w2.heap.size + 1, w2.heap.size, q1, k1, m1, q2, k2, m2⟩, rfl, ⟨⟨k5, k4.later b5, Q1'.later b25, (Q2.down z1).later b25, ?_, ?_, ?_, ?_, ?_, ?_, by simp only; omega, by simp only; omega, by simp only; omega⟩, ⟨List.Pairwise.nil, ⟨fun x => by simp, rfl⟩, ⟨fun x => by simp, rfl⟩, by simp, hl, hi, by decide, l2⟩⟩, ?_⟩
  · have := (m0.chg (S := fun _ => False) (Chg.of_below b45) (fun q => q))
    exact this.ext (fun k => rfl)
  · intro k a c; have := o1 k a; have := (o2 k c).1; omega
  · intro a; have := o1 _ a; simp only at this; omega
  · intro a; have := (o2 _ a).2; simp only at this; omega
  · intro a; have := (o2 _ a).1; simp only at this; omega
  · intro a; have := o1 _ a; simp only at this; omega
  · exact B1.trans ((B2.mono z1).trans (b25.mono (by omega)))
set_option maxRecDepth 100000 in
set_option maxHeartbeats 4000000 in
theorem tnew_ok (lim : Nat) (l1 : 1 ≤ lim) (l2 : lim ≤ 1024) (late idle : Int) (hl : secB late = true) (hi : secB idle = true) (h0 : idle ≠ 0) (w : World) : Calls Try.prog 31 #[.int .i64 (lim : Int), .int .i64 late, .int .i64 idle] w (TNew w lim late idle) := by
  have hmm := @run_makeMap Try.prog
  have k1 := second11 late
  have k2 := second11 idle
  have kq := fun w' => qnew_ok lim l1 (by omega) w'
  rw [hl] at k1
  rw [hi] at k2
  have HL := hide ((secB_iff _).1 hl)
  have HI := hide ((secB_iff _).1 hi)
  have nz : (idle == 0) = false := by simpa using h0
  have H0 := hide h0
  clear hl hi h0
  go_enter Try.func31, Try.ntmps31
  go_wp2_with (first
    | (go_at_call 56; (first | ((with_reducible refine Calls.mono (k1 _) ?_); rintro e w' ⟨rfl, rfl⟩) | ((with_reducible refine Calls.mono (k2 _) ?_); rintro e w' ⟨rfl, rfl⟩))))
  refine (kq _).mono ?_
  rintro e w1 ⟨q1, b1, m1, rfl, qa1, bl1⟩
  have Q1 := hide qa1
  have B1 := hide bl1
  clear qa1 bl1
  go_wp2_with fail
  refine (kq _).mono ?_
  rintro e w2 ⟨q2, b2, m2, rfl, qa2, bl2⟩
  have Q2 := hide qa2
  have B2 := hide bl2
  clear qa2 bl2
  go_wp2_with fail
  go_returns
  have := H0.out
  have := HI.out
  exact TNew.mk l2 HL.out (by omega) Q1.out B1.out Q2.out B2.out rfl
end Go.Proofs.Ytbnlhjooimppeaa
