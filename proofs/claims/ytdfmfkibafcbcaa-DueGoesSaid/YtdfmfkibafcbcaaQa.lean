/- due: alive. -/
import Derived.Test.YtdfmfkibafcbcaaQt
namespace Go.Proofs.Ytdfmfkibafcbcaa
set_option linter.unusedVariables false
set_option linter.unusedSimpArgs false
open Go.RowKit W Go.Maps
def kA : ByteArray := ⟨#[97]⟩
def kB : ByteArray := ⟨#[98]⟩
def kC : ByteArray := ⟨#[99]⟩
theorem ar1 : (if hasK [] kB = true ∨ ([] : List En).length < 2 then setR [] kB 5 else []) = [(kB, 5)] := by rw [if_pos (by simp)]; rfl
theorem ar2 : (if hasK [(kB, 5)] kA = true ∨ [((kB, 5) : En)].length < 2 then setR [(kB, 5)] kA 3 else [(kB, 5)]) = [(kA, 3), (kB, 5)] := by rw [if_pos (by simp)]; rfl
theorem ar3 : ¬ (hasK [(kA, 3), (kB, 5)] kC = true ∨ [((kA, 3) : En), (kB, 5)].length < 2) := by decide
theorem set1 {B : Nat} {w : World} {qb kb mb : Nat} {v : Value} (h : QA B w qb kb mb 2 v []) (hB : B ≤ w.heap.size) : Calls Try.prog 13 #[.pointer (some ⟨qb, 0, none⟩), .string ⟨#[98]⟩, .int .i64 5] w (SetP B w qb kb mb 2 v [(kB, 5)] 0) := by
  have k := qset_spec h hB kB (by decide) 5
  rw [ar1, if_pos (by simp)] at k
  exact k
theorem set2 {B : Nat} {w : World} {qb kb mb : Nat} {v : Value} (h : QA B w qb kb mb 2 v [(kB, 5)]) (hB : B ≤ w.heap.size) : Calls Try.prog 13 #[.pointer (some ⟨qb, 0, none⟩), .string ⟨#[97]⟩, .int .i64 3] w (SetP B w qb kb mb 2 v [(kA, 3), (kB, 5)] 0) := by
  have k := qset_spec h hB kA (by decide) 3
  rw [ar2, if_pos (by simp)] at k
  exact k
theorem set3 {B : Nat} {w : World} {qb kb mb : Nat} {v : Value} (h : QA B w qb kb mb 2 v [(kA, 3), (kB, 5)]) (hB : B ≤ w.heap.size) : Calls Try.prog 13 #[.pointer (some ⟨qb, 0, none⟩), .string ⟨#[99]⟩, .int .i64 1] w (SetP B w qb kb mb 2 v [(kA, 3), (kB, 5)] 70) := by
  have k := qset_spec h hB kC (by decide) 1
  rw [if_neg ar3, if_neg ar3] at k
  exact k
theorem SetP.below {B : Nat} {w w' : World} {qb kb mb lim : Nat} {v : Value} {r r' : List En} (h : QA B w qb kb mb lim v r) (hB : B ≤ w.heap.size) (c : Chg (kS3 kb mb v) w w') : Below B w w' := c.below (fun k q => (h.old k q).1) hB
set_option maxRecDepth 100000 in
set_option maxHeartbeats 4000000 in
theorem alive7_spec (w : World) : Calls Try.prog 8 #[] w fun e w' => e = .returned (.bool true) ∧ Below w.heap.size w w' := by
  have k0 := qnew_ok 2 (by decide) (by decide) w
  rw [show ((2 : Nat) : Int) = 2 from rfl] at k0
  go_enter Try.func8, Try.ntmps8
  go_wp2_with (go_at_call 6; refine k0.mono ?_; rintro e w1 ⟨qb, kb, mb, rfl, q1, b1⟩)
  have z1 := b1.size
  refine (set1 q1 z1).mono ?_
  rintro e w2 ⟨v2, rfl, q2, c2, m2⟩
  have B2 := hide (b1.trans (c2.below (fun k q => (q1.old k q).1) z1))
  clear q1 b1 c2 m2 k0
  go_wp2_with fail
  refine (set2 q2 B2.out.size).mono ?_
  rintro e w3 ⟨v3, rfl, q3, c3, m3⟩
  have B3 := hide (B2.out.trans (c3.below (fun k q => (q2.old k q).1) B2.out.size))
  clear q2 c3 m3 B2
  go_wp2_with fail
  refine (set3 q3 B3.out.size).mono ?_
  rintro e w4 ⟨v4, rfl, q4, c4, m4⟩
  have B4 := hide (B3.out.trans (c4.below (fun k q => (q3.old k q).1) B3.out.size))
  clear q3 c4 m4 B3
  go_wp2_with fail
  refine (qnext_spec q4).mono ?_
  rintro e w5 ⟨rfl, b5⟩
  simp only [nxtV, enV, kA]
  have kl : ∀ W, Below w4.heap.size w4 W → CalcN 10 #[.pointer (some ⟨qb, 0, none⟩)] W (.int .i64 2) := fun W b => qlen (q4.later b)
  have z5 := b5.size
  have B5 := hide (B4.out.trans (b5.mono B4.out.size))
  have szB := B5.out.size
  clear q4
  go_wp2_with (go_at_call 10; (with_reducible refine Calls.mono (kl _ (by go_grown)) ?_); rintro e w' ⟨rfl, rfl⟩)
  go_returns
  exact ⟨rfl, B5.out.alloc szB _⟩
end Go.Proofs.Ytdfmfkibafcbcaa
