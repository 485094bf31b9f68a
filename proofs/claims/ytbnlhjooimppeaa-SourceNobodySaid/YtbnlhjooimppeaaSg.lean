/- source: alive; tables that nobody made. -/
import Derived.Test.YtbnlhjooimppeaaSf
import Derived.Test.YtbnlhjooimppeaaQa
namespace Go.Proofs.Ytbnlhjooimppeaa
set_option linter.unusedVariables false
set_option linter.unusedSimpArgs false
open Go.RowKit W Go.Maps
theorem ltAB : ltB kA kB = true := by unfold ltB kA kB; rw [ByteArray.toList_eq, ByteArray.toList_eq]; rfl
abbrev A1 : List Sr := [(kA, 100, 5)]
abbrev A2 : List Sr := [(kA, 100, 5), (kB, 50, 6)]
abbrev A3 : List Sr := [(kA, 100, 5), (kB, 150, 6)]
abbrev A4 : List Sr := [(kA, 130, 6), (kB, 150, 6)]
theorem e1A : heA 2 [] kA 100 5 = A1 := by decide +kernel
theorem e1M : heM 2 10 [] 0 kA 100 5 = 90 := by decide +kernel
theorem e1C : heC 2 [] kA 100 5 = 0 := by decide +kernel
theorem ok2 : heOk 2 A1 kB 50 6 = true := by decide +kernel
theorem ok3 : heOk 2 A2 kC 1 6 = false := by decide +kernel
theorem ok4 : heOk 2 A2 kB 150 6 = true := by decide +kernel
theorem ok5 : heOk 2 A3 kA 130 6 = true := by decide +kernel
theorem n2 : newS A1 kB 50 6 = (kB, 50, 6) := by decide +kernel
theorem n4 : newS A2 kB 150 6 = (kB, 150, 6) := by decide +kernel
theorem n5 : newS A3 kA 130 6 = (kA, 130, 6) := by decide +kernel
theorem p2 : putS A1 (kB, 50, 6) = A2 := by rw [A1, putS_cons_lt (s := (kB, 50, 6)) (a := (kA, 100, 5)) ltAB]; rfl
theorem p4 : putS A2 (kB, 150, 6) = A3 := by rw [A2, putS_cons_lt (s := (kB, 150, 6)) (a := (kA, 100, 5)) ltAB, putS_cons_eq (s := (kB, 150, 6)) (a := (kB, 50, 6)) rfl]
theorem p5 : putS A3 (kA, 130, 6) = A4 := by rw [A3, putS_cons_eq (s := (kA, 130, 6)) (a := (kA, 100, 5)) rfl]
theorem e2A : heA 2 A1 kB 50 6 = A2 := by unfold heA; rw [ok2, n2, p2]; rfl
theorem e2M : heM 2 10 A1 90 kB 50 6 = 90 := by unfold heM; rw [ok2, n2, p2]; decide +kernel
theorem e2C : heC 2 A1 kB 50 6 = 0 := by unfold heC; rw [ok2]; decide +kernel
theorem e3A : heA 2 A2 kC 1 6 = A2 := by unfold heA; rw [ok3]; rfl
theorem e3M : heM 2 10 A2 90 kC 1 6 = 90 := by unfold heM; rw [ok3]; rfl
theorem e3C : heC 2 A2 kC 1 6 = 110 := by unfold heC; rw [ok3]; decide +kernel
theorem e4A : heA 2 A2 kB 150 6 = A3 := by unfold heA; rw [ok4, n4, p4]; rfl
theorem e4M : heM 2 10 A2 90 kB 150 6 = 90 := by unfold heM; rw [ok4, n4, p4]; decide +kernel
theorem e4C : heC 2 A2 kB 150 6 = 0 := by unfold heC; rw [ok4]; decide +kernel
theorem e5A : heA 2 A3 kA 130 6 = A4 := by unfold heA; rw [ok5, n5, p5]; rfl
theorem e5M : heM 2 10 A3 90 kA 130 6 = 120 := by unfold heM; rw [ok5, n5, p5]; decide +kernel
theorem e5C : heC 2 A3 kA 130 6 = 0 := by unfold heC; rw [ok5]; decide +kernel
theorem HearP.below {B : Nat} {w w' : World} {b : Tb} {lim : Nat} {late idle : Int} {v1 v2 : Value} {A : List Sr} {r1 r2 : List En} {mark : Int} (h : TM B w b lim late idle v1 v2 A r1 r2 mark) (hB : B ≤ w.heap.size) (c : Chg (tS b v1 v2) w w') : Below B w w' := c.below (fun k q => (h.old k q).1) hB
set_option maxRecDepth 100000 in
set_option maxHeartbeats 4000000 in
theorem alive11_spec (w : World) : Calls Try.prog 33 #[] w fun e w' => e = .returned (.bool true) ∧ Below w.heap.size w w' := by
  have k0 := tnew_ok 2 (by decide) (by decide) 10 60 (by decide) (by decide) (by decide) w
  rw [show ((2 : Nat) : Int) = 2 from rfl] at k0
  go_enter Try.func33, Try.ntmps33
  go_wp2_with (go_at_call 31; refine k0.mono ?_; rintro e w1 ⟨b, rfl, t1, b1⟩)
  have z1 := b1.size
  have h1 := thear_spec t1 z1 kA (by decide) 100 5
  rw [e1A, e1M, e1C] at h1
  clear k0
  refine h1.mono ?_
  rintro e w2 ⟨v1, v2, r1, r2, rfl, t2, c2, _, _⟩
  have B2 := hide (b1.trans (HearP.below t1 z1 c2))
  have k2 := tmark t2
  clear h1 t1 c2 b1 z1
  go_wp2_with (go_at_call 35; refine k2.mono ?_; rintro e w' ⟨rfl, rfl⟩)
  have h2 := thear_spec t2 B2.out.size kB (by decide) 50 6
  rw [e2A, e2M, e2C] at h2
  clear k2
  refine h2.mono ?_
  rintro e w3 ⟨v1', v2', r1', r2', rfl, t3, c3, _, _⟩
  have B3 := hide (B2.out.trans (HearP.below t2 B2.out.size c3))
  clear h2 t2 c3 B2
  go_wp2_with fail
  have h3 := thear_spec t3 B3.out.size kC (by decide) 1 6
  rw [e3A, e3M, e3C] at h3
  refine h3.mono ?_
  rintro e w4 ⟨v1'', v2'', r1'', r2'', rfl, t4, c4, _, _⟩
  have B4 := hide (B3.out.trans (HearP.below t3 B3.out.size c4))
  clear h3 t3 c4 B3
  go_wp2_with fail
  have h4 := thear_spec t4 B4.out.size kB (by decide) 150 6
  rw [e4A, e4M, e4C] at h4
  refine h4.mono ?_
  rintro e w5 ⟨x1, x2, s1, s2, rfl, t5, c5, _, _⟩
  have B5 := hide (B4.out.trans (HearP.below t4 B4.out.size c5))
  have k5 := tmark t5
  clear h4 t4 c5 B4
  go_wp2_with (go_at_call 35; (with_reducible refine Calls.mono k5 ?_); rintro e w' ⟨rfl, rfl⟩)
  have h5 := thear_spec t5 B5.out.size kA (by decide) 130 6
  rw [e5A, e5M, e5C] at h5
  refine h5.mono ?_
  rintro e w6 ⟨y1, y2, u1, u2, rfl, t6, c6, _, _⟩
  have B6 := hide (B5.out.trans (HearP.below t5 B5.out.size c6))
  have k6 := tmark t6
  clear h5 t5 c6 B5 k5
  go_wp2_with (go_at_call 35; (with_reducible refine Calls.mono k6 ?_); rintro e w' ⟨rfl, rfl⟩)
  go_returns
  exact ⟨rfl, B6.out⟩
end Go.Proofs.Ytbnlhjooimppeaa
