/- The reference of layer 2: digits, Text. -/
import Derived.Test.YtdjehbagnkfkpaaDoorMref
import Derived.Test.YtdjehbagnkfkpaaDoorMshow
namespace Go.Proofs.YtdjehbagnkfkpaaDoor
set_option linter.unusedVariables false
set_option linter.unusedSimpArgs false
open Go.RowKit W
def padTo (k : Nat) (l : List UInt8) : List UInt8 := List.replicate (k - l.length) 48 ++ l
theorem pad_pre (n : Nat) : pad7 (Dc.pre n) = pad7 (Dc.dec n) := by
  by_cases h : n = 0
  · subst h; rw [Dc.pre_zero]; decide
  · rw [Dc.dec_pos h]
theorem pad_step_pos {x : Int} {t : List UInt8} (h : x ≠ 0) (h0 : 0 ≤ x) : padTo (7 - (Dc.ch (x % 10).toNat :: t).length) (Dc.pre (x / 10).toNat) ++ (Dc.ch (x % 10).toNat :: t) = padTo (7 - t.length) (Dc.pre x.toNat) ++ t := by
  have e : (x / 10).toNat = x.toNat / 10 := by omega
  have e2 : (x % 10).toNat = x.toNat % 10 := by omega
  rw [e, e2, Dc.pre_pos (n := x.toNat) (by omega)]
  unfold padTo
  simp only [List.length_append, List.length_cons, List.length_nil, List.append_assoc, List.cons_append, List.nil_append]
  rw [show 7 - (t.length + 1) - (Dc.pre (x.toNat / 10)).length = 7 - t.length - ((Dc.pre (x.toNat / 10)).length + (0 + 1)) by omega]
theorem pad_step_zero {t : List UInt8} (h : t.length < 7) : padTo (7 - ((48 : UInt8) :: t).length) (Dc.pre 0) ++ ((48 : UInt8) :: t) = padTo (7 - t.length) (Dc.pre 0) ++ t := by
  unfold padTo
  rw [Dc.pre_zero]
  simp only [List.length_cons, List.length_nil, List.append_nil, Nat.sub_zero]
  rw [show 7 - t.length = (7 - (t.length + 1)) + 1 by omega, List.replicate_succ']
  simp
theorem one_byte2 (W : World) (c : Int) (d : UInt8) (h : c = (d.toNat : Int)) : (convert 89 9 (.slice (some ⟨W.heap.size, 0, none⟩) 1 1)).run Tryd.prog (W.alloc (.cells #[.int .u8 c] 5)) = .ok (.string ⟨#[d]⟩) (W.alloc (.cells #[.int .u8 c] 5)) :=
  conv_text W.heap.size 0 [d] _ (fun j hj => by simp at hj; subst hj; rw [h]; simp [go_sem])
/-- The state of digits' loop: x is left, the digits t stand. -/
structure DgInv (w wr : World) (x : Int) (P t : List UInt8) : Prop where
  m : Box3 wr w.heap.size (.int .u64 (mh x)) (.int .u64 (ml x)) (.bool (mo x))
  x0 : 0 ≤ x
  x1 : x < 340282366920938463463374607431768211456
  dig : padTo (7 - t.length) (Dc.pre x.toNat) ++ t = P
  below : Below w.heap.size w wr
theorem DgInv.len {w wr : World} {x : Int} {P t : List UInt8} (h : DgInv w wr x P t) : t.length ≤ P.length := by
  rw [← h.dig]; simp
theorem DgInv.next {w wr : World} {x : Int} {P t : List UInt8} (h : DgInv w wr x P t) (q : x ≠ 0 ∨ t.length < 7) : padTo (7 - (Dc.ch (x % 10).toNat :: t).length) (Dc.pre (x / 10).toNat) ++ (Dc.ch (x % 10).toNat :: t) = P := by
  rw [← h.dig]
  by_cases z : x = 0
  · subst z
    rcases q with q | q
    · exact absurd rfl q
    · exact pad_step_zero q
  · exact pad_step_pos z h.x0
def memAmt (w : World) (b : Nat) : Int := match w.cell? ⟨b, 0, none⟩, w.cell? ⟨b, 1, none⟩ with | some (.int _ h), some (.int _ l) => V h l | _, _ => 0
def txtLen : Value → Nat | .string t => t.size | _ => 0
theorem mag_cases {x : Int} (x0 : 0 ≤ x) (x1 : x < 340282366920938463463374607431768211456) : x = V (mh x) (ml x) ∧ 0 ≤ mh x ∧ 0 ≤ ml x ∧ ml x < 18446744073709551616 := by
  have a := isLo_mh x; have b := isLo_ml x
  obtain ⟨_, _⟩ := a; obtain ⟨_, _⟩ := b
  refine ⟨?_, by omega, by omega, by omega⟩
  have := (V_mag x0 x1).1
  omega
set_option maxRecDepth 100000 in
set_option maxHeartbeats 8000000 in
theorem rdigits_spec (N : Int) (n0 : 0 ≤ N) (n1 : N < 340282366920938463463374607431768211456) (w : World) :
    Calls Tryd.prog 51 #[mgV N] w fun e w' => e = .returned (.string ⟨(pad7 (Dc.pre N.toNat)).toArray⟩) ∧ Below w.heap.size w w' := by
  obtain ⟨P, hP⟩ : ∃ P, P = pad7 (Dc.pre N.toNat) := ⟨_, rfl⟩
  have pl : P.length ≤ 50 := by
    have h1 := Dc.pre_length_le 39 N.toNat (by omega)
    rw [hP, pad7_len]; omega
  rw [← hP]
  have start := hide (show padTo (7 - ([] : List UInt8).length) (Dc.pre N.toNat) ++ [] = P by rw [hP]; unfold padTo pad7; simp)
  have NN := hide (And.intro n0 n1)
  clear hP n0 n1
  go_enter Tryd.func51, Tryd.ntmps51
  go_wp2_with fail
  go_loopw [3] (fun sv wr => ∃ (t : List UInt8) (x : Int), sv = .string ⟨t.toArray⟩ ∧ DgInv w wr x P t) (fun sv wr => (memAmt wr w.heap.size).toNat + (7 - txtLen sv))
  case atStart =>
    refine ⟨[], N, rfl, ⟨⟨?_, ?_, ?_, ?_, ?_, ?_, ?_⟩, NN.out.1, NN.out.2, start.out, ?_⟩⟩
    all_goals first | (go_grown; done) | (simp [go_sem]; done) | (simp; done) | (simp; omega)
  case round =>
    obtain ⟨t, x, rfl, inv⟩ := hrel
    have I := hide inv
    clear inv
    have tl := I.out.len
    have tb : t.length ≤ 50 := by omega
    obtain ⟨xe, h0, l0, l1⟩ := mag_cases I.out.x0 I.out.x1
    obtain ⟨a0, a1, a2, f0, f1, f2, fz⟩ := I.out.m
    have BL := hide I.out.below
    by_cases go : x ≠ 0 ∨ t.length < 7
    · have NX := hide (I.out.next go)
      have X01 := hide (And.intro I.out.x0 I.out.x1)
      have kb := by_mg x 10 I.out.x0 I.out.x1 (by omega) (by omega)
      obtain ⟨r, hr⟩ : ∃ r : Int, r = x % 10 := ⟨_, rfl⟩
      obtain ⟨y, hy⟩ : ∃ y : Int, y = x / 10 := ⟨_, rfl⟩
      have MS : Hid (memAmt wr w.heap.size = x) := by
        show memAmt wr w.heap.size = x
        unfold memAmt; rw [a0, a1]; exact xe.symm
      have MS2 : Hid (y.toNat + (7 - (t.length + 1)) < x.toNat + (7 - t.length) ∧ 0 ≤ y ∧ y < 340282366920938463463374607431768211456 ∧ V (mh y) (ml y) = y) := by
        have := I.out.x0; have := I.out.x1
        refine ⟨by omega, by omega, by omega, ?_⟩
        exact (mag_cases (by omega) (by omega)).1.symm
      rw [← hr, ← hy] at kb NX
      have r0 : 0 ≤ r := by omega
      have r1 : r < 10 := by omega
      obtain ⟨c, hcc⟩ : ∃ c : Int, c = ((Dc.ch r.toNat).toNat : Int) := ⟨_, rfl⟩
      have c1 : 48 + r = c := by rw [hcc, Dc.ch_toNat (by omega)]; omega
      have c2 : c % 256 = c := by omega
      have c3 : IntKind.u8.wrap c = c := by rw [IntKind.wrap_u8]; omega
      have ob := fun W => one_byte2 W c (Dc.ch r.toNat) hcc
      have cat : ∀ w, (Op.stringOp .add ⟨#[Dc.ch r.toNat]⟩ ⟨t.toArray⟩).run Tryd.prog w = .ok (.string ⟨(Dc.ch r.toNat :: t).toArray⟩) w := fun w => run_string_add_lists w [Dc.ch r.toNat] t (by simp) (by omega)
      have gg : 0 < mh x ∨ (¬ 0 < mh x ∧ 0 < ml x) ∨ (¬ 0 < mh x ∧ ¬ 0 < ml x ∧ (t.length : Int) < 7) := by
        unfold V at xe
        rcases go with g | g <;> omega
      have EQS := hide (show mgV x = magV (mh x) (ml x) (mo x) ∧ mgV y = magV (mh y) (ml y) (mo y) from ⟨rfl, rfl⟩)
      unfold mgV at kb
      clear hr hy hcc xe I go X01
      generalize mh x = p1 at *
      generalize ml x = p0 at *
      generalize mo x = po at *
      obtain ⟨q1, e1⟩ : ∃ q, q = mh y := ⟨_, rfl⟩
      obtain ⟨q0, e0⟩ : ∃ q, q = ml y := ⟨_, rfl⟩
      obtain ⟨qo, e2⟩ : ∃ q, q = mo y := ⟨_, rfl⟩
      rw [← e1, ← e0, ← e2] at kb
      have QE := hide (And.intro e1 (And.intro e0 e2))
      clear e1 e0 e2 EQS
      rcases gg with g1 | ⟨g1, g2⟩ | ⟨g1, g2, g3⟩
      all_goals
        go_wp2_with fail
        refine (kb _).mono ?_
        clear kb
        rintro e w2 ⟨rfl, h2⟩
        have M2 := hide (Box3.later ⟨a0, a1, a2, f0, f1, f2, fz⟩ h2)
        have B2 := hide (BL.out.trans (h2.mono BL.out.size))
        have ob2 : ∀ o : Obj, (convert 89 9 (.slice (some ⟨w2.heap.size + 1, 0, none⟩) 1 1)).run Tryd.prog ((w2.alloc o).alloc (.cells #[.int .u8 c] 5)) = .ok (.string ⟨#[Dc.ch r.toNat]⟩) ((w2.alloc o).alloc (.cells #[.int .u8 c] 5)) := fun o => by
          have h := ob (w2.alloc o)
          rwa [show (w2.alloc o).heap.size = w2.heap.size + 1 by simp] at h
        clear h2 a0 a1 a2 f0 f1 f2 fz ob
        obtain ⟨a0, a1, a2, f0, f1, f2, fz⟩ := M2.out
        have wz : w.heap.size < w2.heap.size := fz
        have wz1 : w.heap.size ≤ w2.heap.size := by omega
        go_wp2_with fail
        go_roundw
        case rel =>
          refine ⟨_, y, rfl, ?_⟩
          refine ⟨⟨?_, ?_, ?_, ?_, ?_, ?_, ?_⟩, MS2.out.2.1, MS2.out.2.2.1, NX.out, ?_⟩
          all_goals first | (rw [← QE.out.1]; simp [go_sem, a0, a1, a2, wz]; done) | (rw [← QE.out.2.1]; simp [go_sem, a0, a1, a2, wz]; done) | (rw [← QE.out.2.2]; simp [go_sem, a0, a1, a2, wz]; done) | (simp [go_sem, f0, f1, f2, wz]; done) | (simp; omega) | (have := B2.out; go_grown; done)
        case measure =>
          rw [MS.out]
          have h := MS2.out.1
          have hv := MS2.out.2.2.2
          rw [← QE.out.1, ← QE.out.2.1] at hv
          simp [memAmt, txtLen, go_sem, a0, a1, a2, wz, ByteArray.size, hv]
          omega
    · have z : x = 0 := Decidable.byContradiction fun h => go (.inl h)
      have z7 : ¬ (t.length : Int) < 7 := fun h => go (.inr (by omega))
      have D : Hid (P = t) := by
        show P = t
        have d := I.out.dig
        rw [z, show ((0:Int)).toNat = 0 from rfl, Dc.pre_zero] at d
        rw [← d]
        unfold padTo
        rw [show 7 - t.length = 0 by omega]
        simp
      have g1 : ¬ 0 < mh x := by rw [z]; decide
      have g2 : ¬ 0 < ml x := by rw [z]; decide
      clear z I xe go NN start
      generalize mh x = p1 at *
      generalize ml x = p0 at *
      generalize mo x = po at *
      go_wp2_with fail
      go_returns
      exact ⟨by rw [D.out]; rfl, BL.out⟩
end Go.Proofs.YtdjehbagnkfkpaaDoor
