/- wide: Print. -/
import Derived.Test.YtdjehbagnkfkpaaDoorDivby
import Derived.Test.YtdjehbagnkfkpaaDoorWsig
import Derived.Test.YtdjehbagnkfkpaaDoorHid
import Derived.Test.YtdjehbagnkfkpaaDoorDec
import Derived.Laws.BytesString
namespace Go.Proofs.YtdjehbagnkfkpaaDoor
set_option linter.unusedVariables false
open Go.RowKit W
/-- A number's text. -/
def txt (v : Int) : List UInt8 := if v < 0 then 45 :: Dc.dec v.natAbs else Dc.dec v.natAbs
theorem eq0_no (n : Nat) (y : Int) (w : World) : (Op.equalIn 10000 99 (.agg #[.int .u64 ((n + 1 : Nat) : Int), .int .u64 y]) (.agg #[.int .u64 0, .int .u64 0])).run Tryd.prog w = .ok false w := by kernel_rfl
theorem eq0_low (n : Nat) (w : World) : (Op.equalIn 10000 99 (.agg #[.int .u64 0, .int .u64 ((n + 1 : Nat) : Int)]) (.agg #[.int .u64 0, .int .u64 0])).run Tryd.prog w = .ok false w := by kernel_rfl
theorem eq0_yes (w : World) : (Op.equalIn 10000 99 (.agg #[.int .u64 0, .int .u64 0]) (.agg #[.int .u64 0, .int .u64 0])).run Tryd.prog w = .ok true w := by kernel_rfl
theorem eq0 (x y : Int) (i : IsLo x) (j : IsLo y) (h : V y x ≠ 0) (w : World) : (Op.equalIn 10000 99 (.agg #[.int .u64 x, .int .u64 y]) (.agg #[.int .u64 0, .int .u64 0])).run Tryd.prog w = .ok false w := by
  obtain ⟨n, rfl⟩ := Int.eq_ofNat_of_zero_le i.a
  obtain ⟨m, rfl⟩ := Int.eq_ofNat_of_zero_le j.a
  rcases n with _ | n
  · rcases m with _ | m
    · exact absurd rfl h
    · exact eq0_low m w
  · exact eq0_no n _ w
/-- The state of Print's loop: M is left, l is written. -/
structure PInv (w wr : World) (b : Nat) (M : Int) (l : List UInt8) : Prop where
  c0 : wr.cell? ⟨b, 0, none⟩ = some (.int .u64 (lo M))
  c1 : wr.cell? ⟨b, 1, none⟩ = some (.int .u64 (hi M))
  f0 : wr.frozen? ⟨b, 0, none⟩ = false
  f1 : wr.frozen? ⟨b, 1, none⟩ = false
  row : ∀ j, j < 40 → ∃ v, wr.cell? ⟨b + 1, j, none⟩ = some (.int .u8 v)
  free : ∀ j, wr.frozen? ⟨b + 1, j, none⟩ = false
  text : ∀ j, j < l.length → wr.cell? ⟨b + 1, 40 - l.length + j, none⟩ = some (.int .u8 ((l.getD j 0).toNat : Int))
  lt : b + 1 < wr.heap.size
  ge : w.heap.size ≤ b
  below : Below w.heap.size w wr
theorem PInv.later {w wr w' : World} {b : Nat} {M : Int} {l : List UInt8} (h : PInv w wr b M l) (k : Below wr.heap.size wr w') : PInv w w' b M l :=
  ⟨(k.cell (p := ⟨b, 0, none⟩) (by have := h.lt; show b < _; omega)).trans h.c0, (k.cell (p := ⟨b, 1, none⟩) (by have := h.lt; show b < _; omega)).trans h.c1,
   (k.frozen (p := ⟨b, 0, none⟩) (by have := h.lt; show b < _; omega)).trans h.f0, (k.frozen (p := ⟨b, 1, none⟩) (by have := h.lt; show b < _; omega)).trans h.f1,
   fun j hj => by obtain ⟨v, hv⟩ := h.row j hj; exact ⟨v, (k.cell (p := ⟨b + 1, j, none⟩) h.lt).trans hv⟩, fun j => (k.frozen (p := ⟨b + 1, j, none⟩) h.lt).trans (h.free j),
   fun j hj => (k.cell (p := ⟨b + 1, 40 - l.length + j, none⟩) h.lt).trans (h.text j hj), Nat.lt_of_lt_of_le h.lt k.size, h.ge, h.below.trans (k.mono h.below.size)⟩
/-- The text with one byte more ahead. -/
theorem text_cons {w w' : World} {b n : Nat} {l : List UInt8} {c : UInt8} (hn : n + 1 + l.length = 40) (h : ∀ j, j < l.length → w.cell? ⟨b, 40 - l.length + j, none⟩ = some (.int .u8 ((l.getD j 0).toNat : Int)))
    (h0 : w'.cell? ⟨b, n, none⟩ = some (.int .u8 (c.toNat : Int))) (ho : ∀ j, j ≠ n → w'.cell? ⟨b, j, none⟩ = w.cell? ⟨b, j, none⟩) :
    ∀ j, j < (c :: l).length → w'.cell? ⟨b, 40 - (c :: l).length + j, none⟩ = some (.int .u8 (((c :: l).getD j 0).toNat : Int)) := by
  intro j hj
  rw [List.length_cons] at hj ⊢
  have e : 40 - (l.length + 1) = n := by omega
  rw [e]
  rcases j with _ | j
  · simpa using h0
  · rw [ho _ (by omega)]
    have := h j (by omega)
    rw [show 40 - l.length = n + 1 by omega] at this
    rw [show n + (j + 1) = n + 1 + j by omega]
    simpa using this
theorem co (w : World) (b o b' o' : Nat) (v : Value) (h : b ≠ b' ∨ o ≠ o') : (w.setCell ⟨b, o, none⟩ v).cell? ⟨b', o', none⟩ = w.cell? ⟨b', o', none⟩ := World.cell?_setCell_other w _ _ v (by intro e; simp at e; omega)
theorem PInv.put {w v : World} {b n : Nat} {M M' : Int} {l : List UInt8} {c : UInt8} (h : PInv w v b M l) (hn : n + 1 + l.length = 40) :
    PInv w (((v.setCell ⟨b, 0, none⟩ (.int .u64 (lo M'))).setCell ⟨b, 1, none⟩ (.int .u64 (hi M'))).setCell ⟨b + 1, n, none⟩ (.int .u8 (c.toNat : Int))) b M' (c :: l) := by
  have lt := h.lt
  have lb : b < v.heap.size := by omega
  obtain ⟨x, hx⟩ := h.row n (by omega)
  have hw : ∀ j, ((v.setCell ⟨b, 0, none⟩ (.int .u64 (lo M'))).setCell ⟨b, 1, none⟩ (.int .u64 (hi M'))).cell? ⟨b + 1, j, none⟩ = v.cell? ⟨b + 1, j, none⟩ := fun j =>
    (co _ _ _ _ _ _ (by omega)).trans (co _ _ _ _ _ _ (by omega))
  have ho : ∀ j, j ≠ n → (((v.setCell ⟨b, 0, none⟩ (.int .u64 (lo M'))).setCell ⟨b, 1, none⟩ (.int .u64 (hi M'))).setCell ⟨b + 1, n, none⟩ (.int .u8 (c.toNat : Int))).cell? ⟨b + 1, j, none⟩ = v.cell? ⟨b + 1, j, none⟩ := fun j hj =>
    (co _ _ _ _ _ _ (by omega)).trans (hw j)
  have h0 : (((v.setCell ⟨b, 0, none⟩ (.int .u64 (lo M'))).setCell ⟨b, 1, none⟩ (.int .u64 (hi M'))).setCell ⟨b + 1, n, none⟩ (.int .u8 (c.toNat : Int))).cell? ⟨b + 1, n, none⟩ = some (.int .u8 (c.toNat : Int)) := by
    refine World.cell?_setCell_same' _ _ _ ?_; rw [hw, hx]; rfl
  refine ⟨?_, ?_, ?_, ?_, ?_, ?_, text_cons hn h.text h0 ho, by simpa [World.setCell] using lt, h.ge, ?_⟩
  · refine (co _ _ _ _ _ _ (by omega)).trans ((co _ _ _ _ _ _ (by omega)).trans ?_)
    refine World.cell?_setCell_same' _ _ _ ?_; rw [h.c0]; rfl
  · refine (co _ _ _ _ _ _ (by omega)).trans ?_
    refine World.cell?_setCell_same' _ _ _ ?_; rw [co _ _ _ _ _ _ (.inr (by omega : (0:Nat) ≠ 1)), h.c1]; rfl
  · simp [go_sem, h.f0]
  · simp [go_sem, h.f1]
  · intro j hj
    by_cases e : j = n
    · subst e; exact ⟨_, h0⟩
    · rw [ho j e]; exact h.row j hj
  · intro j; simp [go_sem, h.free j]
  · exact ((h.below.setCell h.ge _).setCell h.ge _).setCell (by show w.heap.size ≤ b + 1; have := h.ge; omega) _
theorem conv_text (b o : Nat) (l : List UInt8) (w : World) (h : ∀ j, j < l.length → w.cell? ⟨b, o + j, none⟩ = some (.int .u8 ((l.getD j 0).toNat : Int))) :
    (convert 89 9 (.slice (some ⟨b, o, none⟩) l.length l.length)).run Tryd.prog w = .ok (.string ⟨l.toArray⟩) w :=
  run_convert_bytes_back w 89 9 5 ⟨b, o, none⟩ l.length l Tryd.underlying89 Tryd.underlying5 Tryd.underlying9 (fun j hj => by
    have e : (⟨b, o, none⟩ : Addr).add j = ⟨b, o + j, none⟩ := by unfold Addr.add; split <;> simp_all
    rw [e, h j hj]; simp [List.getD_eq_getElem?_getD, List.getElem?_eq_getElem hj])
theorem conv_inv {w W : World} {b n : Nat} {M : Int} {l : List UInt8} (h : PInv w W b M l) (hn : n + l.length = 40) :
    (convert 89 9 (.slice (some ⟨b + 1, n, none⟩) (40 - n) (40 - n))).run Tryd.prog W = .ok (.string ⟨l.toArray⟩) W := by
  have e : 40 - n = l.length := by omega
  rw [e]
  refine conv_text (b + 1) n l W fun j hj => ?_
  have := h.text j hj
  rwa [show 40 - l.length = n by omega] at this
theorem PInv.dash {w v : World} {b n : Nat} {M : Int} {l : List UInt8} (h : PInv w v b M l) (hn : n + 1 + l.length = 40) : PInv w (v.setCell ⟨b + 1, n, none⟩ (.int .u8 45)) b M (45 :: l) := by
  obtain ⟨x, hx⟩ := h.row n (by omega)
  have lt := h.lt
  have ho : ∀ j, j ≠ n → (v.setCell ⟨b + 1, n, none⟩ (.int .u8 45)).cell? ⟨b + 1, j, none⟩ = v.cell? ⟨b + 1, j, none⟩ := fun j hj => co _ _ _ _ _ _ (by omega)
  have h0 : (v.setCell ⟨b + 1, n, none⟩ (.int .u8 45)).cell? ⟨b + 1, n, none⟩ = some (.int .u8 ((45 : UInt8).toNat : Int)) := by
    refine World.cell?_setCell_same' _ _ _ ?_; rw [hx]; rfl
  refine ⟨(co _ _ _ _ _ _ (by omega)).trans h.c0, (co _ _ _ _ _ _ (by omega)).trans h.c1, ?_, ?_, ?_, ?_, text_cons hn h.text h0 ho, by simpa [World.setCell] using lt, h.ge, h.below.setCell (by show w.heap.size ≤ b + 1; have := h.ge; omega) _⟩
  · simp [go_sem, h.f0]
  · simp [go_sem, h.f1]
  · intro j hj
    by_cases e : j = n
    · subst e; exact ⟨_, h0⟩
    · rw [ho j e]; exact h.row j hj
  · intro j; simp [go_sem, h.free j]
theorem len40 : Tryd.prog.arrayLen 105 = 40 := by kernel_rfl
theorem size40 (w : World) : (sizeOf (Tryd.prog.elem 105)).run Tryd.prog w = .ok 1 w := by kernel_rfl
theorem slice_text (b n : Nat) (hn : n ≤ 39) (w : World) : (Instr.sliceAt 105 (.pointer (some ⟨b, 0, none⟩)) (some (.int .i64 (n : Int))) none none).run Tryd.prog w = .ok (.slice (some ⟨b, n, none⟩) (40 - n) (40 - n)) w := by
  have h := run_sliceAt_array_l (P := Tryd.prog) w 105 ⟨b, 0, none⟩ (by kernel_rfl) .i64 (n : Int) (by omega) (by rw [len40]; omega)
  rw [h, size40, len40]
  have e : (⟨b, 0, none⟩ : Addr).add n = ⟨b, n, none⟩ := by unfold Addr.add; split <;> simp_all
  have n4 : ¬ 40 = n := by omega
  simp [Result.andThen, slicedAt, n4, e]
theorem dec_step {N : Nat} {M : Int} {l : List UInt8} (m0 : 0 ≤ M) (h : Dc.dec N = Dc.dec M.toNat ++ l) (q : M / 10 ≠ 0) : Dc.dec N = Dc.dec (M / 10).toNat ++ Dc.ch (M % 10).toNat :: l := by
  have e : (M / 10).toNat = M.toNat / 10 := by omega
  have e2 : (M % 10).toNat = M.toNat % 10 := by omega
  rw [h, Dc.dec_last M.toNat, e, e2, Dc.dec_pos (by omega)]; simp
theorem dec_stop {N : Nat} {M : Int} {l : List UInt8} (m0 : 0 ≤ M) (h : Dc.dec N = Dc.dec M.toNat ++ l) (q : M / 10 = 0) : Dc.dec N = Dc.ch (M % 10).toNat :: l := by
  have e2 : (M % 10).toNat = M.toNat % 10 := by omega
  rw [h, Dc.dec_last M.toNat, show M.toNat / 10 = 0 by omega, Dc.pre_zero, e2]; simp
theorem dec_len {N : Nat} (h : N < 10 ^ 39) : (Dc.dec N).length ≤ 39 := by
  unfold Dc.dec; split
  · simp
  · exact Dc.pre_length_le 39 N h
theorem dec_pos_len (N : Nat) : 1 ≤ (Dc.dec N).length := by rw [Dc.dec_last]; simp
set_option maxRecDepth 100000 in
set_option maxHeartbeats 8000000 in
theorem print_walk (a b : Int) (N : Nat) (v : Int) (neg : Bool) (hv : v = N) (hN : N < 10 ^ 39) (f : v < 340282366920938463463374607431768211456)
    (ka : ∀ w, Calls Tryd.prog 67 #[.agg #[.int .i64 a, .int .u64 b]] w fun e w' => e = .returned (.tuple #[.bool neg, .agg #[.int .u64 (lo v), .int .u64 (hi v)]]) ∧ Below w.heap.size w w') (w : World) :
    Calls Tryd.prog 40 #[.agg #[.int .i64 a, .int .u64 b]] w fun e w' => e = .returned (.string ⟨(if neg = true then 45 :: Dc.dec N else Dc.dec N).toArray⟩) ∧ Below w.heap.size w w' := by
  have HV := hide (And.intro hv (And.intro hN f))
  clear hv hN f
  go_enter Tryd.func40, Tryd.ntmps40
  go_wp2_with fail
  refine (ka _).mono ?_
  clear ka
  rintro e w1 ⟨rfl, h1⟩
  have B1 : Below w.heap.size w w1 := Below.trans (by go_grown) (h1.mono (by first | (simp; done) | omega | (simp; omega)))
  have y1 := B1.size
  clear h1
  go_wp2_with fail
  go_loopw [6, 7] (fun at_ dg wr => ∃ (n : Nat) (M : Int) (l : List UInt8), at_ = .int .i64 ((n : Int) + 1) ∧ n + 1 + l.length = 40 ∧ Hid (0 ≤ M ∧ M < 340282366920938463463374607431768211456 ∧ Dc.dec N = Dc.dec M.toNat ++ l) ∧ PInv w wr w1.heap.size M l) (fun at_ _ _ => (intOf at_).toNat)
  case atStart =>
    refine ⟨39, v, [], by go_num, by simp, ⟨by have := HV.out; omega, HV.out.2.2, by rw [HV.out.1]; simp⟩, ⟨?_, ?_, ?_, ?_, ?_, ?_, ?_, ?_, ?_, ?_⟩⟩
    case refine_5 =>
      intro j hj
      iterate 40 (rcases j with _ | j; · exact ⟨0, by simp [go_sem]⟩)
      omega
    case refine_7 => intro j hj; simp at hj
    all_goals first | (go_grown; done) | (simp [go_sem]; done) | (simp; done) | (simp; omega) | omega | (intro j; simp [go_sem]; done)
  case round =>
    obtain ⟨n, M, l, rfl, hn, hm, inv⟩ := hrel
    have I := hide inv
    clear inv
    have L38 : l.length ≤ 38 := by
      have h1 := dec_len HV.out.2.1
      have h2 := congrArg List.length hm.out.2.2
      have h3 := dec_pos_len M.toNat
      simp at h2; omega
    have i0 : IsLo (lo M) := isLo_lo M
    have i1 : IsLo (hi M) := ⟨by unfold hi; have := hm.out.1; omega, by unfold hi; have := hm.out.2.1; omega⟩
    have kd := divideBy_spec (hi M) (lo M) 10 i1 i0 ⟨by omega, by omega⟩ (by omega)
    rw [V_hi_lo] at kd
    obtain ⟨d, hd⟩ : ∃ d, d = M % 10 := ⟨_, rfl⟩
    have d0 : 0 ≤ d := by have := hm.out.1; omega
    have d1 : d < 10 := by omega
    have HD := hide hd
    rw [← hd] at kd
    clear hd
    obtain ⟨c, hc⟩ : ∃ c : Int, c = ((Dc.ch d.toNat).toNat : Int) := ⟨_, rfl⟩
    have c1 : 48 + d = c := by rw [hc, Dc.ch_toNat (by omega)]; omega
    have c2 : c % 256 = c := by omega
    have c3 : IntKind.u8.wrap c = c := by rw [IntKind.wrap_u8]; omega
    have HC := hide hc
    clear hc
    have cm := I.out.c0
    have cn := I.out.c1
    have fm := I.out.f0
    have fn := I.out.f1
    have lt := I.out.lt
    have zm : w1.heap.size < wr.heap.size := by omega
    obtain ⟨x0, hx0⟩ : ∃ x, x = lo M := ⟨_, rfl⟩
    obtain ⟨x1, hx1⟩ : ∃ x, x = hi M := ⟨_, rfl⟩
    rw [← hx0] at cm kd
    rw [← hx1] at cn kd
    clear hx0 hx1
    by_cases q : M / 10 = 0
    · have DS := hide (dec_stop hm.out.1 hm.out.2.2 q)
      rw [q, show lo 0 = 0 by decide, show hi 0 = 0 by decide] at kd
      have PP := fun (v : World) (h : PInv w v w1.heap.size M l) => PInv.put (M' := 0) (c := Dc.ch d.toNat) h hn
      rw [show lo 0 = 0 by decide, show hi 0 = 0 by decide, ← HC.out] at PP
      have qe := eq0_yes
      rw [← HD.out] at DS
      clear q hm i0 i1
      go_wp2_with fail
      refine (kd _).mono ?_
      clear kd
      rintro e w2 ⟨rfl, h2⟩
      have I2 := hide (PP _ (I.out.later h2))
      have J := I.out.later h2
      obtain ⟨xx, hxx⟩ := J.row n (by omega)
      have fxx := J.free n
      have lt2 := J.lt
      obtain ⟨y0, y1', y2, y3, _, _, _, _, _, _⟩ := J
      have z2 : w1.heap.size < w2.heap.size := by omega
      clear PP I h2 cm cn fm fn lt zm
      cases neg
      · have cv := conv_inv I2.out (n := n) (by simp; omega)
        have CV := hide cv
        have BL := hide I2.out.below
        clear cv I2
        have nb : n ≤ 39 := by omega
        go_upto_region 12 with (fail)
        have cv := CV.out
        have sl := slice_text (w1.heap.size + 1) n nb
        go_wp2_with fail
        go_returns
        exact ⟨by rw [DS.out]; rfl, BL.out⟩
      · have n1 : 1 ≤ n := by omega
        obtain ⟨m, rfl⟩ : ∃ m, n = m + 1 := ⟨n - 1, by omega⟩
        have I3 := hide (PInv.dash I2.out (n := m) (by simp; omega))
        have cv := conv_inv I3.out (n := m) (by simp; omega)
        obtain ⟨xy, hxy⟩ := I2.out.row m (by omega)
        have fxy := I2.out.free m
        have CV := hide cv
        have HXY := hide (And.intro hxy fxy)
        have BL := hide I3.out.below
        clear cv I2 I3 hxy fxy
        have nb : m ≤ 38 := by omega
        have em : ((m + 1 : Nat) : Int) - 1 = m := by omega
        go_upto_region 11 with (fail)
        obtain ⟨hxy, fxy⟩ := HXY.out
        go_upto_region 12 with (fail)
        have cv := CV.out
        have sl := slice_text (w1.heap.size + 1) m (by omega)
        go_wp2_with fail
        go_returns
        exact ⟨by rw [DS.out]; rfl, BL.out⟩
    · have DS := hide (dec_step hm.out.1 hm.out.2.2 q)
      have qe := fun w => eq0 (lo (M / 10)) (hi (M / 10)) (isLo_lo _) ⟨by unfold hi; have := hm.out.1; omega, by unfold hi; have := hm.out.2.1; omega⟩ (by rw [V_hi_lo]; exact q) w
      have PP := fun (v : World) (h : PInv w v w1.heap.size M l) => PInv.put (M' := M / 10) (c := Dc.ch d.toNat) h hn
      have HM : Hid (0 ≤ M / 10 ∧ M / 10 < 340282366920938463463374607431768211456) := ⟨by have := hm.out.1; omega, by have := hm.out.1; have := hm.out.2.1; omega⟩
      rw [← HC.out] at PP
      rw [← HD.out] at DS
      generalize lo (M / 10) = q0 at *
      generalize hi (M / 10) = q1 at *
      clear q hm i0 i1
      go_wp2_with fail
      refine (kd _).mono ?_
      clear kd
      rintro e w2 ⟨rfl, h2⟩
      have I2 := hide (PP _ (I.out.later h2))
      have J := I.out.later h2
      obtain ⟨xx, hxx⟩ := J.row n (by omega)
      have fxx := J.free n
      have lt2 := J.lt
      obtain ⟨y0, y1', y2, y3, _, _, _, _, _, _⟩ := J
      have z2 : w1.heap.size < w2.heap.size := by omega
      clear PP I h2 cm cn fm fn lt zm
      go_wp2_with fail
      go_roundw
      case rel => exact ⟨n - 1, _, _, by go_num, by simp; omega, ⟨HM.out.1, HM.out.2, DS.out⟩, I2.out⟩
      case measure => simp [intOf]
theorem print_spec (a b : Int) (i : IsW (a, b)) (w : World) :
    Calls Tryd.prog 40 #[.agg #[.int .i64 a, .int .u64 b]] w fun e w' => e = .returned (.string ⟨(txt (V a b)).toArray⟩) ∧ Below w.heap.size w w' := by
  have ka := amount_spec a b i.b i.a
  have f : 0 ≤ ab (V a b) ∧ ab (V a b) ≤ 170141183460469231731687303715884105728 := ab_le (fits_V i.a i.b)
  rw [neg_hi i] at ka
  have e : ab (V a b) = ((V a b).natAbs : Int) := by unfold ab; split <;> omega
  have h := print_walk a b (V a b).natAbs (ab (V a b)) (decide (V a b < 0)) e (by omega) (by omega) ka w
  have t : txt (V a b) = if decide (V a b < 0) = true then 45 :: Dc.dec (V a b).natAbs else Dc.dec (V a b).natAbs := by unfold txt; simp
  rw [t]; exact h
end Go.Proofs.YtdjehbagnkfkpaaDoor
