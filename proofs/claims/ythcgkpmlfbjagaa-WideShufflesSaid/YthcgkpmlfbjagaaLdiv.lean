/- The reference of layer 1: divL. -/
import Derived.Test.YthcgkpmlfbjagaaLmul
namespace Go.Proofs.Ythcgkpmlfbjagaa
set_option linter.unusedVariables false
open Go.RowKit W Lb
theorem u32_bit (x : Int) (a : 0 ≤ x) (b : x < 4294967296) : bits .and .u32 x 1 = x % 2 := by
  rw [u32_and x 1 a b (by omega) (by omega)]
  obtain ⟨m, rfl⟩ := Int.eq_ofNat_of_zero_le a
  have : ((m : Int).toNat &&& (1 : Int).toNat) = m % 2 := by show m &&& 1 = m % 2; exact Nat.and_one_is_mod m
  rw [this]; omega
theorem p2_le (s : Nat) (h : s < 16) : p2 s ≤ 32768 := by
  have : p2 s ≤ p2 15 := by
    have e : p2 15 = p2 s * p2 (15 - s) := by rw [← p2_add]; congr 1; omega
    have a := p2_pos s; have b := p2_pos (15 - s)
    rw [e]
    have : p2 s * 1 ≤ p2 s * p2 (15 - s) := Int.mul_le_mul_of_nonneg_left (by omega) (by omega)
    omega
  exact Int.le_trans this (by decide)
theorem u32_join (z : Int) (s : Nat) (hs : s < 16) (a : 0 ≤ z) (b : z < 65536) (h : z % p2 (s + 1) = 0) : bits .or .u32 z (p2 s) = z + p2 s ∧ z + p2 s < 65536 := by
  have pl := p2_le s hs
  have pp := p2_pos s
  have e1 : p2 (s + 1) = 2 * p2 s := rfl
  obtain ⟨t, ht⟩ := Int.dvd_of_emod_eq_zero h
  rw [e1] at ht
  have t0 : 0 ≤ t := by
    apply Decidable.byContradiction; intro g
    have : 2 * p2 s * t ≤ 2 * p2 s * (-1) := Int.mul_le_mul_of_nonneg_left (by omega) (by omega)
    omega
  have lt : z + p2 s < 65536 := by
    have e : (65536 : Int) = 2 * p2 s * p2 (15 - s) := by
      have : p2 (s + 1) * p2 (15 - s) = p2 16 := by rw [← p2_add]; congr 1; omega
      rw [← p2_16, ← this]; rfl
    have : t < p2 (15 - s) := by
      apply Decidable.byContradiction; intro g
      have : 2 * p2 s * p2 (15 - s) ≤ 2 * p2 s * t := Int.mul_le_mul_of_nonneg_left (by omega) (by omega)
      omega
    have : 2 * p2 s * (t + 1) ≤ 2 * p2 s * p2 (15 - s) := Int.mul_le_mul_of_nonneg_left (by omega) (by omega)
    rw [Int.mul_add] at this
    omega
  refine ⟨?_, lt⟩
  rw [u32_or z (p2 s) a (by omega) (by omega) (by omega)]
  obtain ⟨n, rfl⟩ := Int.eq_ofNat_of_zero_le t0
  have ep : p2 s = ((2 ^ s : Nat) : Int) := by rw [p2_pow]; simp
  have ez : z = ((2 ^ (s + 1) * n : Nat) : Int) := by rw [ht, ep]; simp [Nat.pow_succ]; rw [Int.mul_comm 2]
  rw [ez, ep]
  have hj := Nat.two_pow_add_eq_or_of_lt (i := s + 1) (b := 2 ^ s) (Nat.pow_lt_pow_right (by omega) (by omega)) n
  show ((2 ^ (s + 1) * n ||| 2 ^ s : Nat) : Int) = _
  rw [← hj]; simp
/-- The state of a division by bits: m bits are left; v is what is left, Q the quotient so far. -/
structure DivAt (w wr : World) (la : List Int) (B : Int) (n m : Nat) (v : Value) (o : List Int) (lr : List Int) (Q R : Int) : Prop where
  row : Row w wr w.heap.size n o
  lim : Limbs wr v lr
  mag : Mag lr R
  fr : Fresh (w.heap.size + 1) v
  lt : R < B
  mm : m ≤ 16 * n
  eq : val la / p2 m = Q * B + R
  q : val o = Q * p2 m
theorem Limbs.other {w : World} {v : Value} {l : List Int} (h : Limbs w v l) {g i : Nat} (f : Fresh (g + 1) v) (x : Value) : Limbs (w.setCell ⟨g, i, none⟩ x) v l := by
  rcases h with h | ⟨b, o, cap, rfl, hc, hb, ⟨k, hs⟩, h⟩
  · exact .inl h
  · have ge := f _ _ _ rfl
    have ne : b ≠ g := by show b ≠ g; have : g + 1 ≤ b := ge; omega
    refine .inr ⟨b, o, cap, rfl, hc, by simpa [World.setCell] using hb, ⟨k, by rw [shape_set]; exact hs⟩, fun j hj => ?_⟩
    rw [← h j hj]
    exact World.cell?_of_block (w := w) (Below.heap_setCell w _ x b ne)
theorem Row.later {w wr w' : World} {g n : Nat} {o : List Int} (h : Row w wr g n o) (k : Below wr.heap.size wr w') : Row w w' g n o := by
  have lt := h.lt
  obtain ⟨⟨hl, hr⟩, ok, len, ge, bl⟩ := h
  refine ⟨⟨hl, ?_⟩, ok, len, ge, bl.trans (k.mono bl.size)⟩
  rcases hr with ⟨e, _⟩ | ⟨g', c, cur, e, hb, hg, rest⟩
  · simp at e
  · refine .inr ⟨g', c, cur, e, hb, ?_, rest⟩
    simp only [Value.slice.injEq, Option.some.injEq, Addr.mk.injEq, and_true, true_and] at e
    obtain ⟨rfl, _⟩ := e
    rw [k.block g lt]; exact hg
theorem Row.dr {w wr : World} {g n : Nat} {o : List Int} (h : Row w wr g n o) (q : Nat) : Row w (wr.drewN q) g n o := ⟨h.own, h.ok, h.len, h.ge, below_drewN h.below q⟩
/-- The limb that a bit is laid into. -/
theorem div_limb {o : List Int} {Q : Int} {k n : Nat} (ok : Ok o) (hl : o.length = n) (hk : k < 16 * n) (q : val o = Q * p2 (k + 1)) :
    (o.getD (k / 16) 0) % p2 (k % 16 + 1) = 0 ∧ val (o.set (k / 16) (o.getD (k / 16) 0 + p2 (k % 16))) = (2 * Q + 1) * p2 k := by
  have s16 : k % 16 < 16 := by omega
  have e1 : p2 (k + 1) = pw (k / 16) * p2 (k % 16 + 1) := by rw [← p2_pw, ← p2_add]; congr 1; omega
  have e0 : p2 k = pw (k / 16) * p2 (k % 16) := by rw [← p2_pw, ← p2_add]; congr 1; omega
  constructor
  · rw [at_val ok, q, e1]
    have pp := pw_pos (k / 16)
    have : Q * (pw (k / 16) * p2 (k % 16 + 1)) / pw (k / 16) = Q * p2 (k % 16 + 1) := by
      rw [show Q * (pw (k / 16) * p2 (k % 16 + 1)) = Q * p2 (k % 16 + 1) * pw (k / 16) by grind]
      exact Int.mul_ediv_cancel _ (by omega)
    rw [this]
    have d : p2 (k % 16 + 1) ∣ 65536 := ⟨p2 (15 - k % 16), by rw [← p2_add, ← p2_16]; congr 1; omega⟩
    rw [Int.emod_emod_of_dvd _ d]
    exact Int.mul_emod_left _ _
  · rw [val_set _ _ (by omega), q]
    have : p2 (k + 1) = 2 * p2 k := rfl
    rw [this, e0]
    generalize o.getD (k / 16) 0 = z
    grind
theorem div_bit {la : List Int} (ok : Ok la) (k : Nat) : 0 ≤ la.getD (k / 16) 0 / p2 (k % 16) ∧ la.getD (k / 16) 0 / p2 (k % 16) < 65536 ∧ la.getD (k / 16) 0 / p2 (k % 16) % 2 = val la / p2 k % 2 := by
  obtain ⟨a, b⟩ := ok_at ok (k / 16)
  have p := p2_pos (k % 16)
  refine ⟨Int.ediv_nonneg a (by omega), ?_, bit_val ok k⟩
  have := Int.ediv_le_self (p2 (k % 16)) a
  omega
def DivPost (w : World) (A B : Int) (e : Ending) (w' : World) : Prop := ∃ v1 l1 v2 l2, e = .returned (.tuple #[v1, v2]) ∧ Limbs w' v1 l1 ∧ Mag l1 (A / B) ∧ Limbs w' v2 l2 ∧ Mag l2 (A % B) ∧ Below w.heap.size w w'
theorem two_p2 {x Q : Int} {k : Nat} (h : x = Q * p2 (k + 1)) : x = 2 * Q * p2 k := by
  rw [h]; show Q * (2 * p2 k) = _; grind
theorem more_q {x Q B y : Int} (h : x = 2 * Q * B + y) : x = (2 * Q + 1) * B + (y - B) := by grind
theorem div_end {A B Q R : Int} (b : 0 < B) (r0 : 0 ≤ R) (r : R < B) (h : A = Q * B + R) : A / B = Q ∧ A % B = R := by
  have e : A / B = Q := by
    rw [h, Int.mul_comm Q B, Int.mul_add_ediv_left _ _ (by omega), Int.ediv_eq_zero_of_lt r0 r]; omega
  refine ⟨e, ?_⟩
  have := Int.emod_add_mul_ediv A B
  rw [e] at this
  rw [Int.mul_comm] at this
  omega
theorem few_lt {l : List Int} {R B : Int} {lb : List Int} (h : Mag l R) (m : Mag lb B) (lt : R < 2 * B + 1) : l.length ≤ lb.length + 1 := by
  apply h.len
  have := m.val
  have := val_lt m.ok
  show R < 65536 * pw lb.length
  have := pw_pos lb.length
  omega
set_option maxRecDepth 100000 in
set_option maxHeartbeats 8000000 in
theorem divL_some (b o cap : Nat) (q : Option Addr) (cb n : Nat) (la lb : List Int) (B : Int) (w : World) (hn : n = la.length) (na : n ≤ 100) (nb : lb.length ≤ 100) (oa : Ok la) (mb : Mag lb B) (pb : 0 < B) (hb : b < w.heap.size)
    (ha : ∀ k, k < n → w.cell? ⟨b, o + k, none⟩ = some (.int .u32 (la.getD k 0))) (Hb : Limbs w (.slice q lb.length cb) lb) :
    Calls Try.prog 73 #[.slice (some ⟨b, o, none⟩) n cap, .slice q lb.length cb] w (DivPost w (val la) B) := by
  have HA := hide ha
  have HB := hide Hb
  have OA := hide oa
  have MB := hide mb
  have HN := hide hn
  have PB := hide pb
  have hmk := run_make_row' (P := Try.prog) 55 88 (.int .u32 0) 4 Try.underlying55 info_u32 rfl .i64 .i64 n (by omega) (by omega)
  have MD := hide (Row.made w n (by unfold maxLen; omega))
  have lw : w.heap.size < (w.alloc (.cells (madeCells #[.int .u32 0] n) 88)).heap.size := MD.out.lt
  have LW := hide lw
  clear ha Hb oa mb hn pb lw
  go_enter Try.func73, Try.ntmps73
  go_wp2
  clear hmk
  go_loopw [7, 8] (fun v i wr => ∃ (m : Nat) (o' lr : List Int) (Q R : Int), i = .int .i64 ((m : Int) - 1) ∧ DivAt w wr la B n m v o' lr Q R) (fun _ i _ => (intOf i + 1).toNat)
  case atStart =>
    refine ⟨16 * n, List.replicate n 0, [], 0, 0, by go_num, MD.out, Limbs.nil _, Mag.nil, fun a n c e => by simp at e, PB.out, by omega, ?_, by rw [val_rep]; simp⟩
    have := val_lt OA.out
    have h0 := val_nonneg OA.out
    rw [← HN.out, ← p2_pw] at this
    rw [Int.ediv_eq_zero_of_lt h0 this]; simp
  case round =>
    obtain ⟨m, o', lr, Q, R, rfl, at0⟩ := hrel
    have AT := hide at0
    clear at0
    rcases m with _ | k
    · have e0 : ((0 : Nat) : Int) - 1 = -1 := by omega
      rw [e0]
      clear e0
      have D := div_end PB.out AT.out.mag.nonneg AT.out.lt (by have := AT.out.eq; simpa [p2] using this)
      have hl := AT.out.row.len
      have L := AT.out.row.limbs
      have T1 := trim_at (some ⟨w.heap.size, 0, none⟩) n o' wr (by rw [hl]; exact L) (by omega)
      obtain ⟨v2, T2, L2⟩ := trim_spec u7 lr wr AT.out.lim (by have := few_lt AT.out.mag MB.out (by have := AT.out.lt; have := PB.out; omega); omega)
      rw [hl] at T1
      have FIN : Hid (DivPost w (val la) B (.returned (.tuple #[.slice (some ⟨w.heap.size, 0, none⟩) (top o' n) n, v2])) wr) := by
        have M := Mag.of_top AT.out.row.ok
        have M2 := Mag.of_top AT.out.mag.ok
        have eq := AT.out.q
        simp only [p2, Int.mul_one] at eq
        rw [eq, hl, ← D.1] at M
        rw [AT.out.mag.val, ← D.2] at M2
        exact ⟨_, _, _, _, rfl, L.take _ (top_le _ _), M, L2, M2, AT.out.row.below⟩
      clear AT L hl D L2
      go_wp2_with fail
      refine T1.mono ?_
      rintro e w' ⟨rfl, rfl⟩
      go_wp2_with fail
      refine T2.mono ?_
      rintro e w' ⟨rfl, rfl⟩
      go_wp2_with fail
      go_returns
      exact FIN.out
    · have ei : ((k + 1 : Nat) : Int) - 1 = k := by omega
      rw [ei]
      clear ei
      have mm := AT.out.mm
      have few := few_lt AT.out.mag MB.out (by have := AT.out.lt; have := PB.out; omega)
      have ka := addL_spec u7 u7 lr lr wr AT.out.lim AT.out.lim AT.out.mag.ok AT.out.mag.ok (by omega) (by omega)
      rw [AT.out.mag.val] at ka
      have kn : k / 16 < n := by omega
      have e3 : wr.cell? ⟨b, o + k / 16, none⟩ = some (.int .u32 (la.getD (k / 16) 0)) := (AT.out.row.below.cell (p := ⟨b, o + k / 16, none⟩) hb).trans (HA.out _ kn)
      have ltr := AT.out.row.lt
      have bW : b < wr.heap.size := Nat.lt_of_lt_of_le hb AT.out.row.below.size
      obtain ⟨x0, x1, x2⟩ := div_bit OA.out k
      obtain ⟨x, hx⟩ : ∃ x, x = la.getD (k / 16) 0 := ⟨_, rfl⟩
      rw [← hx] at e3 x0 x1 x2
      have X := ok_at OA.out (k / 16)
      rw [← hx] at X
      obtain ⟨xx0, xx1⟩ := X
      have ks : k % 16 < 32 := by omega
      have ep : p2 (k % 16) = 2 ^ (k % 16) := p2_pow _
      have eb : bits .and .u32 (x / 2 ^ (k % 16)) 1 = x / 2 ^ (k % 16) % 2 := by rw [← ep]; exact u32_bit _ x0 (by omega)
      have X2 := hide x2
      rw [ep] at x0 x1
      have DR : Hid (∀ R2, R2 = 2 * R + val la / p2 k % 2 → val la / p2 k = 2 * Q * B + R2) := fun R2 h => div_round AT.out.eq h
      have RB : Hid (0 ≤ R ∧ R < B) := ⟨AT.out.mag.nonneg, AT.out.lt⟩
      clear hx x2
      go_wp2_with fail
      refine ka.mono ?_
      rintro e w1 ⟨v1, l1, rfl, L1, M1, h1, f1⟩
      have A1 : Hid (Row w w1 w.heap.size n o' ∧ Fresh (w.heap.size + 1) v1 ∧ b < w1.heap.size ∧ Below w.heap.size w w1) := ⟨AT.out.row.later h1, fun a n c e => Nat.le_trans ltr (f1 a n c e), Nat.lt_of_lt_of_le bW h1.size, AT.out.row.below.trans (h1.mono AT.out.row.below.size)⟩
      have e4 : w1.cell? ⟨b, o + k / 16, none⟩ = some (.int .u32 x) := (h1.cell (p := ⟨b, o + k / 16, none⟩) bW).trans e3
      have LM := hide (And.intro L1 (And.intro M1 (And.intro AT.out.q AT.out.mm)))
      clear ka e3 h1 f1 L1 M1 AT ltr bW
      by_cases bt : x / 2 ^ (k % 16) % 2 = 1
      · have t1 : (bits .and .u32 (x / 2 ^ (k % 16)) 1 == 1) = true := by rw [eb, bt]; rfl
        have R2 := DR.out (R + R + 1) (by rw [← X2.out, ep, bt]; omega)
        clear eb
        have BT := hide bt
        clear bt
        go_wp2_with fail
        have L9 : Limbs (w1.alloc (.cells #[.int .u32 1] 88)) (.slice (some ⟨w1.heap.size, 0, none⟩) 1 1) [1] := .inr ⟨w1.heap.size, 0, 1, rfl, by simp, by simp, ⟨1, shape_new _ _ _ _⟩, fun j hj => by simp at hj; subst hj; simp [go_sem]⟩
        have kb := addL_spec v1 (.slice (some ⟨w1.heap.size, 0, none⟩) 1 1) l1 [1] _ (LM.out.1.later ((Below.refl _ _).alloc (Nat.le_refl _) _)) L9 LM.out.2.1.ok (by intro y hy; simp at hy; subst hy; omega) (by have := few_lt LM.out.2.1 MB.out (by have := RB.out; omega); omega) (by simp)
        rw [LM.out.2.1.val, show val [1] = 1 by decide] at kb
        refine kb.mono ?_
        clear kb
        rintro e w2 ⟨v2, l2, rfl, L2, M2, h2, f2⟩
        have B2 : Below w1.heap.size w1 w2 := Below.trans ((Below.refl _ _).alloc (Nat.le_refl _) _) (h2.mono (by simp))
        have A2 : Hid (Row w w2 w.heap.size n o' ∧ Fresh (w.heap.size + 1) v2 ∧ Below w.heap.size w w2) := ⟨A1.out.1.later B2, fun a n c e => by have := f2 a n c e; have := A1.out.1.lt; simp at *; omega, A1.out.2.2.2.trans (B2.mono A1.out.2.2.2.size)⟩
        have QM := hide LM.out.2.2
        clear h2 f2 B2 A1 LM L9 e4
        go_wp2_with fail
        have few2 := few_lt M2 MB.out (by have := RB.out; omega)
        have kc := cmpL_spec v2 (.slice q lb.length cb) l2 lb w2 L2 (HB.out.later A2.out.2.2) M2.ok MB.out.ok (by omega) (by omega)
        rw [M2.val, MB.out.val] at kc
        have ge1 : B ≤ R + R + 1 → 0 ≤ cmpI (R + R + 1) B := fun h => by unfold cmpI; split <;> (try split) <;> omega
        have lt1 : ¬ B ≤ R + R + 1 → ¬ 0 ≤ cmpI (R + R + 1) B := fun h => by unfold cmpI; rw [if_pos (by omega)]; omega
        obtain ⟨d, hd⟩ : ∃ d, d = cmpI (R + R + 1) B := ⟨_, rfl⟩
        have KC : Hid (Calls Try.prog 66 #[v2, .slice q lb.length cb] w2 fun e w' => e = .returned (.int .i64 d) ∧ Below (w2).heap.size w2 w') := by rw [hd]; exact kc
        rw [← hd] at ge1 lt1
        clear kc hd
        by_cases g : B ≤ R + R + 1
        · have d1 := ge1 g
          clear ge1 lt1
          have G := hide g
          clear g
          refine KC.out.mono ?_
          rintro e w3 ⟨rfl, h3⟩
          have ks2 := subL_spec v2 (.slice q lb.length cb) l2 lb w3 (L2.later h3) (HB.out.later (A2.out.2.2.trans (h3.mono A2.out.2.2.size))) M2.ok MB.out.ok (by omega) (length_le_of_val MB.out.ok MB.out.top M2.ok (by rw [M2.val, MB.out.val]; exact G.out)) (by rw [M2.val, MB.out.val]; exact G.out)
          rw [M2.val, MB.out.val] at ks2
          have A3 : Hid (Row w w3 w.heap.size n o') := A2.out.1.later h3
          clear A2 L2 h3 KC few2
          go_wp2_with fail
          refine ks2.mono ?_
          clear ks2
          rintro e w4 ⟨v4, l4, rfl, L4, M4, h4, f4⟩
          have A4 : Hid (Row w w4 w.heap.size n o' ∧ Fresh (w.heap.size + 1) v4) := ⟨A3.out.later h4, fun a n c e => Nat.le_trans A3.out.lt (f4 a n c e)⟩
          clear A3 h4 f4
          obtain ⟨e1, e2⟩ := A4.out.1.at_ (k / 16) kn
          obtain ⟨dv, dq⟩ := div_limb A4.out.1.ok A4.out.1.len (by omega) QM.out.1
          obtain ⟨z0, z1⟩ := ok_at A4.out.1.ok (k / 16)
          have lt4 := A4.out.1.lt
          obtain ⟨z, hz⟩ : ∃ z, z = o'.getD (k / 16) 0 := ⟨_, rfl⟩
          rw [← hz] at e1 z0 z1 dv dq
          obtain ⟨j1, j2⟩ := u32_join z (k % 16) (by omega) z0 z1 dv
          have pl := p2_le (k % 16) (by omega)
          have pp := p2_pos (k % 16)
          obtain ⟨z', hz'⟩ : ∃ y, y = z + p2 (k % 16) := ⟨_, rfl⟩
          rw [← hz'] at j1 j2 dq
          have j3 : bits .or .u32 z (2 ^ (k % 16)) = z' := by rw [← ep]; exact j1
          have j4 : bits .or .u32 z (IntKind.u32.wrap (2 ^ (k % 16))) = z' := by rw [IntKind.wrap_u32, ← ep, Int.emod_eq_of_lt (by omega) (by omega)]; exact j1
          have j5 : bits .or .u32 z (2 ^ (k % 16) % 4294967296) = z' := by rw [← ep, Int.emod_eq_of_lt (by omega) (by omega)]; exact j1
          have ST : Hid (∀ r, DivAt w ((w4.drewN r).setCell ⟨w.heap.size, k / 16, none⟩ (.int .u32 z')) la B n k v4 (o'.set (k / 16) z') l4 (2 * Q + 1) (R + R + 1 - B)) := fun r =>
            ⟨A4.out.1.set (k / 16) z' (by omega) j2 r, Limbs.other (w := w4.drewN r) (L4.later (below_drewN (Below.refl _ _) r)) A4.out.2 _, M4, A4.out.2, by have := RB.out; have := BT.out; omega, by omega, more_q R2, dq⟩
          have ST0 : Hid (DivAt w (w4.setCell ⟨w.heap.size, k / 16, none⟩ (.int .u32 z')) la B n k v4 (o'.set (k / 16) z') l4 (2 * Q + 1) (R + R + 1 - B)) := ST.out 0
          clear A4 dv dq hz hz' j1 L4 M4 R2 DR
          go_wp2
          (try go_quiet (fail))
          (try go_wp2)
          go_roundw
          case rel => exact ⟨k, _, _, _, _, by go_num, by first | exact ST0.out | exact ST.out _⟩
          case measure => simp [intOf]
        · have d1 := lt1 g
          clear ge1 lt1
          have G := hide g
          clear g
          refine KC.out.mono ?_
          rintro e w3 ⟨rfl, h3⟩
          have ST : Hid (DivAt w w3 la B n k v2 o' l2 (2 * Q) (R + R + 1)) := ⟨A2.out.1.later h3, L2.later h3, M2, A2.out.2.1, by have := G.out; omega, by omega, by rw [R2], two_p2 QM.out.1⟩
          clear A2 L2 h3 KC few2 M2 R2 DR
          go_wp2_with fail
          go_roundw
          case rel => exact ⟨k, _, _, _, _, by go_num, ST.out⟩
          case measure => simp [intOf]
      · have t1 : (bits .and .u32 (x / 2 ^ (k % 16)) 1 == 1) = false := by rw [eb]; simpa using bt
        have R2 := DR.out (R + R) (by rw [← X2.out, ep]; omega)
        clear eb
        have BT := hide bt
        clear bt
        obtain ⟨L2, M2, QM0⟩ := LM.out
        have QM := hide QM0
        clear QM0 LM
        have A2 : Hid (Row w w1 w.heap.size n o' ∧ Fresh (w.heap.size + 1) v1 ∧ Below w.heap.size w w1) := ⟨A1.out.1, A1.out.2.1, A1.out.2.2.2⟩
        clear A1
        go_wp2_with fail
        have few2 := few_lt M2 MB.out (by have := RB.out; omega)
        have kc := cmpL_spec v1 (.slice q lb.length cb) l1 lb w1 L2 (HB.out.later A2.out.2.2) M2.ok MB.out.ok (by omega) (by omega)
        rw [M2.val, MB.out.val] at kc
        have ge1 : B ≤ R + R → 0 ≤ cmpI (R + R) B := fun h => by unfold cmpI; split <;> (try split) <;> omega
        have lt1 : ¬ B ≤ R + R → ¬ 0 ≤ cmpI (R + R) B := fun h => by unfold cmpI; rw [if_pos (by omega)]; omega
        obtain ⟨d, hd⟩ : ∃ d, d = cmpI (R + R) B := ⟨_, rfl⟩
        have KC : Hid (Calls Try.prog 66 #[v1, .slice q lb.length cb] w1 fun e w' => e = .returned (.int .i64 d) ∧ Below (w1).heap.size w1 w') := by rw [hd]; exact kc
        rw [← hd] at ge1 lt1
        clear kc hd
        by_cases g : B ≤ R + R
        · have d1 := ge1 g
          clear ge1 lt1
          have G := hide g
          clear g
          refine KC.out.mono ?_
          rintro e w3 ⟨rfl, h3⟩
          have ks2 := subL_spec v1 (.slice q lb.length cb) l1 lb w3 (L2.later h3) (HB.out.later (A2.out.2.2.trans (h3.mono A2.out.2.2.size))) M2.ok MB.out.ok (by omega) (length_le_of_val MB.out.ok MB.out.top M2.ok (by rw [M2.val, MB.out.val]; exact G.out)) (by rw [M2.val, MB.out.val]; exact G.out)
          rw [M2.val, MB.out.val] at ks2
          have A3 : Hid (Row w w3 w.heap.size n o') := A2.out.1.later h3
          clear A2 L2 h3 KC few2
          go_wp2_with fail
          refine ks2.mono ?_
          clear ks2
          rintro e w4 ⟨v4, l4, rfl, L4, M4, h4, f4⟩
          have A4 : Hid (Row w w4 w.heap.size n o' ∧ Fresh (w.heap.size + 1) v4) := ⟨A3.out.later h4, fun a n c e => Nat.le_trans A3.out.lt (f4 a n c e)⟩
          clear A3 h4 f4
          obtain ⟨e1, e2⟩ := A4.out.1.at_ (k / 16) kn
          obtain ⟨dv, dq⟩ := div_limb A4.out.1.ok A4.out.1.len (by omega) QM.out.1
          obtain ⟨z0, z1⟩ := ok_at A4.out.1.ok (k / 16)
          have lt4 := A4.out.1.lt
          obtain ⟨z, hz⟩ : ∃ z, z = o'.getD (k / 16) 0 := ⟨_, rfl⟩
          rw [← hz] at e1 z0 z1 dv dq
          obtain ⟨j1, j2⟩ := u32_join z (k % 16) (by omega) z0 z1 dv
          have pl := p2_le (k % 16) (by omega)
          have pp := p2_pos (k % 16)
          obtain ⟨z', hz'⟩ : ∃ y, y = z + p2 (k % 16) := ⟨_, rfl⟩
          rw [← hz'] at j1 j2 dq
          have j3 : bits .or .u32 z (2 ^ (k % 16)) = z' := by rw [← ep]; exact j1
          have j4 : bits .or .u32 z (IntKind.u32.wrap (2 ^ (k % 16))) = z' := by rw [IntKind.wrap_u32, ← ep, Int.emod_eq_of_lt (by omega) (by omega)]; exact j1
          have j5 : bits .or .u32 z (2 ^ (k % 16) % 4294967296) = z' := by rw [← ep, Int.emod_eq_of_lt (by omega) (by omega)]; exact j1
          have ST : Hid (∀ r, DivAt w ((w4.drewN r).setCell ⟨w.heap.size, k / 16, none⟩ (.int .u32 z')) la B n k v4 (o'.set (k / 16) z') l4 (2 * Q + 1) (R + R - B)) := fun r =>
            ⟨A4.out.1.set (k / 16) z' (by omega) j2 r, Limbs.other (w := w4.drewN r) (L4.later (below_drewN (Below.refl _ _) r)) A4.out.2 _, M4, A4.out.2, by have := RB.out; have := BT.out; omega, by omega, more_q R2, dq⟩
          have ST0 : Hid (DivAt w (w4.setCell ⟨w.heap.size, k / 16, none⟩ (.int .u32 z')) la B n k v4 (o'.set (k / 16) z') l4 (2 * Q + 1) (R + R - B)) := ST.out 0
          clear A4 dv dq hz hz' j1 L4 M4 R2 DR
          go_wp2
          (try go_quiet (fail))
          (try go_wp2)
          go_roundw
          case rel => exact ⟨k, _, _, _, _, by go_num, by first | exact ST0.out | exact ST.out _⟩
          case measure => simp [intOf]
        · have d1 := lt1 g
          clear ge1 lt1
          have G := hide g
          clear g
          refine KC.out.mono ?_
          rintro e w3 ⟨rfl, h3⟩
          have ST : Hid (DivAt w w3 la B n k v1 o' l1 (2 * Q) (R + R)) := ⟨A2.out.1.later h3, L2.later h3, M2, A2.out.2.1, by have := G.out; omega, by omega, by rw [R2], two_p2 QM.out.1⟩
          clear A2 L2 h3 KC few2 M2 R2 DR
          go_wp2_with fail
          go_roundw
          case rel => exact ⟨k, _, _, _, _, by go_num, ST.out⟩
          case measure => simp [intOf]
set_option maxRecDepth 100000 in
set_option maxHeartbeats 2000000 in
theorem divL_none (p q : Option Addr) (cap cb n : Nat) (B : Int) (w : World) (nb : n ≤ 100) :
    Calls Try.prog 73 #[.slice p 0 cap, .slice q n cb] w (DivPost w 0 B) := by
  have hmk : ∀ w : World, (Instr.makeSlice 55 (.int .i64 0) (.int .i64 0)).run Try.prog w = .ok (.slice (some ⟨w.heap.size, 0, none⟩) 0 0) (w.alloc (.cells (madeCells #[.int .u32 0] 0) 88)) := fun w => run_make_row' (P := Try.prog) 55 88 (.int .u32 0) 4 Try.underlying55 info_u32 rfl .i64 .i64 0 (by omega) (by omega) w
  have MD := hide (Row.made w 0 (by unfold maxLen; omega))
  have FIN : Hid (∀ w', Below w.heap.size w w' → DivPost w 0 B (.returned (.tuple #[.slice (some ⟨w.heap.size, 0, none⟩) 0 0, .slice none 0 0])) w') := fun w' h =>
    ⟨_, [], _, [], rfl, .inl ⟨_, _, rfl, rfl⟩, by rw [Int.zero_ediv]; exact Mag.nil, Limbs.nil _, by rw [Int.zero_emod]; exact Mag.nil, h⟩
  go_enter Try.func73, Try.ntmps73
  go_wp2
  clear hmk
  refine wp_loop_rounds 1 ?_
  rw [rounds_succ]
  go_wp2_with fail
  refine (trim_none _ _ _).mono ?_
  rintro e w' ⟨rfl, rfl⟩
  go_wp2_with fail
  refine (trim_none _ _ _).mono ?_
  rintro e w' ⟨rfl, rfl⟩
  go_wp2_with fail
  go_returns
  exact FIN.out _ (by go_grown)
theorem divL_spec (p q : Option Addr) (ca cb : Nat) (la lb : List Int) (B : Int) (w : World) (Ha : Limbs w (.slice p la.length ca) la) (Hb : Limbs w (.slice q lb.length cb) lb) (oa : Ok la) (mb : Mag lb B) (pb : 0 < B) (na : la.length ≤ 100) (nb : lb.length ≤ 100) :
    Calls Try.prog 73 #[.slice p la.length ca, .slice q lb.length cb] w (DivPost w (val la) B) := by
  rcases Ha with ⟨x, c, rfl, e⟩ | ⟨b, o, c, e, hc, hb, hs, hh⟩
  · simp only [Value.slice.injEq] at e
    obtain ⟨rfl, _, rfl⟩ := e
    exact divL_none p q ca cb _ B w nb
  · simp only [Value.slice.injEq] at e
    obtain ⟨rfl, _, rfl⟩ := e
    exact divL_some b o ca q cb _ la lb B w rfl na nb oa mb pb hb hh Hb
end Go.Proofs.Ythcgkpmlfbjagaa
