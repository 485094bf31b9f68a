/- Texts that belong together: Ldiv Lroot Tdevs Tsorted Tof Tofs Lquo Lawquos Lsum Dec Wplain Wread Wparse Wprint Wtxt Wsub Wneg Lawsigns Lrdig Tref1. -/
import Derived.Test.YtebiddmadmmfpaaG02
import Derived.Deep.DeepCutAuto
import Derived.Test.YtebiddmadmmfpaaG01
import Derived.Test.YtebiddmadmmfpaaShelg
import Derived.Sort.OwnSortedInts
import Init
import Derived.Laws.BytesString
set_option linter.unusedSimpArgs false
set_option linter.unusedVariables false
/- The reference of layer 1: divL. -/
namespace Go.Proofs.Ytebiddmadmmfpaa
set_option linter.unusedVariables false
open Go.RowKit W Lb
theorem u32_bit (x : Int) (a : 0 ≤ x) (b : x < 4294967296) : bits .and .u32 x 1 = x % 2 := by
  rw [u32_and x 1 a b (by omega) (by omega)]
  obtain ⟨m, rfl⟩ := Int.eq_ofNat_of_zero_le a
  have : ((m : Int).toNat &&& (1 : Int).toNat) = m % 2 := by show m &&& 1 = m % 2; exact Nat.and_one_is_mod m
  rw [this]; omega
theorem p2_le (s : Nat) (h : s < 16) : p2 s ≤ 32768 := by
  have : p2 s ≤ p2 15 := by
    have e : p2 15 = p2 s * p2 (15 - s) := by rw [← p2_add]; congr 1; omega
    have a := p2_pos s; have b := p2_pos (15 - s)
    rw [e]
    have : p2 s * 1 ≤ p2 s * p2 (15 - s) := Int.mul_le_mul_of_nonneg_left (by omega) (by omega)
    omega
  exact Int.le_trans this (by decide)
theorem u32_join (z : Int) (s : Nat) (hs : s < 16) (a : 0 ≤ z) (b : z < 65536) (h : z % p2 (s + 1) = 0) : bits .or .u32 z (p2 s) = z + p2 s ∧ z + p2 s < 65536 := by
  have pl := p2_le s hs
  have pp := p2_pos s
  have e1 : p2 (s + 1) = 2 * p2 s := rfl
  obtain ⟨t, ht⟩ := Int.dvd_of_emod_eq_zero h
  rw [e1] at ht
  have t0 : 0 ≤ t := by
    apply Decidable.byContradiction; intro g
    have : 2 * p2 s * t ≤ 2 * p2 s * (-1) := Int.mul_le_mul_of_nonneg_left (by omega) (by omega)
    omega
  have lt : z + p2 s < 65536 := by
    have e : (65536 : Int) = 2 * p2 s * p2 (15 - s) := by
      have : p2 (s + 1) * p2 (15 - s) = p2 16 := by rw [← p2_add]; congr 1; omega
      rw [← p2_16, ← this]; rfl
    have : t < p2 (15 - s) := by
      apply Decidable.byContradiction; intro g
      have : 2 * p2 s * p2 (15 - s) ≤ 2 * p2 s * t := Int.mul_le_mul_of_nonneg_left (by omega) (by omega)
      omega
    have : 2 * p2 s * (t + 1) ≤ 2 * p2 s * p2 (15 - s) := Int.mul_le_mul_of_nonneg_left (by omega) (by omega)
    rw [Int.mul_add] at this
    omega
  refine ⟨?_, lt⟩
  rw [u32_or z (p2 s) a (by omega) (by omega) (by omega)]
  obtain ⟨n, rfl⟩ := Int.eq_ofNat_of_zero_le t0
  have ep : p2 s = ((2 ^ s : Nat) : Int) := by rw [p2_pow]; simp
  have ez : z = ((2 ^ (s + 1) * n : Nat) : Int) := by rw [ht, ep]; simp [Nat.pow_succ]; rw [Int.mul_comm 2]
  rw [ez, ep]
  have hj := Nat.two_pow_add_eq_or_of_lt (i := s + 1) (b := 2 ^ s) (Nat.pow_lt_pow_right (by omega) (by omega)) n
  show ((2 ^ (s + 1) * n ||| 2 ^ s : Nat) : Int) = _
  rw [← hj]; simp
/-- The state of a division by bits: m bits are left; v is what is left, Q the quotient so far. -/
structure DivAt (w wr : World) (la : List Int) (B : Int) (n m : Nat) (v : Value) (o : List Int) (lr : List Int) (Q R : Int) : Prop where
  row : Row w wr w.heap.size n o
  lim : Limbs wr v lr
  mag : Mag lr R
  fr : Fresh (w.heap.size + 1) v
  lt : R < B
  mm : m ≤ 16 * n
  eq : val la / p2 m = Q * B + R
  q : val o = Q * p2 m
theorem Limbs.other {w : World} {v : Value} {l : List Int} (h : Limbs w v l) {g i : Nat} (f : Fresh (g + 1) v) (x : Value) : Limbs (w.setCell ⟨g, i, none⟩ x) v l := by
  rcases h with h | ⟨b, o, cap, rfl, hc, hb, ⟨k, hs⟩, h⟩
  · exact .inl h
  · have ge := f _ _ _ rfl
    have ne : b ≠ g := by show b ≠ g; have : g + 1 ≤ b := ge; omega
    refine .inr ⟨b, o, cap, rfl, hc, by simpa [World.setCell] using hb, ⟨k, by rw [shape_set]; exact hs⟩, fun j hj => ?_⟩
    rw [← h j hj]
    exact World.cell?_of_block (w := w) (Below.heap_setCell w _ x b ne)
theorem Row.later {w wr w' : World} {g n : Nat} {o : List Int} (h : Row w wr g n o) (k : Below wr.heap.size wr w') : Row w w' g n o := by
  have lt := h.lt
  obtain ⟨⟨hl, hr⟩, ok, len, ge, bl⟩ := h
  refine ⟨⟨hl, ?_⟩, ok, len, ge, bl.trans (k.mono bl.size)⟩
  rcases hr with ⟨e, _⟩ | ⟨g', c, cur, e, hb, hg, rest⟩
  · simp at e
  · refine .inr ⟨g', c, cur, e, hb, ?_, rest⟩
    simp only [Value.slice.injEq, Option.some.injEq, Addr.mk.injEq, and_true, true_and] at e
    obtain ⟨rfl, _⟩ := e
    rw [k.block g lt]; exact hg
theorem Row.dr {w wr : World} {g n : Nat} {o : List Int} (h : Row w wr g n o) (q : Nat) : Row w (wr.drewN q) g n o := ⟨h.own, h.ok, h.len, h.ge, below_drewN h.below q⟩
/-- The limb that a bit is laid into. -/
theorem div_limb {o : List Int} {Q : Int} {k n : Nat} (ok : Ok o) (hl : o.length = n) (hk : k < 16 * n) (q : val o = Q * p2 (k + 1)) :
    (o.getD (k / 16) 0) % p2 (k % 16 + 1) = 0 ∧ val (o.set (k / 16) (o.getD (k / 16) 0 + p2 (k % 16))) = (2 * Q + 1) * p2 k := by
  have s16 : k % 16 < 16 := by omega
  have e1 : p2 (k + 1) = pw (k / 16) * p2 (k % 16 + 1) := by rw [← p2_pw, ← p2_add]; congr 1; omega
  have e0 : p2 k = pw (k / 16) * p2 (k % 16) := by rw [← p2_pw, ← p2_add]; congr 1; omega
  constructor
  · rw [at_val ok, q, e1]
    have pp := pw_pos (k / 16)
    have : Q * (pw (k / 16) * p2 (k % 16 + 1)) / pw (k / 16) = Q * p2 (k % 16 + 1) := by
      rw [show Q * (pw (k / 16) * p2 (k % 16 + 1)) = Q * p2 (k % 16 + 1) * pw (k / 16) by grind]
      exact Int.mul_ediv_cancel _ (by omega)
    rw [this]
    have d : p2 (k % 16 + 1) ∣ 65536 := ⟨p2 (15 - k % 16), by rw [← p2_add, ← p2_16]; congr 1; omega⟩
    rw [Int.emod_emod_of_dvd _ d]
    exact Int.mul_emod_left _ _
  · rw [val_set _ _ (by omega), q]
    have : p2 (k + 1) = 2 * p2 k := rfl
    rw [this, e0]
    generalize o.getD (k / 16) 0 = z
    grind
theorem div_bit {la : List Int} (ok : Ok la) (k : Nat) : 0 ≤ la.getD (k / 16) 0 / p2 (k % 16) ∧ la.getD (k / 16) 0 / p2 (k % 16) < 65536 ∧ la.getD (k / 16) 0 / p2 (k % 16) % 2 = val la / p2 k % 2 := by
  obtain ⟨a, b⟩ := ok_at ok (k / 16)
  have p := p2_pos (k % 16)
  refine ⟨Int.ediv_nonneg a (by omega), ?_, bit_val ok k⟩
  have := Int.ediv_le_self (p2 (k % 16)) a
  omega
def DivPost (w : World) (A B : Int) (e : Ending) (w' : World) : Prop := ∃ v1 l1 v2 l2, e = .returned (.tuple #[v1, v2]) ∧ Limbs w' v1 l1 ∧ Mag l1 (A / B) ∧ Limbs w' v2 l2 ∧ Mag l2 (A % B) ∧ Below w.heap.size w w'
theorem two_p2 {x Q : Int} {k : Nat} (h : x = Q * p2 (k + 1)) : x = 2 * Q * p2 k := by
  rw [h]; show Q * (2 * p2 k) = _; grind
theorem more_q {x Q B y : Int} (h : x = 2 * Q * B + y) : x = (2 * Q + 1) * B + (y - B) := by grind
theorem div_end {A B Q R : Int} (b : 0 < B) (r0 : 0 ≤ R) (r : R < B) (h : A = Q * B + R) : A / B = Q ∧ A % B = R := by
  have e : A / B = Q := by
    rw [h, Int.mul_comm Q B, Int.mul_add_ediv_left _ _ (by omega), Int.ediv_eq_zero_of_lt r0 r]; omega
  refine ⟨e, ?_⟩
  have := Int.emod_add_mul_ediv A B
  rw [e] at this
  rw [Int.mul_comm] at this
  omega
theorem few_lt {l : List Int} {R B : Int} {lb : List Int} (h : Mag l R) (m : Mag lb B) (lt : R < 2 * B + 1) : l.length ≤ lb.length + 1 := by
  apply h.len
  have := m.val
  have := val_lt m.ok
  show R < 65536 * pw lb.length
  have := pw_pos lb.length
  omega
set_option maxRecDepth 100000 in
set_option maxHeartbeats 8000000 in
theorem divL_some (b o cap : Nat) (q : Option Addr) (cb n : Nat) (la lb : List Int) (B : Int) (w : World) (hn : n = la.length) (na : n ≤ 100) (nb : lb.length ≤ 100) (oa : Ok la) (mb : Mag lb B) (pb : 0 < B) (hb : b < w.heap.size)
    (ha : ∀ k, k < n → w.cell? ⟨b, o + k, none⟩ = some (.int .u32 (la.getD k 0))) (Hb : Limbs w (.slice q lb.length cb) lb) :
    Calls Try.prog 60 #[.slice (some ⟨b, o, none⟩) n cap, .slice q lb.length cb] w (DivPost w (val la) B) := by
  have HA := hide ha
  have HB := hide Hb
  have OA := hide oa
  have MB := hide mb
  have HN := hide hn
  have PB := hide pb
  have hmk := run_make_row' (P := Try.prog) 62 107 (.int .u32 0) 4 Try.underlying62 info_u32 rfl .i64 .i64 n (by omega) (by omega)
  have MD := hide (Row.made w n (by unfold maxLen; omega))
  have lw : w.heap.size < (w.alloc (.cells (madeCells #[.int .u32 0] n) 107)).heap.size := MD.out.lt
  have LW := hide lw
  clear ha Hb oa mb hn pb lw
  go_enter Try.func60, Try.ntmps60
  go_wp2
  clear hmk
  go_loopw [7, 8] (fun v i wr => ∃ (m : Nat) (o' lr : List Int) (Q R : Int), i = .int .i64 ((m : Int) - 1) ∧ DivAt w wr la B n m v o' lr Q R) (fun _ i _ => (intOf i + 1).toNat)
  case atStart =>
    refine ⟨16 * n, List.replicate n 0, [], 0, 0, by go_num, MD.out, Limbs.nil _, Mag.nil, fun a n c e => by simp at e, PB.out, by omega, ?_, by rw [val_rep]; simp⟩
    have := val_lt OA.out
    have h0 := val_nonneg OA.out
    rw [← HN.out, ← p2_pw] at this
    rw [Int.ediv_eq_zero_of_lt h0 this]; simp
  case round =>
    obtain ⟨m, o', lr, Q, R, rfl, at0⟩ := hrel
    have AT := hide at0
    clear at0
    rcases m with _ | k
    · have e0 : ((0 : Nat) : Int) - 1 = -1 := by omega
      rw [e0]
      clear e0
      have D := div_end PB.out AT.out.mag.nonneg AT.out.lt (by have := AT.out.eq; simpa [p2] using this)
      have hl := AT.out.row.len
      have L := AT.out.row.limbs
      have T1 := trim_at (some ⟨w.heap.size, 0, none⟩) n o' wr (by rw [hl]; exact L) (by omega)
      obtain ⟨v2, T2, L2⟩ := trim_spec u7 lr wr AT.out.lim (by have := few_lt AT.out.mag MB.out (by have := AT.out.lt; have := PB.out; omega); omega)
      rw [hl] at T1
      have FIN : Hid (DivPost w (val la) B (.returned (.tuple #[.slice (some ⟨w.heap.size, 0, none⟩) (top o' n) n, v2])) wr) := by
        have M := Mag.of_top AT.out.row.ok
        have M2 := Mag.of_top AT.out.mag.ok
        have eq := AT.out.q
        simp only [p2, Int.mul_one] at eq
        rw [eq, hl, ← D.1] at M
        rw [AT.out.mag.val, ← D.2] at M2
        exact ⟨_, _, _, _, rfl, L.take _ (top_le _ _), M, L2, M2, AT.out.row.below⟩
      clear AT L hl D L2
      go_wp2_with fail
      refine T1.mono ?_
      rintro e w' ⟨rfl, rfl⟩
      go_wp2_with fail
      refine T2.mono ?_
      rintro e w' ⟨rfl, rfl⟩
      go_wp2_with fail
      go_returns
      exact FIN.out
    · have ei : ((k + 1 : Nat) : Int) - 1 = k := by omega
      rw [ei]
      clear ei
      have mm := AT.out.mm
      have few := few_lt AT.out.mag MB.out (by have := AT.out.lt; have := PB.out; omega)
      have ka := addL_spec u7 u7 lr lr wr AT.out.lim AT.out.lim AT.out.mag.ok AT.out.mag.ok (by omega) (by omega)
      rw [AT.out.mag.val] at ka
      have kn : k / 16 < n := by omega
      have e3 : wr.cell? ⟨b, o + k / 16, none⟩ = some (.int .u32 (la.getD (k / 16) 0)) := (AT.out.row.below.cell (p := ⟨b, o + k / 16, none⟩) hb).trans (HA.out _ kn)
      have ltr := AT.out.row.lt
      have bW : b < wr.heap.size := Nat.lt_of_lt_of_le hb AT.out.row.below.size
      obtain ⟨x0, x1, x2⟩ := div_bit OA.out k
      obtain ⟨x, hx⟩ : ∃ x, x = la.getD (k / 16) 0 := ⟨_, rfl⟩
      rw [← hx] at e3 x0 x1 x2
      have X := ok_at OA.out (k / 16)
      rw [← hx] at X
      obtain ⟨xx0, xx1⟩ := X
      have ks : k % 16 < 32 := by omega
      have ep : p2 (k % 16) = 2 ^ (k % 16) := p2_pow _
      have eb : bits .and .u32 (x / 2 ^ (k % 16)) 1 = x / 2 ^ (k % 16) % 2 := by rw [← ep]; exact u32_bit _ x0 (by omega)
      have X2 := hide x2
      rw [ep] at x0 x1
      have DR : Hid (∀ R2, R2 = 2 * R + val la / p2 k % 2 → val la / p2 k = 2 * Q * B + R2) := fun R2 h => div_round AT.out.eq h
      have RB : Hid (0 ≤ R ∧ R < B) := ⟨AT.out.mag.nonneg, AT.out.lt⟩
      clear hx x2
      go_wp2_with fail
      refine ka.mono ?_
      rintro e w1 ⟨v1, l1, rfl, L1, M1, h1, f1⟩
      have A1 : Hid (Row w w1 w.heap.size n o' ∧ Fresh (w.heap.size + 1) v1 ∧ b < w1.heap.size ∧ Below w.heap.size w w1) := ⟨AT.out.row.later h1, fun a n c e => Nat.le_trans ltr (f1 a n c e), Nat.lt_of_lt_of_le bW h1.size, AT.out.row.below.trans (h1.mono AT.out.row.below.size)⟩
      have e4 : w1.cell? ⟨b, o + k / 16, none⟩ = some (.int .u32 x) := (h1.cell (p := ⟨b, o + k / 16, none⟩) bW).trans e3
      have LM := hide (And.intro L1 (And.intro M1 (And.intro AT.out.q AT.out.mm)))
      clear ka e3 h1 f1 L1 M1 AT ltr bW
      by_cases bt : x / 2 ^ (k % 16) % 2 = 1
      · have t1 : (bits .and .u32 (x / 2 ^ (k % 16)) 1 == 1) = true := by rw [eb, bt]; rfl
        have R2 := DR.out (R + R + 1) (by rw [← X2.out, ep, bt]; omega)
        clear eb
        have BT := hide bt
        clear bt
        go_wp2_with fail
        have L9 : Limbs (w1.alloc (.cells #[.int .u32 1] 107)) (.slice (some ⟨w1.heap.size, 0, none⟩) 1 1) [1] := .inr ⟨w1.heap.size, 0, 1, rfl, by simp, by simp, ⟨1, shape_new _ _ _ _⟩, fun j hj => by simp at hj; subst hj; simp [go_sem]⟩
        have kb := addL_spec v1 (.slice (some ⟨w1.heap.size, 0, none⟩) 1 1) l1 [1] _ (LM.out.1.later ((Below.refl _ _).alloc (Nat.le_refl _) _)) L9 LM.out.2.1.ok (by intro y hy; simp at hy; subst hy; omega) (by have := few_lt LM.out.2.1 MB.out (by have := RB.out; omega); omega) (by simp)
        rw [LM.out.2.1.val, show val [1] = 1 by decide] at kb
        refine kb.mono ?_
        clear kb
        rintro e w2 ⟨v2, l2, rfl, L2, M2, h2, f2⟩
        have B2 : Below w1.heap.size w1 w2 := Below.trans ((Below.refl _ _).alloc (Nat.le_refl _) _) (h2.mono (by simp))
        have A2 : Hid (Row w w2 w.heap.size n o' ∧ Fresh (w.heap.size + 1) v2 ∧ Below w.heap.size w w2) := ⟨A1.out.1.later B2, fun a n c e => by have := f2 a n c e; have := A1.out.1.lt; simp at *; omega, A1.out.2.2.2.trans (B2.mono A1.out.2.2.2.size)⟩
        have QM := hide LM.out.2.2
        clear h2 f2 B2 A1 LM L9 e4
        go_wp2_with fail
        have few2 := few_lt M2 MB.out (by have := RB.out; omega)
        have kc := cmpL_spec v2 (.slice q lb.length cb) l2 lb w2 L2 (HB.out.later A2.out.2.2) M2.ok MB.out.ok (by omega) (by omega)
        rw [M2.val, MB.out.val] at kc
        have ge1 : B ≤ R + R + 1 → 0 ≤ cmpI (R + R + 1) B := fun h => by unfold cmpI; split <;> (try split) <;> omega
        have lt1 : ¬ B ≤ R + R + 1 → ¬ 0 ≤ cmpI (R + R + 1) B := fun h => by unfold cmpI; rw [if_pos (by omega)]; omega
        obtain ⟨d, hd⟩ : ∃ d, d = cmpI (R + R + 1) B := ⟨_, rfl⟩
        have KC : Hid (Calls Try.prog 68 #[v2, .slice q lb.length cb] w2 fun e w' => e = .returned (.int .i64 d) ∧ Below (w2).heap.size w2 w') := by rw [hd]; exact kc
        rw [← hd] at ge1 lt1
        clear kc hd
        by_cases g : B ≤ R + R + 1
        · have d1 := ge1 g
          clear ge1 lt1
          have G := hide g
          clear g
          refine KC.out.mono ?_
          rintro e w3 ⟨rfl, h3⟩
          have ks2 := subL_spec v2 (.slice q lb.length cb) l2 lb w3 (L2.later h3) (HB.out.later (A2.out.2.2.trans (h3.mono A2.out.2.2.size))) M2.ok MB.out.ok (by omega) (length_le_of_val MB.out.ok MB.out.top M2.ok (by rw [M2.val, MB.out.val]; exact G.out)) (by rw [M2.val, MB.out.val]; exact G.out)
          rw [M2.val, MB.out.val] at ks2
          have A3 : Hid (Row w w3 w.heap.size n o') := A2.out.1.later h3
          clear A2 L2 h3 KC few2
          go_wp2_with fail
          refine ks2.mono ?_
          clear ks2
          rintro e w4 ⟨v4, l4, rfl, L4, M4, h4, f4⟩
          have A4 : Hid (Row w w4 w.heap.size n o' ∧ Fresh (w.heap.size + 1) v4) := ⟨A3.out.later h4, fun a n c e => Nat.le_trans A3.out.lt (f4 a n c e)⟩
          clear A3 h4 f4
          obtain ⟨e1, e2⟩ := A4.out.1.at_ (k / 16) kn
          obtain ⟨dv, dq⟩ := div_limb A4.out.1.ok A4.out.1.len (by omega) QM.out.1
          obtain ⟨z0, z1⟩ := ok_at A4.out.1.ok (k / 16)
          have lt4 := A4.out.1.lt
          obtain ⟨z, hz⟩ : ∃ z, z = o'.getD (k / 16) 0 := ⟨_, rfl⟩
          rw [← hz] at e1 z0 z1 dv dq
          obtain ⟨j1, j2⟩ := u32_join z (k % 16) (by omega) z0 z1 dv
          have pl := p2_le (k % 16) (by omega)
          have pp := p2_pos (k % 16)
          obtain ⟨z', hz'⟩ : ∃ y, y = z + p2 (k % 16) := ⟨_, rfl⟩
          rw [← hz'] at j1 j2 dq
          have j3 : bits .or .u32 z (2 ^ (k % 16)) = z' := by rw [← ep]; exact j1
          have j4 : bits .or .u32 z (IntKind.u32.wrap (2 ^ (k % 16))) = z' := by rw [IntKind.wrap_u32, ← ep, Int.emod_eq_of_lt (by omega) (by omega)]; exact j1
          have j5 : bits .or .u32 z (2 ^ (k % 16) % 4294967296) = z' := by rw [← ep, Int.emod_eq_of_lt (by omega) (by omega)]; exact j1
          have ST : Hid (∀ r, DivAt w ((w4.drewN r).setCell ⟨w.heap.size, k / 16, none⟩ (.int .u32 z')) la B n k v4 (o'.set (k / 16) z') l4 (2 * Q + 1) (R + R + 1 - B)) := fun r =>
            ⟨A4.out.1.set (k / 16) z' (by omega) j2 r, Limbs.other (w := w4.drewN r) (L4.later (below_drewN (Below.refl _ _) r)) A4.out.2 _, M4, A4.out.2, by have := RB.out; have := BT.out; omega, by omega, more_q R2, dq⟩
          have ST0 : Hid (DivAt w (w4.setCell ⟨w.heap.size, k / 16, none⟩ (.int .u32 z')) la B n k v4 (o'.set (k / 16) z') l4 (2 * Q + 1) (R + R + 1 - B)) := ST.out 0
          clear A4 dv dq hz hz' j1 L4 M4 R2 DR
          go_wp2
          (try go_quiet (fail))
          (try go_wp2)
          go_roundw
          case rel => exact ⟨k, _, _, _, _, by go_num, by first | exact ST0.out | exact ST.out _⟩
          case measure => simp [intOf]
        · have d1 := lt1 g
          clear ge1 lt1
          have G := hide g
          clear g
          refine KC.out.mono ?_
          rintro e w3 ⟨rfl, h3⟩
          have ST : Hid (DivAt w w3 la B n k v2 o' l2 (2 * Q) (R + R + 1)) := ⟨A2.out.1.later h3, L2.later h3, M2, A2.out.2.1, by have := G.out; omega, by omega, by rw [R2], two_p2 QM.out.1⟩
          clear A2 L2 h3 KC few2 M2 R2 DR
          go_wp2_with fail
          go_roundw
          case rel => exact ⟨k, _, _, _, _, by go_num, ST.out⟩
          case measure => simp [intOf]
      · have t1 : (bits .and .u32 (x / 2 ^ (k % 16)) 1 == 1) = false := by rw [eb]; simpa using bt
        have R2 := DR.out (R + R) (by rw [← X2.out, ep]; omega)
        clear eb
        have BT := hide bt
        clear bt
        obtain ⟨L2, M2, QM0⟩ := LM.out
        have QM := hide QM0
        clear QM0 LM
        have A2 : Hid (Row w w1 w.heap.size n o' ∧ Fresh (w.heap.size + 1) v1 ∧ Below w.heap.size w w1) := ⟨A1.out.1, A1.out.2.1, A1.out.2.2.2⟩
        clear A1
        go_wp2_with fail
        have few2 := few_lt M2 MB.out (by have := RB.out; omega)
        have kc := cmpL_spec v1 (.slice q lb.length cb) l1 lb w1 L2 (HB.out.later A2.out.2.2) M2.ok MB.out.ok (by omega) (by omega)
        rw [M2.val, MB.out.val] at kc
        have ge1 : B ≤ R + R → 0 ≤ cmpI (R + R) B := fun h => by unfold cmpI; split <;> (try split) <;> omega
        have lt1 : ¬ B ≤ R + R → ¬ 0 ≤ cmpI (R + R) B := fun h => by unfold cmpI; rw [if_pos (by omega)]; omega
        obtain ⟨d, hd⟩ : ∃ d, d = cmpI (R + R) B := ⟨_, rfl⟩
        have KC : Hid (Calls Try.prog 68 #[v1, .slice q lb.length cb] w1 fun e w' => e = .returned (.int .i64 d) ∧ Below (w1).heap.size w1 w') := by rw [hd]; exact kc
        rw [← hd] at ge1 lt1
        clear kc hd
        by_cases g : B ≤ R + R
        · have d1 := ge1 g
          clear ge1 lt1
          have G := hide g
          clear g
          refine KC.out.mono ?_
          rintro e w3 ⟨rfl, h3⟩
          have ks2 := subL_spec v1 (.slice q lb.length cb) l1 lb w3 (L2.later h3) (HB.out.later (A2.out.2.2.trans (h3.mono A2.out.2.2.size))) M2.ok MB.out.ok (by omega) (length_le_of_val MB.out.ok MB.out.top M2.ok (by rw [M2.val, MB.out.val]; exact G.out)) (by rw [M2.val, MB.out.val]; exact G.out)
          rw [M2.val, MB.out.val] at ks2
          have A3 : Hid (Row w w3 w.heap.size n o') := A2.out.1.later h3
          clear A2 L2 h3 KC few2
          go_wp2_with fail
          refine ks2.mono ?_
          clear ks2
          rintro e w4 ⟨v4, l4, rfl, L4, M4, h4, f4⟩
          have A4 : Hid (Row w w4 w.heap.size n o' ∧ Fresh (w.heap.size + 1) v4) := ⟨A3.out.later h4, fun a n c e => Nat.le_trans A3.out.lt (f4 a n c e)⟩
          clear A3 h4 f4
          obtain ⟨e1, e2⟩ := A4.out.1.at_ (k / 16) kn
          obtain ⟨dv, dq⟩ := div_limb A4.out.1.ok A4.out.1.len (by omega) QM.out.1
          obtain ⟨z0, z1⟩ := ok_at A4.out.1.ok (k / 16)
          have lt4 := A4.out.1.lt
          obtain ⟨z, hz⟩ : ∃ z, z = o'.getD (k / 16) 0 := ⟨_, rfl⟩
          rw [← hz] at e1 z0 z1 dv dq
          obtain ⟨j1, j2⟩ := u32_join z (k % 16) (by omega) z0 z1 dv
          have pl := p2_le (k % 16) (by omega)
          have pp := p2_pos (k % 16)
          obtain ⟨z', hz'⟩ : ∃ y, y = z + p2 (k % 16) := ⟨_, rfl⟩
          rw [← hz'] at j1 j2 dq
          have j3 : bits .or .u32 z (2 ^ (k % 16)) = z' := by rw [← ep]; exact j1
          have j4 : bits .or .u32 z (IntKind.u32.wrap (2 ^ (k % 16))) = z' := by rw [IntKind.wrap_u32, ← ep, Int.emod_eq_of_lt (by omega) (by omega)]; exact j1
          have j5 : bits .or .u32 z (2 ^ (k % 16) % 4294967296) = z' := by rw [← ep, Int.emod_eq_of_lt (by omega) (by omega)]; exact j1
          have ST : Hid (∀ r, DivAt w ((w4.drewN r).setCell ⟨w.heap.size, k / 16, none⟩ (.int .u32 z')) la B n k v4 (o'.set (k / 16) z') l4 (2 * Q + 1) (R + R - B)) := fun r =>
            ⟨A4.out.1.set (k / 16) z' (by omega) j2 r, Limbs.other (w := w4.drewN r) (L4.later (below_drewN (Below.refl _ _) r)) A4.out.2 _, M4, A4.out.2, by have := RB.out; have := BT.out; omega, by omega, more_q R2, dq⟩
          have ST0 : Hid (DivAt w (w4.setCell ⟨w.heap.size, k / 16, none⟩ (.int .u32 z')) la B n k v4 (o'.set (k / 16) z') l4 (2 * Q + 1) (R + R - B)) := ST.out 0
          clear A4 dv dq hz hz' j1 L4 M4 R2 DR
          go_wp2
          (try go_quiet (fail))
          (try go_wp2)
          go_roundw
          case rel => exact ⟨k, _, _, _, _, by go_num, by first | exact ST0.out | exact ST.out _⟩
          case measure => simp [intOf]
        · have d1 := lt1 g
          clear ge1 lt1
          have G := hide g
          clear g
          refine KC.out.mono ?_
          rintro e w3 ⟨rfl, h3⟩
          have ST : Hid (DivAt w w3 la B n k v1 o' l1 (2 * Q) (R + R)) := ⟨A2.out.1.later h3, L2.later h3, M2, A2.out.2.1, by have := G.out; omega, by omega, by rw [R2], two_p2 QM.out.1⟩
          clear A2 L2 h3 KC few2 M2 R2 DR
          go_wp2_with fail
          go_roundw
          case rel => exact ⟨k, _, _, _, _, by go_num, ST.out⟩
          case measure => simp [intOf]
set_option maxRecDepth 100000 in
set_option maxHeartbeats 2000000 in
theorem divL_none (p q : Option Addr) (cap cb n : Nat) (B : Int) (w : World) (nb : n ≤ 100) :
    Calls Try.prog 60 #[.slice p 0 cap, .slice q n cb] w (DivPost w 0 B) := by
  have hmk : ∀ w : World, (Instr.makeSlice 62 (.int .i64 0) (.int .i64 0)).run Try.prog w = .ok (.slice (some ⟨w.heap.size, 0, none⟩) 0 0) (w.alloc (.cells (madeCells #[.int .u32 0] 0) 107)) := fun w => run_make_row' (P := Try.prog) 62 107 (.int .u32 0) 4 Try.underlying62 info_u32 rfl .i64 .i64 0 (by omega) (by omega) w
  have MD := hide (Row.made w 0 (by unfold maxLen; omega))
  have FIN : Hid (∀ w', Below w.heap.size w w' → DivPost w 0 B (.returned (.tuple #[.slice (some ⟨w.heap.size, 0, none⟩) 0 0, .slice none 0 0])) w') := fun w' h =>
    ⟨_, [], _, [], rfl, .inl ⟨_, _, rfl, rfl⟩, by rw [Int.zero_ediv]; exact Mag.nil, Limbs.nil _, by rw [Int.zero_emod]; exact Mag.nil, h⟩
  go_enter Try.func60, Try.ntmps60
  go_wp2
  clear hmk
  refine wp_loop_rounds 1 ?_
  rw [rounds_succ]
  go_wp2_with fail
  refine (trim_none _ _ _).mono ?_
  rintro e w' ⟨rfl, rfl⟩
  go_wp2_with fail
  refine (trim_none _ _ _).mono ?_
  rintro e w' ⟨rfl, rfl⟩
  go_wp2_with fail
  go_returns
  exact FIN.out _ (by go_grown)
theorem divL_spec (p q : Option Addr) (ca cb : Nat) (la lb : List Int) (B : Int) (w : World) (Ha : Limbs w (.slice p la.length ca) la) (Hb : Limbs w (.slice q lb.length cb) lb) (oa : Ok la) (mb : Mag lb B) (pb : 0 < B) (na : la.length ≤ 100) (nb : lb.length ≤ 100) :
    Calls Try.prog 60 #[.slice p la.length ca, .slice q lb.length cb] w (DivPost w (val la) B) := by
  rcases Ha with ⟨x, c, rfl, e⟩ | ⟨b, o, c, e, hc, hb, hs, hh⟩
  · simp only [Value.slice.injEq] at e
    obtain ⟨rfl, _, rfl⟩ := e
    exact divL_none p q ca cb _ B w nb
  · simp only [Value.slice.injEq] at e
    obtain ⟨rfl, _, rfl⟩ := e
    exact divL_some b o ca q cb _ la lb B w rfl na nb oa mb pb hb hh Hb
end Go.Proofs.Ytebiddmadmmfpaa
/- The reference of layer 1: its faces: RootN, Root. -/
namespace Go.Proofs.Ytebiddmadmmfpaa
set_option linter.unusedVariables false
open Go.RowKit W Lb
/-- A box of a number's two cells. -/
structure NBox (w : World) (r : Nat) (b : Bool) (v : Value) : Prop where
  r0 : w.cell? ⟨r, 0, none⟩ = some (.bool b)
  r1 : w.cell? ⟨r, 1, none⟩ = some v
  g0 : w.frozen? ⟨r, 0, none⟩ = false
  g1 : w.frozen? ⟨r, 1, none⟩ = false
  sh : w.shape? r = some (64, 2)
  lt : r < w.heap.size
theorem NBox.later {w w' : World} {r : Nat} {b : Bool} {v : Value} (h : NBox w r b v) (k : Below w.heap.size w w') : NBox w' r b v :=
  ⟨(k.cell (p := ⟨r, 0, none⟩) h.lt).trans h.r0, (k.cell (p := ⟨r, 1, none⟩) h.lt).trans h.r1, (k.frozen (p := ⟨r, 0, none⟩) h.lt).trans h.g0, (k.frozen (p := ⟨r, 1, none⟩) h.lt).trans h.g1, (shape_later k h.lt).trans h.sh, Nat.lt_of_lt_of_le h.lt k.size⟩
theorem NBox.ne {w : World} {r q : Nat} {b : Bool} {v : Value} (h : NBox w r b v) (hq : r ≠ q) (i : Nat) (x : Value) : NBox (w.setCell ⟨q, i, none⟩ x) r b v := by
  have hb : (w.setCell ⟨q, i, none⟩ x).heap[r]? = w.heap[r]? := Below.heap_setCell w _ x r hq
  exact ⟨(World.cell?_of_block (w := w) hb).trans h.r0, (World.cell?_of_block (w := w) hb).trans h.r1, (World.frozen?_of_block (w := w) hb).trans h.g0, (World.frozen?_of_block (w := w) hb).trans h.g1, by rw [shape_set]; exact h.sh, by have := h.lt; simpa [World.setCell] using this⟩
/-- The state of the loop: m bits are left; R so far. -/
structure RootN (w wr : World) (s : Bool) (pa : Option Addr) (ca : Nat) (la : List Int) (A : Int) (m : Nat) (pr : Option Addr) (cr : Nat) (lr : List Int) (R : Int) : Prop where
  a : NBox wr w.heap.size s (.slice pa la.length ca)
  z : NBox wr (w.heap.size + 1) false (.slice none 0 0)
  r : NBox wr (w.heap.size + 1 + 1) false (.slice pr lr.length cr)
  na : IsNum wr s pa ca la A
  nr : IsNum wr false pr cr lr R
  mm : m ≤ 8 * la.length + 9
  lo : 0 ≤ R
  sq : R * R ≤ A
  up : A < (R + p2 m) * (R + p2 m)
  below : Below w.heap.size w wr
theorem p2_mono {m n : Nat} (h : m ≤ n) : p2 m ≤ p2 n := by
  obtain ⟨k, rfl⟩ := Nat.exists_eq_add_of_le h
  rw [p2_add]
  have a := p2_pos m; have b := p2_pos k
  have : p2 m * 1 ≤ p2 m * p2 k := Int.mul_le_mul_of_nonneg_left (by omega) (by omega)
  omega
theorem few_root {a R p : Int} {l : List Int} (r0 : 0 ≤ R) (h : R * R ≤ a) (e : val l = a) (o : Ok l) (hl : l.length ≤ 17) (p0 : 0 < p) (hp : p ≤ p2 150) : Lb.ab (R + p) < pw 18 := by
  have a1 := val_lt' o hl
  have e17 : pw 17 = p2 272 := by rw [← p2_pw]
  have e18 : pw 18 = p2 288 := by rw [← p2_pw]
  have r1 : R < p2 136 := by
    apply Decidable.byContradiction; intro g
    have : p2 136 * p2 136 ≤ R * R := Int.mul_le_mul (by omega) (by omega) (Int.le_of_lt (p2_pos _)) r0
    have : p2 136 * p2 136 = p2 272 := by rw [← p2_add]
    omega
  have e136 := p2_mono (show 136 ≤ 150 by decide)
  have e151 : p2 151 = 2 * p2 150 := rfl
  have e288 := p2_mono (show 151 ≤ 288 by decide)
  unfold Lb.ab; split <;> omega
theorem few_sq {a R p : Int} {l : List Int} (r0 : 0 ≤ R) (h : R * R ≤ a) (e : val l = a) (o : Ok l) (hl : l.length ≤ 17) (p0 : 0 < p) (hp : p ≤ p2 150) : Lb.ab ((R + p) * (R + p)) < pw 38 := by
  have f := few_root r0 h e o hl p0 hp
  have e1 : Lb.ab (R + p) = R + p := by unfold Lb.ab; rw [if_neg (by omega)]
  rw [e1] at f
  have q := prod_lt (show 0 ≤ R + p by omega) (show 0 ≤ R + p by omega) f f
  have m := pw_mono (show 18 + 18 + 1 ≤ 38 by decide)
  have n := Int.mul_nonneg (show 0 ≤ R + p by omega) (show 0 ≤ R + p by omega)
  unfold Lb.ab; rw [if_neg (by omega)]; omega
theorem num_pos {w : World} {p : Option Addr} {c : Nat} {l : List Int} {z : Int} (L : Limbs w (.slice p l.length c) l) (M : Mag l z) (h : 0 ≤ z) : IsNum w false p c l z := by
  refine ⟨?_, L, ?_⟩
  · rw [decide_eq_false (by omega)]
  · have e : Lb.ab z = z := by unfold Lb.ab; rw [if_neg (by omega)]
    rw [e]; exact M
theorem limbs_bit (w : World) (n i : Nat) (x : Int) (hm : n ≤ maxLen) : Limbs (w.alloc (.cells ((madeCells #[.int .u32 0] n).setIfInBounds i (.int .u32 x)) 107)) (.slice (some ⟨w.heap.size, 0, none⟩) n n) ((List.replicate n 0).set i x) := by
  have := World.ownsRow_lit (size := 1) (e := 107) w ((madeCells #[.int .u32 0] n).setIfInBounds i (.int .u32 x)) n (Nat.le_refl _) hm (by simp [size_madeCells])
  rw [Array.toList_setIfInBounds, toList_madeCells_one] at this
  refine (Limbs.of_own (base := w.heap.size) (n := n) ?_).1
  rw [List.map_set, List.map_replicate]; exact this
theorem root_cmp {x y : Int} : (cmpI x y ≤ 0) ↔ x ≤ y := by unfold cmpI; split <;> (try split) <;> omega
theorem root_up {A R : Int} {k : Nat} (h : A < (R + p2 (k + 1)) * (R + p2 (k + 1))) : A < (R + p2 k + p2 k) * (R + p2 k + p2 k) := by
  have e : R + p2 k + p2 k = R + p2 (k + 1) := by show _ = R + 2 * p2 k; omega
  rw [e]; exact h
theorem root_next {w v : World} {s : Bool} {pa pr p1 : Option Addr} {ca cr c1 : Nat} {la lr l1 : List Int} {A T : Int} {k : Nat} (ha : NBox v w.heap.size s (.slice pa la.length ca)) (hz : NBox v (w.heap.size + 1) false (.slice none 0 0)) (hr : NBox v (w.heap.size + 1 + 1) false (.slice pr lr.length cr))
    (na : IsNum v s pa ca la A) (nt : IsNum v false p1 c1 l1 T) (bl : Below w.heap.size w v) (mm : k ≤ 8 * la.length + 9) (t0 : 0 ≤ T) (sq : T * T ≤ A) (up : A < (T + p2 k) * (T + p2 k)) :
    RootN w ((v.setCell ⟨w.heap.size + 1 + 1, 0, none⟩ (.bool false)).setCell ⟨w.heap.size + 1 + 1, 1, none⟩ (.slice p1 l1.length c1)) s pa ca la A k p1 c1 l1 T := by
  obtain ⟨q0, q1, q2, q3, q4, q5⟩ := hr
  have ne : (64 : TypeId) ≠ 107 := by decide
  refine ⟨(ha.ne (by omega) _ _).ne (by omega) _ _, (hz.ne (by omega) _ _).ne (by omega) _ _, ⟨?_, ?_, ?_, ?_, ?_, ?_⟩, (na.set q4 ne _).set (by rw [shape_set]; exact q4) ne _, (nt.set q4 ne _).set (by rw [shape_set]; exact q4) ne _, mm, t0, sq, up, (bl.setCell (by show w.heap.size ≤ w.heap.size + 1 + 1; omega) _).setCell (by show w.heap.size ≤ w.heap.size + 1 + 1; omega) _⟩
  · simp [go_sem, q0, q5]
  · refine World.cell?_setCell_same' _ _ _ ?_; simp [go_sem, q1]
  · simp [go_sem, q2]
  · simp [go_sem, q3]
  · rw [shape_set, shape_set]; exact q4
  · simpa [World.setCell] using q5
set_option maxRecDepth 100000 in
set_option maxHeartbeats 8000000 in
theorem rootN_spec (s : Bool) (pa : Option Addr) (ca : Nat) (la : List Int) (A : Int) (w : World) (H : IsNum w s pa ca la A) (a0 : 0 ≤ A) (hl : la.length ≤ 17) :
    Calls Try.prog 47 #[.agg #[.bool s, .slice pa la.length ca]] w fun e w' => ∃ R, NumPost w R e w' ∧ 0 ≤ R ∧ R * R ≤ A ∧ A < (R + 1) * (R + 1) := by
  have HH := hide H
  have eA : Lb.ab A = A := by unfold Lb.ab; rw [if_neg (by omega)]
  have st := root_start la H.mag.ok
  rw [H.mag.val, eA] at st
  have ST := hide st
  have A0 := hide a0
  have VA : Hid (val la = A ∧ Ok la) := ⟨by rw [H.mag.val, eA], H.mag.ok⟩
  clear H st eA a0
  go_enter Try.func47, Try.ntmps47
  go_wp2_with fail
  go_loopw [4] (fun i wr => ∃ (m : Nat) (pr : Option Addr) (cr : Nat) (lr : List Int) (R : Int), i = .int .i64 ((m : Int) - 1) ∧ RootN w wr s pa ca la A m pr cr lr R) (fun i _ => (intOf i + 1).toNat)
  case atStart =>
    refine ⟨8 * la.length + 9, none, 0, [], 0, by go_num, ⟨?_, ?_, ?_, ?_, ?_, ?_⟩, ⟨?_, ?_, ?_, ?_, ?_, ?_⟩, ⟨?_, ?_, ?_, ?_, ?_, ?_⟩, HH.out.later ?_, isNum_zero _, by omega, by omega, by have := A0.out; omega, ST.out, ?_⟩
    all_goals first | (go_grown; done) | (refine shape_top _ _ _ _ ?_; (first | rfl | (simp; done)); done) | (refine (shape_old _ _ ?_).trans (shape_top _ _ _ _ ?_) <;> first | rfl | (simp; done) | (simp; omega)) | (refine (shape_old _ _ ?_).trans ((shape_old _ _ ?_).trans (shape_top _ _ _ _ ?_)) <;> first | rfl | (simp; done) | (simp; omega)) | (simp [go_sem]; done) | (simp; done) | (simp; omega)
  case round =>
    obtain ⟨m, pr, cr, lr, R, rfl, inv⟩ := hrel
    have I := hide inv
    clear inv
    rcases m with _ | k
    · have e0 : ((0 : Nat) : Int) - 1 = -1 := by omega
      rw [e0]
      clear e0
      obtain ⟨q0, q1, q2, q3, q4, q5⟩ := I.out.r
      obtain ⟨z0, z1, z2, z3, z4, z5⟩ := I.out.z
      have F := hide (num_end I.out.nr I.out.below z4 (by omega))
      have FR : Hid (0 ≤ R ∧ R * R ≤ A ∧ A < (R + 1) * (R + 1)) := ⟨I.out.lo, I.out.sq, I.out.up⟩
      clear I q4 z4
      go_wp2_with fail
      refine bodyPost_ret (by simp [results, Try.results47, go_sem, q0, q1, z0, z1, z2, z3, z5, q5]; try rfl) rfl ?_
      exact ⟨R, F.out _ _, FR.out⟩
    · have ei : ((k + 1 : Nat) : Int) - 1 = k := by omega
      rw [ei]
      clear ei
      have mm := I.out.mm
      obtain ⟨n, hn⟩ : ∃ n, n = k / 16 + 1 := ⟨_, rfl⟩
      have en : (k : Int) / 16 + 1 = n := by omega
      have kn : k / 16 < n := by omega
      have n1 : n ≤ 20 := by omega
      have hmk := run_make_row' (P := Try.prog) 62 107 (.int .u32 0) 4 Try.underlying62 info_u32 rfl .i64 .i64 n (by omega) (by omega)
      have ep : p2 (k % 16) = 2 ^ (k % 16) := p2_pow _
      have pl := p2_le (k % 16) (by omega)
      have pp := p2_pos (k % 16)
      have RW := hide (limbs_bit wr n (k / 16) (p2 (k % 16)) (by unfold maxLen; omega))
      have OB := hide (ok_set (show Ok (List.replicate n 0) by intro y hy; have := List.eq_of_mem_replicate hy; subst this; exact ⟨by omega, by omega⟩) (k / 16) (x := p2 (k % 16)) (by omega) (by omega))
      have hc0 : (madeCells #[Value.int .u32 0] n)[k / 16]? = some (.int .u32 0) := by rw [← Array.getElem?_toList, toList_madeCells_one]; simp [List.getElem?_replicate, kn]
      obtain ⟨x, hx⟩ : ∃ x, x = p2 (k % 16) := ⟨_, rfl⟩
      have j1 : (2 : Int) ^ (k % 16) = x := by rw [← ep, hx]
      have j2 : IntKind.u32.wrap (2 ^ (k % 16)) = x := by rw [j1, IntKind.wrap_u32]; omega
      have j3 : x % 4294967296 = x := by omega
      have ks : k % 16 < 32 := by omega
      have BV : Hid (val ((List.replicate n 0).set (k / 16) (p2 (k % 16))) = p2 k) := by
        show _ = _
        rw [val_set _ _ (by simp; omega), val_rep, ← p2_pw]
        have : (List.replicate n (0 : Int)).getD (k / 16) 0 = 0 := by simp [List.getD_eq_getElem?_getD, List.getElem?_replicate]; split <;> rfl
        rw [this, Int.zero_add, Int.sub_zero, ← p2_add]; congr 1; omega
      rw [← hx] at RW BV OB
      obtain ⟨q0, q1, q2, q3, q4, q5⟩ := I.out.r
      clear hx ep pl pp hn
      go_upto_region 7 with (fail)
      clear hmk hc0 j1 j2 j3
      refine abs_wp (fun W => Limbs W (.slice (some ⟨wr.heap.size, 0, none⟩) n n) ((List.replicate n 0).set (k / 16) x) ∧ Hid (Below wr.heap.size wr W)) ?_ ?_
      · exact ⟨RW.out, (Below.refl _ _).alloc (Nat.le_refl _) _⟩
      rintro W ⟨LB, BW⟩
      clear RW
      have J := hide (And.intro (I.out.a.later BW.out) (And.intro (I.out.z.later BW.out) (And.intro (I.out.r.later BW.out) (And.intro (I.out.na.later BW.out) (And.intro (I.out.nr.later BW.out) (I.out.below.trans (BW.out.mono I.out.below.size)))))))
      have P := hide (And.intro I.out.lo (And.intro I.out.sq I.out.up))
      clear I BW q0 q1 q2 q3 q4 q5
      obtain ⟨q0, q1, q2, q3, q4, q5⟩ := J.out.2.2.1
      have lenR : lr.length ≤ 18 := by
        have := few_root (p := 1) P.out.1 P.out.2.1 VA.out.1 VA.out.2 hl (by omega) (by have := p2_pos 150; omega)
        have h2 : Lb.ab R < pw 18 := by have := P.out.1; unfold Lb.ab at *; split <;> (try split at this) <;> omega
        exact J.out.2.2.2.2.1.few 18 h2
      have ka := addL_spec (.slice pr lr.length cr) (.slice (some ⟨wr.heap.size, 0, none⟩) n n) lr _ W J.out.2.2.2.2.1.lim LB J.out.2.2.2.2.1.mag.ok OB.out (by omega) (by simp; omega)
      rw [J.out.2.2.2.2.1.mag.val, BV.out] at ka
      have eR : Lb.ab R = R := by have := P.out.1; unfold Lb.ab; rw [if_neg (by omega)]
      rw [eR] at ka
      clear LB OB BV eR
      go_wp2_with fail
      refine ka.mono ?_
      clear ka
      rintro e w1 ⟨v1, l1, rfl, L1, M1, h1, f1⟩
      obtain ⟨p1, c1, rfl⟩ := L1.form
      have T0 : 0 ≤ R + p2 k := by have := P.out.1; have := p2_pos k; omega
      have NT : IsNum w1 false p1 c1 l1 (R + p2 k) := num_pos L1 M1 T0
      have lenT : l1.length ≤ 18 := NT.few 18 (few_root P.out.1 P.out.2.1 VA.out.1 VA.out.2 hl (p2_pos k) (p2_mono (by omega)))
      have J1 := hide (And.intro (J.out.1.later h1) (And.intro (J.out.2.1.later h1) (And.intro (J.out.2.2.1.later h1) (And.intro (J.out.2.2.2.1.later h1) (And.intro (J.out.2.2.2.2.1.later h1) (J.out.2.2.2.2.2.trans (h1.mono J.out.2.2.2.2.2.size)))))))
      have NTH := hide NT
      clear J L1 M1 h1 f1 NT q0 q1 q2 q3 q4 q5 lenR T0
      obtain ⟨a0', a1', a2', a3', a4', a5'⟩ := J1.out.1
      obtain ⟨q0, q1, q2, q3, q4, q5⟩ := J1.out.2.2.1
      go_upto_region 8 with (fail)
      refine abs_wp (fun W => NBox W w1.heap.size false (.slice p1 l1.length c1) ∧ Hid (Below w1.heap.size w1 W)) ?_ ?_
      · refine ⟨⟨?_, ?_, ?_, ?_, ?_, ?_⟩, (by show Below _ _ _; go_grown)⟩
        all_goals first | (refine shape_top _ _ _ _ ?_; (first | rfl | (simp; done)); done) | (simp [go_sem]; done) | (simp; done)
      rintro W2 ⟨TB, BW⟩
      clear a0' a1' a2' a3' a4' a5' q0 q1 q2 q3 q4 q5
      have lt1 := TB.lt
      have J2 := hide (And.intro (J1.out.1.later BW.out) (And.intro (J1.out.2.1.later BW.out) (And.intro (J1.out.2.2.1.later BW.out) (And.intro (J1.out.2.2.2.1.later BW.out) (And.intro (J1.out.2.2.2.2.1.later BW.out) (And.intro (J1.out.2.2.2.2.2.trans (BW.out.mono J1.out.2.2.2.2.2.size)) (NTH.out.later BW.out)))))))
      have lt2 := J1.out.2.2.1.lt
      clear J1 BW NTH
      obtain ⟨x0, x1, x2, x3, x4, x5⟩ := J2.out.1
      have TBH := hide TB
      have NRH := hide J2.out.2.2.2.2.1
      obtain ⟨t0, t1, t2, t3, t4, t5⟩ := TB
      have KMU := fun w' (K : Keeps W2.heap.size W2 w') => mulN_spec false false p1 p1 c1 c1 l1 l1 (R + p2 k) (R + p2 k) w' (J2.out.2.2.2.2.2.2.later K.below) (J2.out.2.2.2.2.2.2.later K.below) (by omega) (by omega)
      have few := few_sq P.out.1 P.out.2.1 VA.out.1 VA.out.2 hl (p2_pos k) (p2_mono (show k ≤ 150 by omega))
      have KCM := fun (sx : Bool) (px : Option Addr) (cx : Nat) (lx : List Int) (w' : World) (K : Keeps W2.heap.size W2 w') (N : IsNum w' sx px cx lx ((R + p2 k) * (R + p2 k))) => cmpN_spec sx s px pa cx ca lx la _ A w' N (J2.out.2.2.2.1.later K.below) (by have := N.few 38 few; omega) (by omega)
      obtain ⟨d, hd⟩ : ∃ d, d = cmpI ((R + p2 k) * (R + p2 k)) A := ⟨_, rfl⟩
      rw [← hd] at KCM
      have HD := hide hd
      clear hd few
      have K0 := Keeps.start (Nat.le_refl W2.heap.size)
      have K1 := K0.drew
      have y1 : w.heap.size < W2.heap.size := x5
      have y2 : w1.heap.size < W2.heap.size := t5
      by_cases hle : d ≤ 0
      · go_region_held3 (fun w' => w'.cell? ⟨w1.heap.size, 0, none⟩ = some (.bool false) ∧ w'.cell? ⟨w1.heap.size, 1, none⟩ = some (.slice p1 l1.length c1) ∧ w'.cell? ⟨w.heap.size, 0, none⟩ = some (.bool s) ∧ w'.cell? ⟨w.heap.size, 1, none⟩ = some (.slice pa la.length ca) ∧ Keeps W2.heap.size W2 w') ((refine (fun K => ⟨Keeps.cell K t0 y2, Keeps.cell K t1 y2, Keeps.cell K x0 y1, Keeps.cell K x1 y1, K⟩) (?_ : Keeps W2.heap.size W2 _); (repeat (first | assumption | refine Keeps.alloc ?_ _ | refine Keeps.drew ?_ | refine Keeps.setCell ?_ (by first | (simp; done) | omega | (simp; omega)) _))))
          (first
          | (go_at_call 30; (with_reducible refine (KMU _ (by repeat (first | assumption | refine Keeps.alloc ?_ _ | refine Keeps.drew ?_ | refine Keeps.setCell ?_ (by first | (simp; done) | omega | (simp; omega)) _))).mono ?_); rintro e v20 ⟨sx, px, cx, lx, rfl, NX, hb20⟩; have K20 := Keeps.call (B := W2.heap.size) (W := W2) (by repeat (first | assumption | refine Keeps.alloc ?_ _ | refine Keeps.drew ?_ | refine Keeps.setCell ?_ (by first | (simp; done) | omega | (simp; omega)) _)) hb20)
          | (go_at_call 70; (with_reducible refine (KCM _ _ _ _ _ (by repeat (first | assumption | refine Keeps.alloc ?_ _ | refine Keeps.drew ?_ | refine Keeps.setCell ?_ (by first | (simp; done) | omega | (simp; omega)) _)) (NX.later (by repeat (first | exact Below.refl _ _ | assumption | refine Below.setCell ?_ (by first | (simp; done) | omega | (simp; omega)) _ | refine Below.drew ?_ | refine below_drewN ?_ _ | refine Below.alloc ?_ (by first | (simp; done) | omega | (simp; omega)) _)))).mono ?_); rintro e v21 ⟨rfl, hb21⟩; have K21 := Keeps.call (B := W2.heap.size) (W := W2) (by repeat (first | assumption | refine Keeps.alloc ?_ _ | refine Keeps.drew ?_ | refine Keeps.setCell ?_ (by first | (simp; done) | omega | (simp; omega)) _)) hb21))
        all_goals
          have KZ := hide (And.intro (J2.out.1.later K21.below) (And.intro (J2.out.2.1.later K21.below) (And.intro (J2.out.2.2.1.later K21.below) (And.intro (J2.out.2.2.2.1.later K21.below) (And.intro (J2.out.2.2.2.2.2.2.later K21.below) (J2.out.2.2.2.2.2.1.trans (K21.below.mono J2.out.2.2.2.2.2.1.size)))))))
          have T1 := hide (TBH.out.later K21.below)
          obtain ⟨t0', t1', t2', t3', t4', t5'⟩ := TBH.out.later K21.below
          obtain ⟨q0, q1, q2, q3, q4, q5⟩ := KZ.out.2.2.1
          have SQ : Hid ((R + p2 k) * (R + p2 k) ≤ A) := root_cmp.1 (by rw [← HD.out]; exact hle)
          have FIN := hide (root_next (w := w) (k := k) KZ.out.1 KZ.out.2.1 KZ.out.2.2.1 KZ.out.2.2.2.1 KZ.out.2.2.2.2.1 KZ.out.2.2.2.2.2 (by omega) (by have := P.out.1; have := p2_pos k; omega) SQ.out (root_up P.out.2.2))
          clear K20 K21 KZ J2 KMU KCM HD NX T1 TBH P VA x0 x1 x2 x3 x4 x5 t0 t1 t2 t3 t4 t5 SQ q4 t4'
          go_wp2_with fail
          go_roundw
          case rel => exact ⟨k, _, _, _, _, by go_num, FIN.out⟩
          case measure => simp [intOf]
      · go_region_held3 (fun w' => w'.cell? ⟨w1.heap.size, 0, none⟩ = some (.bool false) ∧ w'.cell? ⟨w1.heap.size, 1, none⟩ = some (.slice p1 l1.length c1) ∧ w'.cell? ⟨w.heap.size, 0, none⟩ = some (.bool s) ∧ w'.cell? ⟨w.heap.size, 1, none⟩ = some (.slice pa la.length ca) ∧ Keeps W2.heap.size W2 w') ((refine (fun K => ⟨Keeps.cell K t0 y2, Keeps.cell K t1 y2, Keeps.cell K x0 y1, Keeps.cell K x1 y1, K⟩) (?_ : Keeps W2.heap.size W2 _); (repeat (first | assumption | refine Keeps.alloc ?_ _ | refine Keeps.drew ?_ | refine Keeps.setCell ?_ (by first | (simp; done) | omega | (simp; omega)) _))))
          (first
          | (go_at_call 30; (with_reducible refine (KMU _ (by repeat (first | assumption | refine Keeps.alloc ?_ _ | refine Keeps.drew ?_ | refine Keeps.setCell ?_ (by first | (simp; done) | omega | (simp; omega)) _))).mono ?_); rintro e v20 ⟨sx, px, cx, lx, rfl, NX, hb20⟩; have K20 := Keeps.call (B := W2.heap.size) (W := W2) (by repeat (first | assumption | refine Keeps.alloc ?_ _ | refine Keeps.drew ?_ | refine Keeps.setCell ?_ (by first | (simp; done) | omega | (simp; omega)) _)) hb20)
          | (go_at_call 70; (with_reducible refine (KCM _ _ _ _ _ (by repeat (first | assumption | refine Keeps.alloc ?_ _ | refine Keeps.drew ?_ | refine Keeps.setCell ?_ (by first | (simp; done) | omega | (simp; omega)) _)) (NX.later (by repeat (first | exact Below.refl _ _ | assumption | refine Below.setCell ?_ (by first | (simp; done) | omega | (simp; omega)) _ | refine Below.drew ?_ | refine below_drewN ?_ _ | refine Below.alloc ?_ (by first | (simp; done) | omega | (simp; omega)) _)))).mono ?_); rintro e v21 ⟨rfl, hb21⟩; have K21 := Keeps.call (B := W2.heap.size) (W := W2) (by repeat (first | assumption | refine Keeps.alloc ?_ _ | refine Keeps.drew ?_ | refine Keeps.setCell ?_ (by first | (simp; done) | omega | (simp; omega)) _)) hb21))
        all_goals
          have KZ := hide (And.intro (J2.out.1.later K21.below) (And.intro (J2.out.2.1.later K21.below) (And.intro (J2.out.2.2.1.later K21.below) (And.intro (J2.out.2.2.2.1.later K21.below) (And.intro (J2.out.2.2.2.2.2.2.later K21.below) (J2.out.2.2.2.2.2.1.trans (K21.below.mono J2.out.2.2.2.2.2.1.size)))))))
          have SQ : Hid (A < (R + p2 k) * (R + p2 k)) := by have := mt root_cmp.2 (by rw [← HD.out]; omega); show _ < _; omega
          have FIN : Hid (RootN w v21 s pa ca la A k pr cr lr R) := ⟨KZ.out.1, KZ.out.2.1, KZ.out.2.2.1, KZ.out.2.2.2.1, NRH.out.later K21.below, by omega, P.out.1, P.out.2.1, SQ.out, KZ.out.2.2.2.2.2⟩
          clear K20 K21 KZ J2 KMU KCM HD NX TBH P VA x0 x1 x2 x3 x4 x5 t0 t1 t2 t3 t4 t5 SQ
          go_wp2_with fail
          go_roundw
          case rel => exact ⟨k, _, _, _, _, by go_num, FIN.out⟩
          case measure => simp [intOf]
theorem V_zero (x : Int) : V 0 x = x := by unfold V; omega
theorem root_ex (m : Int) (a : 0 ≤ m) (b : m < 340282366920938463463374607431768211456) : ∃ r, RootAt m r 0 := by
  have go : ∀ (k : Nat) (r : Int), RootAt m r k → ∃ r, RootAt m r 0 := by
    intro k
    induction k with
    | zero => exact fun r h => ⟨r, h⟩
    | succ k ih =>
      intro r h
      by_cases s : (r + 2 ^ k) * (r + 2 ^ k) ≤ m
      · exact ih _ (h.yes s)
      · exact ih _ (h.no (by omega))
  exact go 64 0 (RootAt.start m a b)
theorem root_le {m r q : Int} (h : RootAt m r 0) (g : RootAt m q 0) : r ≤ q := by
  obtain ⟨_, a, _, _, s, _⟩ := h
  obtain ⟨_, b, _, _, _, u⟩ := g
  rw [Int.pow_zero] at u
  by_cases l : r ≤ q
  · exact l
  · have : (q + 1) * (q + 1) ≤ r * r := Int.mul_le_mul (by omega) (by omega) (by omega) a
    omega
end Go.Proofs.Ytebiddmadmmfpaa
/- timer: deviation, whole; median. (gen_tm2.py) -/
namespace Go.Proofs.Ytebiddmadmmfpaa
set_option linter.unusedVariables false
set_option linter.unusedSimpArgs false
open Go.RowKit W T9
/-- d is the greatest number whose square is not above q. -/
structure IsRt (q d : Int) : Prop where
  lo : 0 ≤ d
  sq : d * d ≤ q
  up : q < (d + 1) * (d + 1)
theorem rt_of {q d : Int} (h : RootAt q d 0) : IsRt q d := ⟨h.lo, h.sq, by have := h.up; rwa [Int.pow_zero] at this⟩
theorem rt_ex (q : Int) (a : 0 ≤ q) (b : q < 340282366920938463463374607431768211456) : ∃ d, IsRt q d := by
  obtain ⟨r, h⟩ := root_ex q a b
  exact ⟨r, rt_of h⟩
theorem rt_le {q d c : Int} (h : IsRt q d) (g : IsRt q c) : d ≤ c := by
  obtain ⟨a, s, _⟩ := h
  obtain ⟨b, _, u⟩ := g
  by_cases l : d ≤ c
  · exact l
  · have : (c + 1) * (c + 1) ≤ d * d := Int.mul_le_mul (by omega) (by omega) (by omega) a
    omega
theorem rt_one {q d c : Int} (h : IsRt q d) (g : IsRt q c) : d = c := by have := rt_le h g; have := rt_le g h; omega
theorem rt_mono {q p d b : Int} (h : IsRt q d) (hq : q ≤ p) (hb : 0 ≤ b) (hp : p ≤ b * b) : d ≤ b := by
  by_cases l : d ≤ b
  · exact l
  · have : (b + 1) * (b + 1) ≤ d * d := Int.mul_le_mul (by omega) (by omega) (by omega) h.lo
    have e : (b + 1) * (b + 1) = b * b + 2 * b + 1 := by simp only [Int.add_mul, Int.mul_add]; omega
    have := h.sq
    omega
theorem wroot_is (q d : Int) (h : IsRt q d) (f : Fits q) (w : World) :
    Calls Try.prog 65 #[.agg #[.int .i64 (hi q), .int .u64 (lo q)]] w fun e w' => e = .returned (.tuple #[.agg #[.int .i64 0, .int .u64 d], .int .i64 0]) ∧ Below w.heap.size w w' := by
  have q0 : 0 ≤ q := by have := h.sq; have := Int.mul_nonneg h.lo h.lo; omega
  have i := hiV_isW f
  have ks := sign_spec (hi q) (lo q) i.b
  have ka := amount_spec (hi q) (lo q) i.b i.a
  rw [V_hi_lo] at ks ka
  have ea : ab q = q := by unfold ab; rw [if_neg (by omega)]
  rw [ea] at ka
  have c0 : ¬ cmpI q 0 < 0 := by unfold cmpI; split <;> (try split) <;> omega
  refine (root_pos (hi q) (lo q) (hi q) (lo q) _ _ c0 ⟨by unfold hi; omega, by have := f.b; unfold hi; omega⟩ (isLo_lo _) ks ka w).mono ?_
  rintro e w' ⟨⟨r, rfl, hr⟩, hb⟩
  rw [V_hi_lo] at hr
  rw [rt_one (rt_of hr) h]
  exact ⟨rfl, hb⟩
theorem hi_zero {d : Int} (a : 0 ≤ d) (b : d < 18446744073709551616) : hi d = 0 ∧ lo d = d := by unfold hi lo; omega
theorem small_zero (d : Int) (h : IsHi d) (h0 : 0 ≤ d) (w : World) :
    Calls Try.prog 55 #[.agg #[.int .i64 0, .int .u64 d]] w fun e w' => e = .returned (.tuple #[.int .i64 d, .bool true]) ∧ Below w.heap.size w w' := by
  have k := small_pos d h w
  obtain ⟨_, _⟩ := h
  rw [(hi_zero h0 (by omega)).1, (hi_zero h0 (by omega)).2] at k
  exact k
theorem sq14 : (100000000000000 : Int) * 100000000000000 = 10000000000000000000000000000 := by decide
theorem samples_near {xs : List Int} {m : Int} (hf : fineB xs = true) (m0 : 0 ≤ m) (m1 : m ≤ 100000000000000) : ∀ x ∈ xs, -100000000000000 ≤ x - m ∧ x - m ≤ 100000000000000 := by
  intro x hx; have := fine_mem hf hx; omega
theorem sqC_div {xs : List Int} {m : Int} (hf : fineB xs = true) (m0 : 0 ≤ m) (m1 : m ≤ 100000000000000) (l0 : 0 < xs.length) :
    0 ≤ sqC m xs ∧ sqC m xs ≤ xs.length * 10000000000000000000000000000 ∧ 0 ≤ sqC m xs / xs.length ∧ sqC m xs / xs.length ≤ 10000000000000000000000000000 := by
  have b := sqC_le (samples_near hf m0 m1) xs.length
  rw [List.take_length, sq14] at b
  have b2 : sqC m xs / xs.length ≤ 10000000000000000000000000000 := by
    have := Int.ediv_le_ediv (c := (xs.length : Int)) (by omega) b.2
    rwa [Int.mul_ediv_cancel_left _ (by omega)] at this
  exact ⟨b.1, b.2, Int.ediv_nonneg b.1 (by omega), b2⟩
theorem fits_resV2 (v : Int) : Fits (resV v) := by unfold resV; split; assumption; exact ⟨by omega, by omega⟩
theorem sq1_fits (m s v : Int) : Fits (sq1 m s v) := by unfold sq1; simp only; split; assumption; exact ⟨by omega, by omega⟩
theorem sqC_fits (m : Int) (xs : List Int) : Fits (sqC m xs) := by
  rcases Nat.eq_zero_or_pos xs.length with z | p
  · have : xs = [] := List.eq_nil_of_length_eq_zero z
    subst this; exact ⟨by simp [sqC], by simp [sqC]⟩
  · have e : xs.length - 1 < xs.length := by omega
    have h := sqC_take (m := m) e
    rw [show xs.length - 1 + 1 = xs.length by omega, List.take_length] at h
    rw [h]; exact sq1_fits _ _ _
/-- deviation. -/
theorem dev_spec (g o c : Nat) (xs : List Int) (m d : Int) (w : World) (hx : LieI .i64 w g o xs) (hl : xs.length ≤ 17592186044416) (l0 : 0 < xs.length) (hf : fineB xs = true) (m0 : 0 ≤ m) (m1 : m ≤ 100000000000000) (hd : IsRt (sqC m xs / xs.length) d) :
    Calls Try.prog 40 #[.slice (some ⟨g, o, none⟩) xs.length c, .int .i64 m] w fun e w' => e = .returned (.int .i64 d) ∧ Below w.heap.size w w' := by
  obtain ⟨b0, b1, b2, b3⟩ := sqC_div hf m0 m1 l0
  have d1 : d ≤ 100000000000000 := rt_mono hd b3 (by omega) (by rw [sq14]; omega)
  have kf := wof_spec xs.length (IsHi_nat (by omega))
  unfold wideRes at kf
  refine dev_some g o c xs m d w hx (by omega) l0 ?_ (fun k h => fine_mem hf (List.getElem_mem h)) m0 m1 (hi (sqC m xs)) (lo (sqC m xs)) _ _ _ _ _ _ _ _ _ _ _ rfl rfl kf (quo_pos _ _ b0 ?_ (by omega) (by omega)) (wroot_is _ d hd ⟨by omega, by omega⟩) (small_zero d ⟨by have := hd.lo; omega, by omega⟩ hd.lo)
  · intro k h
    have n := samples_near hf m0 m1 xs[k] (List.getElem_mem h)
    have q := sq_le n.1 n.2
    rw [sq14] at q
    refine ⟨⟨by omega, by omega⟩, ⟨by omega, by omega⟩, sqC_fits _ _, ?_⟩
    rw [sqC_take h]
    unfold sq1 resV
    simp only
  · have : (xs.length : Int) ≤ 17592186044416 := by omega
    have : (xs.length : Int) * 10000000000000000000000000000 ≤ 17592186044416 * 10000000000000000000000000000 := Int.mul_le_mul_of_nonneg_right this (by omega)
    have := (sqC_fits m xs).b
    omega
/-- The middle of a list by rising numbers. -/
def medL (xs : List Int) : Int := if xs.length % 2 = 1 then xs.getD (xs.length / 2) 0 else (xs.getD (xs.length / 2 - 1) 0 + xs.getD (xs.length / 2) 0) / 2
set_option maxRecDepth 100000 in
set_option maxHeartbeats 8000000 in
theorem med_odd (g o c k : Nat) (x : Int) (w : World) (hx : w.cell? ⟨g, o + k, none⟩ = some (.int .i64 x)) (hk : k ≤ 140737488355328) :
    CalcN 39 #[.slice (some ⟨g, o, none⟩) (2 * k + 1) c] w (.int .i64 x) := by
  have e1 : (2 * (k : Int) + 1) / 2 = k := by omega
  have e2 : (2 * (k : Int) + 1) % 2 = 1 := by omega
  go_enter Try.func39, Try.ntmps39
  go_wp2_with fail
  go_returns
  exact ⟨rfl, rfl⟩
set_option maxRecDepth 100000 in
set_option maxHeartbeats 8000000 in
theorem med_even (g o c k : Nat) (x y m : Int) (w : World) (hx : w.cell? ⟨g, o + k, none⟩ = some (.int .i64 x)) (hy : w.cell? ⟨g, o + (k + 1), none⟩ = some (.int .i64 y)) (hk : k ≤ 140737488355328)
    (x0 : 0 ≤ x) (x1 : x ≤ 100000000000000) (y0 : 0 ≤ y) (y1 : y ≤ 100000000000000) (hm : (x + y) / 2 = m) :
    Calls Try.prog 39 #[.slice (some ⟨g, o, none⟩) (2 * k + 1 + 1) c] w fun e w' => e = .returned (.int .i64 m) ∧ ∃ n, w' = w.drewN n := by
  have e1 : (2 * (k : Int) + 1 + 1) / 2 = k + 1 := by omega
  have e2 : (2 * (k : Int) + 1 + 1) % 2 = 0 := by omega
  have e3 : (k : Int) + 1 - 1 = k := by omega
  have M := hide hm
  clear hm
  go_enter Try.func39, Try.ntmps39
  go_wp2_with fail
  go_quiet (fail)
  go_wp2_with fail
  go_returns
  exact ⟨by rw [M.out]; rfl, _, rfl⟩
theorem at_getD {xs : List Int} {k : Nat} (h : k < xs.length) : xs.getD k 0 = xs[k] := by simp [List.getD_eq_getElem?_getD, h]
theorem med_spec (g o c : Nat) (xs : List Int) (w : World) (hx : LieI .i64 w g o xs) (hl : xs.length ≤ 17592186044416) (l0 : 0 < xs.length) (hf : fineB xs = true) :
    Calls Try.prog 39 #[.slice (some ⟨g, o, none⟩) xs.length c] w fun e w' => e = .returned (.int .i64 (medL xs)) ∧ Below w.heap.size w w' := by
  unfold medL
  by_cases p : xs.length % 2 = 1
  · obtain ⟨k, hk⟩ : ∃ k, xs.length = 2 * k + 1 := ⟨xs.length / 2, by omega⟩
    have e : xs.length / 2 = k := by omega
    have h := hx.cell k (by omega)
    have r := med_odd g o c k xs[k] w h (by omega)
    rw [← hk] at r
    rw [if_pos p, e, at_getD (by omega)]
    exact r.mono fun e w' q => ⟨q.1, by rw [← q.2]; exact Below.refl _ _⟩
  · obtain ⟨k, hk⟩ : ∃ k, xs.length = 2 * k + 1 + 1 := ⟨xs.length / 2 - 1, by omega⟩
    have e1 : xs.length / 2 - 1 = k := by omega
    have e2 : xs.length / 2 = k + 1 := by omega
    have h := hx.cell k (by omega)
    have h' := hx.cell (k + 1) (by omega)
    have b := fine_mem hf (List.getElem_mem (show k < xs.length by omega))
    have b' := fine_mem hf (List.getElem_mem (show k + 1 < xs.length by omega))
    have r := med_even g o c k xs[k] xs[k + 1] _ w h h' (by omega) b.1 b.2 b'.1 b'.2 rfl
    rw [← hk] at r
    rw [if_neg p, e1, e2, at_getD (show k < xs.length by omega), at_getD (show k + 1 < xs.length by omega)]
    exact r.mono fun e w' q => ⟨q.1, by obtain ⟨n, h⟩ := q.2; rw [h]; exact below_drewN (Below.refl _ _) n⟩
end Go.Proofs.Ytebiddmadmmfpaa
/- timer: sorted. -/
namespace Go.Proofs.Ytebiddmadmmfpaa
set_option linter.unusedVariables false
set_option linter.unusedSimpArgs false
open Go.RowKit W T9
theorem clone_some (b off c : Nat) (xs : List Int) (w : World) (hbig : xs.length * 8 ≤ 140737488355328) (hx : LieI .i64 w b off xs) :
    Calls Try.prog 63 #[.slice (some ⟨b, off, none⟩) xs.length c] w fun e w' => ∃ v', e = .returned v' ∧ w'.ownsRow w.heap.size 2 1 v' xs.length (xs.map (Value.int .i64)) ∧ v' ≠ .slice none 0 0 ∧ Below w.heap.size w w' := by
  have k := AnyG.slices_Clone_int Try.cloneL b off xs.length c xs w (Nat.le_refl _) hbig (fun j hj => by rw [hx.cell j hj]; simp [List.getD_eq_getElem?_getD, hj])
  rw [List.take_length] at k
  exact k
theorem sort_some (b cap : Nat) (xs : List Int) (w : World) (hH : Go.Sort.Holds (Value.int .i64) w b 0 xs.toArray) (hb : b < w.heap.size) (hl : xs.length ≤ 140737488355328) :
    Calls Try.prog 64 #[.slice (some ⟨b, 0, none⟩) xs.length cap] w fun e w' => e = .returned (.tuple #[]) ∧ ∃ n os, w' = Go.Sort.grow (Go.Sort.putRow (Value.int .i64) (Go.Sort.ahead w n) b 0 (srt xs).toArray) os :=
  AnyM.slices_Sort_int Try.sortL b 0 cap xs w hH hb (by omega)
def SortedPost (w : World) (xs : List Int) (e : Ending) (w' : World) : Prop :=
  ∃ h cap, e = .returned (.slice (some ⟨h, 0, none⟩) xs.length cap) ∧ LieI .i64 w' h 0 (srt xs) ∧ w.heap.size ≤ h ∧ xs.length ≤ cap ∧ Below w.heap.size w w'
set_option maxRecDepth 100000 in
set_option maxHeartbeats 4000000 in
theorem sorted_spec (b off c : Nat) (xs : List Int) (w : World) (hx : LieI .i64 w b off xs) (h0 : 0 < xs.length) (hl : xs.length ≤ 17592186044416) :
    Calls Try.prog 36 #[.slice (some ⟨b, off, none⟩) xs.length c] w (SortedPost w xs) := by
  have kc := clone_some b off c xs w (by omega) hx
  have Z := hide h0
  clear hx h0
  go_enter Try.func36, Try.ntmps36
  go_wp2_with fail
  refine kc.mono ?_
  rintro e w1 ⟨v, rfl, hown, hne, hb⟩
  rcases hown.2 with ⟨_, hz⟩ | ⟨g, cap, cur, rfl, hg, hh, hnc, hcm, hs, ht⟩
  · exact absurd Z.out (by omega)
  have glt := (hown.lt g rfl).2
  have hH := holds_of_blockI hh (by simpa using ht)
  have ks := sort_some g cap xs w1 hH glt (by omega)
  have F : Hid (∀ n os, SortedPost w xs (.returned (.slice (some ⟨g, 0, none⟩) xs.length cap)) (Go.Sort.grow (Go.Sort.putRow (Value.int .i64) (Go.Sort.ahead w1 n) g 0 (srt xs).toArray) os)) := by
    intro n os
    have o2 := ownsRow_sortedI (base := w.heap.size) (n := n) (os := os) (ss := xs) (ts := srt xs) (srt_len xs) hg hh hnc hcm hs
    have gr := grownBy_sortedI (w := w1) (g := g) (n := n) (os := os) (srt xs).toArray
    refine ⟨g, cap, rfl, ⟨fun j hj => ?_, ?_⟩, hg, hnc, hb.grown gr hb.size (by intro k hk; simp at hk; omega)⟩
    · have hj2 : j < xs.length := by rwa [srt_len] at hj
      rw [Nat.zero_add, o2.cellAt j (by omega)]
      simp [hj]
    · have := gr.size; omega
  clear hH hh ht hs hown hne kc hb
  go_wp2_with fail
  refine ks.mono ?_
  clear ks
  rintro e w2 ⟨rfl, n, os, hw⟩
  have F2 := F.out n os
  rw [← hw] at F2
  have F3 := hide F2
  clear F2 F hw
  go_wp2_with fail
  go_returns
  exact F3.out
end Go.Proofs.Ytebiddmadmmfpaa
/- timer: Of. (gen_tm2.py) -/
namespace Go.Proofs.Ytebiddmadmmfpaa
set_option linter.unusedVariables false
set_option linter.unusedSimpArgs false
open Go.RowKit W T9
/-- A box of 8 cells that may be written. -/
structure Box8 (w : World) (b : Nat) (x0 x1 x2 x3 x4 x5 x6 x7 : Value) : Prop where
  x0 : w.cell? ⟨b, 0, none⟩ = some x0
  x1 : w.cell? ⟨b, 1, none⟩ = some x1
  x2 : w.cell? ⟨b, 2, none⟩ = some x2
  x3 : w.cell? ⟨b, 3, none⟩ = some x3
  x4 : w.cell? ⟨b, 4, none⟩ = some x4
  x5 : w.cell? ⟨b, 5, none⟩ = some x5
  x6 : w.cell? ⟨b, 6, none⟩ = some x6
  x7 : w.cell? ⟨b, 7, none⟩ = some x7
  f0 : w.frozen? ⟨b, 0, none⟩ = false
  f1 : w.frozen? ⟨b, 1, none⟩ = false
  f2 : w.frozen? ⟨b, 2, none⟩ = false
  f3 : w.frozen? ⟨b, 3, none⟩ = false
  f4 : w.frozen? ⟨b, 4, none⟩ = false
  f5 : w.frozen? ⟨b, 5, none⟩ = false
  f6 : w.frozen? ⟨b, 6, none⟩ = false
  f7 : w.frozen? ⟨b, 7, none⟩ = false
  lt : b < w.heap.size
theorem Box8.later {w w' : World} {b : Nat} {x0 x1 x2 x3 x4 x5 x6 x7 : Value} (h : Box8 w b x0 x1 x2 x3 x4 x5 x6 x7) (k : Below w.heap.size w w') : Box8 w' b x0 x1 x2 x3 x4 x5 x6 x7 :=
  ⟨(k.cell (p := ⟨b, 0, none⟩) h.lt).trans h.x0, (k.cell (p := ⟨b, 1, none⟩) h.lt).trans h.x1, (k.cell (p := ⟨b, 2, none⟩) h.lt).trans h.x2, (k.cell (p := ⟨b, 3, none⟩) h.lt).trans h.x3, (k.cell (p := ⟨b, 4, none⟩) h.lt).trans h.x4, (k.cell (p := ⟨b, 5, none⟩) h.lt).trans h.x5, (k.cell (p := ⟨b, 6, none⟩) h.lt).trans h.x6, (k.cell (p := ⟨b, 7, none⟩) h.lt).trans h.x7, (k.frozen (p := ⟨b, 0, none⟩) h.lt).trans h.f0, (k.frozen (p := ⟨b, 1, none⟩) h.lt).trans h.f1, (k.frozen (p := ⟨b, 2, none⟩) h.lt).trans h.f2, (k.frozen (p := ⟨b, 3, none⟩) h.lt).trans h.f3, (k.frozen (p := ⟨b, 4, none⟩) h.lt).trans h.f4, (k.frozen (p := ⟨b, 5, none⟩) h.lt).trans h.f5, (k.frozen (p := ⟨b, 6, none⟩) h.lt).trans h.f6, (k.frozen (p := ⟨b, 7, none⟩) h.lt).trans h.f7, Nat.lt_of_lt_of_le h.lt k.size⟩
theorem Box8.made {w : World} {x0 x1 x2 x3 x4 x5 x6 x7 : Value} {t : TypeId} : Box8 (w.alloc (.cells #[x0, x1, x2, x3, x4, x5, x6, x7] t)) w.heap.size x0 x1 x2 x3 x4 x5 x6 x7 := by
  refine ⟨?_, ?_, ?_, ?_, ?_, ?_, ?_, ?_, ?_, ?_, ?_, ?_, ?_, ?_, ?_, ?_, ?_⟩ <;> first | (simp [go_sem]; done) | (simp; done)
/-- Below block B, but for the block r, the world w is as W was. -/
structure KeepX (B r : Nat) (W w : World) : Prop where
  cell : ∀ b o, b < B → b ≠ r → w.cell? ⟨b, o, none⟩ = W.cell? ⟨b, o, none⟩
  frz : ∀ b o, b < B → b ≠ r → w.frozen? ⟨b, o, none⟩ = W.frozen? ⟨b, o, none⟩
  le : B ≤ w.heap.size
theorem KeepX.start {r : Nat} {W : World} : KeepX W.heap.size r W W := ⟨fun _ _ _ _ => rfl, fun _ _ _ _ => rfl, Nat.le_refl _⟩
theorem KeepX.call {B r : Nat} {W w w1 : World} (k : KeepX B r W w) (hb : Below w.heap.size w w1) : KeepX B r W w1 :=
  ⟨fun b o h n => (hb.cell (p := ⟨b, o, none⟩) (Nat.lt_of_lt_of_le h k.le)).trans (k.cell b o h n), fun b o h n => (hb.frozen (p := ⟨b, o, none⟩) (Nat.lt_of_lt_of_le h k.le)).trans (k.frz b o h n), Nat.le_trans k.le hb.size⟩
theorem KeepX.alloc {B r : Nat} {W w : World} (k : KeepX B r W w) (o : Obj) : KeepX B r W (w.alloc o) := k.call ((Below.refl _ _).alloc (Nat.le_refl _) o)
theorem KeepX.drew {B r : Nat} {W w : World} (k : KeepX B r W w) : KeepX B r W w.drew := k.call (Below.refl _ _).drew
theorem KeepX.setCell {B r : Nat} {W w : World} (k : KeepX B r W w) {p : Addr} (hp : p.block = r) (u : Value) : KeepX B r W (w.setCell p u) :=
  ⟨fun b o h n => by rw [← k.cell b o h n]; exact World.cell?_of_block (Below.heap_setCell w _ u b (by rw [hp]; exact n)),
   fun b o h n => by
    rw [← k.frz b o h n]
    have e := Below.heap_setCell w p u b (by rw [hp]; exact n)
    unfold World.frozen?; rw [e], by simpa [World.setCell] using k.le⟩
theorem KeepX.setNew {B r : Nat} {W w : World} (k : KeepX B r W w) {p : Addr} (hp : B ≤ p.block) (u : Value) : KeepX B r W (w.setCell p u) :=
  ⟨fun b o h n => by rw [← k.cell b o h n]; exact World.cell?_of_block (Below.heap_setCell w _ u b (by omega)),
   fun b o h n => by
    rw [← k.frz b o h n]
    have e := Below.heap_setCell w p u b (by omega)
    unfold World.frozen?; rw [e], by simpa [World.setCell] using k.le⟩
theorem KeepX.setR {B r : Nat} {W w : World} (k : KeepX B r W w) (i : Nat) (u : Value) : KeepX B r W (w.setCell ⟨r, i, none⟩ u) := k.setCell rfl u
theorem below_setR {a b : World} {B : Nat} (h : Below B a b) (i : Nat) (u : Value) : Below B a (b.setCell ⟨B, i, none⟩ u) := h.setCell (Nat.le_refl _) u
theorem below_of_still {p : Prop} {w w' : World} (h : w = w') : Below w.heap.size w w' := by rw [← h]; exact Below.refl _ _
set_option maxRecDepth 100000 in
set_option maxHeartbeats 8000000 in
theorem of_bad (a : Option Addr) (c : Nat) (xs : List Int) (w : World) (hx : IsInts .i64 w a xs) (hl : xs.length ≤ 17592186044416) (hf : fineB xs = false) :
    Calls Try.prog 18 #[.slice a xs.length c] w fun e w' => e = .returned (.tuple #[.agg #[.int .i64 0, .int .i64 0, .int .u64 0, .int .i64 0, .int .i64 0, .int .i64 0, .int .i64 0, .int .i64 0], .int .i64 93]) ∧ Below w.heap.size w w' := by
  have kc := fun w' (K : Below w.heap.size w w') => check_spec a c xs w' (hx.later K) (by omega)
  rw [hf, show okE false 93 = 93 from rfl] at kc
  clear hx hf
  go_enter Try.func18, Try.ntmps18
  go_wp2_with fail
  refine (kc _ (by go_grown)).mono ?_
  rintro e w1 ⟨rfl, rfl⟩
  clear kc
  go_wp2_with fail
  refine bodyPost_ret (by simp [results, Try.results18, go_sem]; try rfl) rfl ?_
  exact ⟨rfl, by go_grown⟩
set_option maxRecDepth 100000 in
set_option maxHeartbeats 8000000 in
theorem of_none (a : Option Addr) (c : Nat) (w : World) :
    Calls Try.prog 18 #[.slice a 0 c] w fun e w' => e = .returned (.tuple #[.agg #[.int .i64 0, .int .i64 0, .int .u64 0, .int .i64 0, .int .i64 0, .int .i64 0, .int .i64 0, .int .i64 0], .int .i64 90]) ∧ Below w.heap.size w w' := by
  have kc := fun w' => check_spec a c [] w' (.inl rfl) (by simp)
  rw [show okE (fineB []) 93 = 0 from rfl, List.length_nil] at kc
  go_enter Try.func18, Try.ntmps18
  go_wp2_with fail
  refine (kc _).mono ?_
  rintro e w1 ⟨rfl, rfl⟩
  clear kc
  go_wp2_with fail
  refine bodyPost_ret (by simp [results, Try.results18, go_sem]; try rfl) rfl ?_
  exact ⟨rfl, by go_grown⟩
set_option maxRecDepth 100000 in
set_option maxHeartbeats 8000000 in
theorem of_some (b off c k : Nat) (x0 x1 s1 s0 m md d : Int) (w : World) (hl2 : k + 1 ≤ 17592186044416) (lt : b < w.heap.size) (L : World → Nat → Prop)
    (LL : ∀ w' h w'', L w' h → Below w'.heap.size w' w'' → L w'' h) (L0 : ∀ w' h, L w' h → h < w'.heap.size ∧ w'.cell? ⟨h, 0, none⟩ = some (.int .i64 x0) ∧ w'.cell? ⟨h, k, none⟩ = some (.int .i64 x1))
    (kc : ∀ w', Below w.heap.size w w' → CalcN 35 #[.slice (some ⟨b, off, none⟩) (k + 1) c] w' (.int .i64 0))
    (ks : ∀ w', Below w.heap.size w w' → Calls Try.prog 36 #[.slice (some ⟨b, off, none⟩) (k + 1) c] w' fun e w'' => ∃ h cap, e = .returned (.slice (some ⟨h, 0, none⟩) (k + 1) cap) ∧ L w'' h ∧ w'.heap.size ≤ h ∧ k + 1 ≤ cap ∧ Below w'.heap.size w' w'')
    (ku : ∀ g c2 w', L w' g → Calls Try.prog 37 #[.slice (some ⟨g, 0, none⟩) (k + 1) c2] w' fun e w'' => e = .returned (.agg #[.int .i64 s1, .int .u64 s0]) ∧ Below w'.heap.size w' w'')
    (km : ∀ w', Calls Try.prog 38 #[.agg #[.int .i64 s1, .int .u64 s0], .int .i64 ((k : Int) + 1)] w' fun e w'' => e = .returned (.int .i64 m) ∧ Below w'.heap.size w' w'')
    (kd : ∀ g c2 w', L w' g → Calls Try.prog 39 #[.slice (some ⟨g, 0, none⟩) (k + 1) c2] w' fun e w'' => e = .returned (.int .i64 md) ∧ Below w'.heap.size w' w'')
    (kv : ∀ g c2 w', L w' g → Calls Try.prog 40 #[.slice (some ⟨g, 0, none⟩) (k + 1) c2, .int .i64 m] w' fun e w'' => e = .returned (.int .i64 d) ∧ Below w'.heap.size w' w'') :
    Calls Try.prog 18 #[.slice (some ⟨b, off, none⟩) (k + 1) c] w fun e w' => e = .returned (.tuple #[.agg #[.int .i64 ((k : Int) + 1), .int .i64 s1, .int .u64 s0, .int .i64 x0, .int .i64 x1, .int .i64 m, .int .i64 md, .int .i64 d], .int .i64 0]) ∧ Below w.heap.size w w' := by
  have KS := hide ks
  have KU := hide ku
  have KD := hide kd
  have KV := hide kv
  have HL := hide LL
  have HC := hide L0
  clear ku kd kv LL L0
  go_enter Try.func18, Try.ntmps18
  go_wp2_with fail
  refine (kc _ (by go_grown)).mono ?_
  rintro e w1 ⟨rfl, rfl⟩
  clear kc
  clear ks
  go_wp2_with fail
  refine (KS.out _ (by go_grown)).mono ?_
  clear KS
  rintro e w2 ⟨h, cap, rfl, H, hh, hc, hb⟩
  have R2 := (Box8.made (w := w)).later hb
  have B2 : Below w.heap.size w w2 := Below.trans (by go_grown) (hb.mono (by simp))
  have z2 := R2.lt
  clear hb
  have HH := hide H
  clear H
  go_wp2_with fail
  refine (KU.out h cap w2 HH.out).mono ?_
  clear KU
  rintro e w3 ⟨rfl, h3⟩
  have B3 := B2.trans (h3.mono B2.size)
  have y3 := h3.size
  have h3s : w.heap.size < w3.heap.size := by omega
  have H3 := hide (HL.out _ _ _ HH.out h3)
  have ne : ¬ w.heap.size = w3.heap.size := by omega
  have ne' : ¬ w3.heap.size = w.heap.size := by omega
  go_wp2_with fail
  refine (km _).mono ?_
  clear km
  rintro e w4 ⟨rfl, h4⟩
  obtain ⟨p0, _, zp⟩ := live (.int .i64 s1) h4 w3.heap.size 0 (by simp) (by simp [go_sem]) (by simp [go_sem])
  obtain ⟨p1, _, _⟩ := live (.int .u64 s0) h4 w3.heap.size 1 (by simp) (by simp [go_sem]) (by simp [go_sem])
  have B34 : Below w3.heap.size w3 w4 := Below.trans (by go_grown) (h4.mono (by simp))
  have B24 := h3.trans (B34.mono h3.size)
  have B4 := B2.trans (B24.mono B2.size)
  have H4 := hide (HL.out _ _ _ H3.out B34)
  clear h3 h4 H3 B3 HH
  obtain ⟨hw4, l0, l1⟩ := HC.out _ _ H4.out
  obtain ⟨w9, hw9⟩ : ∃ w9, w9 = w4 := ⟨_, rfl⟩
  have z4 : w.heap.size < w4.heap.size := by have := B24.size; omega
  have RB := hide (R2.later B24)
  clear R2
  have nz1 : w3.heap.size ≠ w.heap.size := by have := h3s; omega
  have nz2 : h ≠ w.heap.size := by have := hh; simp at this; omega
  clear B24 B34 B2 ne ne' hw9 z2 y3 HC
  have BW := hide B4
  clear B4
  have X0 := KeepX.start (r := w.heap.size) (W := w4)
  have X1 := X0.drew
  have K0 := Keeps.start (Nat.le_refl w4.heap.size)
  have K1 := K0.drew
  have ek0 : (0 : Int) ≤ (k : Int) := by omega
  have ek1 : (k : Int) < (k : Int) + 1 := by omega
  have ek2 : (k : Int) ≤ (k : Int) + 1 := by omega
  have ew2 : IntKind.i64.wrap (k : Int) = k := by rw [IntKind.wrap_i64]; omega
  have ew : IntKind.i64.wrap ((k : Int) + 1 - 1) = k := by rw [IntKind.wrap_i64]; omega
  go_wp2_with fail
  go_region_held3 (fun w' => w'.cell? ⟨w3.heap.size, 0, none⟩ = some (.int .i64 s1) ∧ w'.cell? ⟨w3.heap.size, 1, none⟩ = some (.int .u64 s0) ∧ w'.cell? ⟨h, 0, none⟩ = some (.int .i64 x0) ∧ w'.cell? ⟨h, k, none⟩ = some (.int .i64 x1) ∧ KeepX w4.heap.size w.heap.size w4 w')
    ((refine (fun K => ⟨(KeepX.cell K _ _ zp nz1).trans p0, (KeepX.cell K _ _ zp nz1).trans p1, (KeepX.cell K _ _ hw4 nz2).trans l0, (KeepX.cell K _ _ hw4 nz2).trans l1, K⟩) (?_ : KeepX w4.heap.size w.heap.size w4 _); (repeat (first | with_reducible assumption | with_reducible refine KeepX.setR ?_ _ _ | with_reducible refine KeepX.alloc ?_ _ | with_reducible refine KeepX.drew ?_))))
    (first
    | (go_at_call 39; have qq := K21; clear qq; (with_reducible refine (KD.out h cap _ (HL.out _ _ _ H4.out (Keeps.below (B := w4.heap.size) (W := w4) (by repeat (first | with_reducible assumption | with_reducible refine Keeps.alloc ?_ _ | with_reducible refine Keeps.drew ?_))))).mono ?_); rintro e v20 ⟨rfl, hb20⟩; have X20 := KeepX.call (B := w4.heap.size) (r := w.heap.size) (W := w4) (by repeat (first | with_reducible assumption | with_reducible refine KeepX.setR ?_ _ _ | with_reducible refine KeepX.alloc ?_ _ | with_reducible refine KeepX.drew ?_)) hb20; have K20 := Keeps.call (B := w4.heap.size) (W := w4) (by repeat (first | with_reducible assumption | with_reducible refine Keeps.alloc ?_ _ | with_reducible refine Keeps.drew ?_)) hb20; obtain ⟨rr0, rr1, rr2, rr3, rr4, rr5, rr6, rr7, gg0, gg1, gg2, gg3, gg4, gg5, gg6, gg7, zz⟩ := RB.out.later (Keeps.below K20))
    | (go_at_call 40; have qq := K20; clear qq; (with_reducible refine (KV.out h cap _ (HL.out _ _ _ H4.out (Keeps.below (B := w4.heap.size) (W := w4) (by repeat (first | with_reducible assumption | with_reducible refine Keeps.alloc ?_ _ | with_reducible refine Keeps.drew ?_))))).mono ?_); rintro e v21 ⟨rfl, hb21⟩; have X21 := KeepX.call (B := w4.heap.size) (r := w.heap.size) (W := w4) (by repeat (first | with_reducible assumption | with_reducible refine KeepX.setR ?_ _ _ | with_reducible refine KeepX.alloc ?_ _ | with_reducible refine KeepX.drew ?_)) hb21; have K21 := Keeps.call (B := w4.heap.size) (W := w4) (by repeat (first | with_reducible assumption | with_reducible refine Keeps.alloc ?_ _ | with_reducible refine Keeps.drew ?_)) hb21; obtain ⟨rr0, rr1, rr2, rr3, rr4, rr5, rr6, rr7, gg0, gg1, gg2, gg3, gg4, gg5, gg6, gg7, zz⟩ := RB.out.later (Keeps.below K21))
    | (go_at_call 39; (with_reducible refine (KD.out h cap _ (HL.out _ _ _ H4.out (Keeps.below (B := w4.heap.size) (W := w4) (by repeat (first | with_reducible assumption | with_reducible refine Keeps.alloc ?_ _ | with_reducible refine Keeps.drew ?_))))).mono ?_); rintro e v20 ⟨rfl, hb20⟩; have X20 := KeepX.call (B := w4.heap.size) (r := w.heap.size) (W := w4) (by repeat (first | with_reducible assumption | with_reducible refine KeepX.setR ?_ _ _ | with_reducible refine KeepX.alloc ?_ _ | with_reducible refine KeepX.drew ?_)) hb20; have K20 := Keeps.call (B := w4.heap.size) (W := w4) (by repeat (first | with_reducible assumption | with_reducible refine Keeps.alloc ?_ _ | with_reducible refine Keeps.drew ?_)) hb20)
    | (go_at_call 40; (with_reducible refine (KV.out h cap _ (HL.out _ _ _ H4.out (Keeps.below (B := w4.heap.size) (W := w4) (by repeat (first | with_reducible assumption | with_reducible refine Keeps.alloc ?_ _ | with_reducible refine Keeps.drew ?_))))).mono ?_); rintro e v21 ⟨rfl, hb21⟩; have X21 := KeepX.call (B := w4.heap.size) (r := w.heap.size) (W := w4) (by repeat (first | with_reducible assumption | with_reducible refine KeepX.setR ?_ _ _ | with_reducible refine KeepX.alloc ?_ _ | with_reducible refine KeepX.drew ?_)) hb21; have K21 := Keeps.call (B := w4.heap.size) (W := w4) (by repeat (first | with_reducible assumption | with_reducible refine Keeps.alloc ?_ _ | with_reducible refine Keeps.drew ?_)) hb21))
  all_goals
    go_wp2_with fail
    refine bodyPost_ret (by simp [results, Try.results18, go_sem, *]; try rfl) rfl ?_
    refine ⟨rfl, ?_⟩
    have b20 := BW.out.trans (K20.below.mono BW.out.size)
    have b21 := BW.out.trans (K21.below.mono BW.out.size)
    repeat (first | with_reducible assumption | with_reducible refine below_setR ?_ _ _ | with_reducible refine Below.drew ?_)
end Go.Proofs.Ytebiddmadmmfpaa
/- timer: Of, whole; alive. (gen_tm2.py) -/
namespace Go.Proofs.Ytebiddmadmmfpaa
set_option linter.unusedVariables false
set_option linter.unusedSimpArgs false
open Go.RowKit W T9
/-- What Of tells of a list with samples, d being the deviation. -/
abbrev statsV (xs : List Int) (d : Int) : Value := .agg #[.int .i64 xs.length, .int .i64 (hi xs.sum), .int .u64 (lo xs.sum), .int .i64 ((srt xs).getD 0 0), .int .i64 ((srt xs).getD (xs.length - 1) 0), .int .i64 (xs.sum / xs.length), .int .i64 (medL (srt xs)), .int .i64 d]
theorem mean_le {xs : List Int} (hf : fineB xs = true) (l0 : 0 < xs.length) : 0 ≤ xs.sum ∧ xs.sum ≤ xs.length * 100000000000000 ∧ 0 ≤ xs.sum / xs.length ∧ xs.sum / xs.length ≤ 100000000000000 := by
  have h := fine_sum hf xs.length
  rw [List.take_length] at h
  have b : xs.sum / xs.length ≤ 100000000000000 := by
    have := Int.ediv_le_ediv (c := (xs.length : Int)) (by omega) h.2
    rwa [Int.mul_ediv_cancel_left _ (by omega)] at this
  exact ⟨h.1, h.2, Int.ediv_nonneg h.1 (by omega), b⟩
theorem fine_srt {xs : List Int} (h : fineB xs = true) : fineB (srt xs) = true := by rw [fine_perm (srt_perm xs)]; exact h
/-- The deviation's square, cut. -/
def devQ (xs : List Int) : Int := sqC (xs.sum / xs.length) (srt xs) / xs.length
theorem dev_ex {xs : List Int} (hf : fineB xs = true) (l0 : 0 < xs.length) : ∃ d, IsRt (devQ xs) d := by
  obtain ⟨_, _, m0, m1⟩ := mean_le hf l0
  have b := sqC_div (fine_srt hf) m0 m1 (by rw [srt_len]; exact l0)
  rw [srt_len] at b
  exact rt_ex _ b.2.2.1 (by unfold devQ at *; omega)
theorem of_spec (b off c : Nat) (xs : List Int) (d : Int) (w : World) (hx : LieI .i64 w b off xs) (hl : xs.length ≤ 17592186044416) (hf : fineB xs = true) (l0 : 0 < xs.length) (hd : IsRt (devQ xs) d) :
    Calls Try.prog 18 #[.slice (some ⟨b, off, none⟩) xs.length c] w fun e w' => e = .returned (.tuple #[statsV xs d, .int .i64 0]) ∧ Below w.heap.size w w' := by
  obtain ⟨s0, s1, m0, m1⟩ := mean_le hf l0
  unfold devQ at hd
  have mm := fun w' => mean_spec xs.sum xs.length w' s0 s1 l0 (by omega)
  unfold statsV
  obtain ⟨m, hm⟩ : ∃ m, m = xs.sum / (xs.length : Int) := ⟨_, rfl⟩
  rw [← hm] at hd m0 m1 mm ⊢
  clear hm
  obtain ⟨k, hk⟩ : ∃ k, xs.length = k + 1 := ⟨xs.length - 1, by omega⟩
  have yl := srt_len xs
  have yf := fine_srt hf
  have e1 : (xs.length : Int) = (k : Int) + 1 := by omega
  have e2 : xs.length - 1 = k := by omega
  have g0 : (srt xs).getD 0 0 = (srt xs)[0]'(by omega) := at_getD (by omega)
  have g1 : (srt xs).getD k 0 = (srt xs)[k]'(by omega) := at_getD (by omega)
  have r := of_some b off c k ((srt xs)[0]'(by omega)) ((srt xs)[k]'(by omega)) (hi xs.sum) (lo xs.sum) m (medL (srt xs)) d w (by omega) hx.lt (fun w' h => LieI .i64 w' h 0 (srt xs))
    (fun w' h w'' H K => H.later K)
    (fun w' h H => ⟨H.lt, by have := H.cell 0 (by omega); simpa using this, by have := H.cell k (by omega); simpa using this⟩)
    (fun w' K => by have q := check_spec (some ⟨b, off, none⟩) c xs w' (.inr ⟨b, off, rfl, hx.later K⟩) (by omega); rw [hf, hk] at q; exact q)
    (fun w' K => by have q := sorted_spec b off c xs w' (hx.later K) l0 hl; unfold SortedPost at q; rw [hk] at q; exact q)
    (fun g c2 w' H => by have q := sum_spec9 (some ⟨g, 0, none⟩) c2 (srt xs) w' (.inr ⟨g, 0, rfl, H⟩) (by omega) yf; rw [yl, hk, sum_perm (srt_perm xs)] at q; exact q)
    (fun w' => by have q := mm w'; rw [e1] at q; exact q)
    (fun g c2 w' H => by have q := med_spec g 0 c2 (srt xs) w' H (by omega) (by omega) yf; rw [yl, hk] at q; exact q)
    (fun g c2 w' H => by
      have hd2 : IsRt (sqC m (srt xs) / (srt xs).length) d := by rw [yl]; exact hd
      have q := dev_spec g 0 c2 (srt xs) m d w' H (by omega) (by omega) yf m0 m1 hd2; rw [yl, hk] at q; exact q)
  rw [e2, g0, g1, e1, hk]
  exact r
theorem srt_alive : srt [5, 1, 4] = [1, 4, 5] := (srt_of (by decide) (by decide)).symm
theorem stats_alive : statsV [5, 1, 4] 1 = .agg #[.int .i64 3, .int .i64 0, .int .u64 10, .int .i64 1, .int .i64 5, .int .i64 3, .int .i64 4, .int .i64 1] := by
  unfold statsV
  rw [srt_alive]
  rfl
theorem devQ_alive : devQ [5, 1, 4] = 3 := by
  unfold devQ
  rw [srt_alive]
  have h : Fits 4 := ⟨by omega, by omega⟩
  have h2 : Fits 9 := ⟨by omega, by omega⟩
  have e : sqC 3 [1, 4, 5] = 9 := by
    have f1 : sq1 3 0 1 = 4 := by unfold sq1; simp only; rw [if_pos (show Fits _ from ⟨by omega, by omega⟩)]; rfl
    have f2 : sq1 3 4 4 = 5 := by unfold sq1; simp only; rw [if_pos (show Fits _ from ⟨by omega, by omega⟩)]; rfl
    have f3 : sq1 3 5 5 = 9 := by unfold sq1; simp only; rw [if_pos (show Fits _ from ⟨by omega, by omega⟩)]; rfl
    show sq1 3 (sq1 3 (sq1 3 0 1) 4) 5 = 9
    rw [f1, f2, f3]
  show sqC 3 [1, 4, 5] / 3 = 3
  rw [e]; rfl
theorem eq_wide10 (w : World) : (binOp .eql 34 (.agg #[.int .i64 0, .int .u64 10]) (.agg #[.int .i64 0, .int .u64 10])).run Try.prog w = .ok (.bool true) w := by kernel_rfl
set_option maxRecDepth 100000 in
set_option maxHeartbeats 8000000 in
theorem alive9 (w : World) : Calls Try.prog 14 #[] w fun e w' => e = .returned (.bool true) ∧ Below w.heap.size w w' := by
  have iB : ∀ w : World, LieI .i64 (w.alloc (.cells #[.int .i64 5, .int .i64 1, .int .i64 4] 2)) w.heap.size 0 [5, 1, 4] := fun w => ⟨fun j hj => by
    match j, hj with
    | 0, _ => simp [go_sem]
    | 1, _ => simp [go_sem]
    | 2, _ => simp [go_sem], by simp⟩
  have k := fun w => of_spec _ 0 3 [5, 1, 4] 1 _ (iB w) (by simp) (by decide) (by simp) (by rw [devQ_alive]; exact ⟨by omega, by omega, by omega⟩)
  rw [stats_alive] at k
  have k2 := wof_spec 10 ⟨by omega, by omega⟩
  rw [show wideRes 10 = .returned (.agg #[.int .i64 0, .int .u64 10]) from rfl] at k2
  have q := eq_wide10
  clear iB
  go_enter Try.func14, Try.ntmps14
  go_wp2_with fail
  refine (k _).mono ?_
  clear k
  rintro e w1 ⟨rfl, h1⟩
  have B1 : Below w.heap.size w w1 := Below.trans (by go_grown) (h1.mono (by simp))
  clear h1
  go_wp2_with fail
  have y1 := B1.size
  refine abs_wp (fun W => Box8 W w1.heap.size (.int .i64 3) (.int .i64 0) (.int .u64 10) (.int .i64 1) (.int .i64 5) (.int .i64 3) (.int .i64 4) (.int .i64 1) ∧ Below w.heap.size w W) ?_ ?_
  · refine ⟨Box8.made, ?_⟩
    go_grown
  rintro W ⟨⟨x0, x1, x2, x3, x4, x5, x6, x7, f0, f1, f2, f3, f4, f5, f6, f7, zW⟩, BW⟩
  clear f0 f1 f2 f3 f4 f5 f6 f7 x3 x4 x5
  have bb := hide BW
  have K0 := Keeps.start (Nat.le_refl W.heap.size)
  have K1 := K0.drew
  clear BW B1
  go_region_held3 (fun w' => w'.cell? ⟨w1.heap.size, 0, none⟩ = some (.int .i64 3) ∧ w'.cell? ⟨w1.heap.size, 1, none⟩ = some (.int .i64 0) ∧ w'.cell? ⟨w1.heap.size, 2, none⟩ = some (.int .u64 10) ∧ w'.cell? ⟨w1.heap.size, 6, none⟩ = some (.int .i64 4) ∧ w'.cell? ⟨w1.heap.size, 7, none⟩ = some (.int .i64 1) ∧ Keeps W.heap.size W w')
    ((refine (fun K => ⟨Keeps.cell K x0 zW, Keeps.cell K x1 zW, Keeps.cell K x2 zW, Keeps.cell K x6 zW, Keeps.cell K x7 zW, K⟩) (?_ : Keeps W.heap.size W _); (repeat (first | with_reducible assumption | with_reducible refine Keeps.alloc ?_ _ | with_reducible refine Keeps.drew ?_))))
    (first
    | (go_at_call 24; (with_reducible refine (k2 _).mono ?_); rintro e v20 ⟨rfl, hb20⟩; have K20 := Keeps.call (B := W.heap.size) (W := W) (by repeat (first | with_reducible assumption | with_reducible refine Keeps.alloc ?_ _ | with_reducible refine Keeps.drew ?_)) hb20))
  all_goals
    go_wp2_with fail
    go_returns
    refine ⟨rfl, ?_⟩
    have b20 := bb.out.trans (K20.below.mono bb.out.size)
    repeat (first | with_reducible assumption | with_reducible refine Below.drew ?_)
end Go.Proofs.Ytebiddmadmmfpaa
/- The reference of layer 1: its faces: QuoN, Quo. -/
namespace Go.Proofs.Ytebiddmadmmfpaa
set_option linter.unusedVariables false
open Go.RowKit W Lb
theorem quo_end {w w1 : World} {s1 s2 : Bool} {p1 p2 : Option Addr} {c1 c2 : Nat} {l1 l2 : List Int} {x y : Int} (N1 : IsNum w1 s1 p1 c1 l1 x) (N2 : IsNum w1 s2 p2 c2 l2 y) (hb : Below w.heap.size w w1) {r1 r2 m1 m2 : Nat} (h1 : w1.shape? r1 = some (64, m1)) (h2 : w1.shape? r2 = some (64, m2)) (g1 : w.heap.size ≤ r1) (g2 : w.heap.size ≤ r2) (a b c d : Value) :
    IsNum ((((w1.setCell ⟨r1, 0, none⟩ a).setCell ⟨r1, 1, none⟩ b).setCell ⟨r2, 0, none⟩ c).setCell ⟨r2, 1, none⟩ d) s1 p1 c1 l1 x ∧ IsNum ((((w1.setCell ⟨r1, 0, none⟩ a).setCell ⟨r1, 1, none⟩ b).setCell ⟨r2, 0, none⟩ c).setCell ⟨r2, 1, none⟩ d) s2 p2 c2 l2 y ∧
     Below w.heap.size w ((((w1.setCell ⟨r1, 0, none⟩ a).setCell ⟨r1, 1, none⟩ b).setCell ⟨r2, 0, none⟩ c).setCell ⟨r2, 1, none⟩ d) := by
  have ne : (64 : TypeId) ≠ 107 := by decide
  have k1 : ∀ a, (w1.setCell ⟨r1, 0, none⟩ a).shape? r1 = some (64, m1) := fun a => by rw [shape_set]; exact h1
  have k2 : ∀ a b, ((w1.setCell ⟨r1, 0, none⟩ a).setCell ⟨r1, 1, none⟩ b).shape? r2 = some (64, m2) := fun a b => by rw [shape_set, shape_set]; exact h2
  have k3 : ∀ a b c, (((w1.setCell ⟨r1, 0, none⟩ a).setCell ⟨r1, 1, none⟩ b).setCell ⟨r2, 0, none⟩ c).shape? r2 = some (64, m2) := fun a b c => by rw [shape_set]; exact k2 a b
  exact ⟨(((N1.set h1 ne _).set (k1 _) ne _).set (k2 _ _) ne _).set (k3 _ _ _) ne _, (((N2.set h1 ne _).set (k1 _) ne _).set (k2 _ _) ne _).set (k3 _ _ _) ne _, (((hb.setCell g1 _).setCell g1 _).setCell g2 _).setCell g2 _⟩
def QuoPost (w : World) (x y : Int) (e : Ending) (w' : World) : Prop := ∃ s1 p1 c1 l1 s2 p2 c2 l2, e = .returned (.tuple #[.agg #[.bool s1, .slice p1 l1.length c1], .agg #[.bool s2, .slice p2 l2.length c2]]) ∧ IsNum w' s1 p1 c1 l1 x ∧ IsNum w' s2 p2 c2 l2 y ∧ Below w.heap.size w w'
set_option maxRecDepth 100000 in
set_option maxHeartbeats 8000000 in
theorem quoN_walk (s s' : Bool) (pa pb : Option Addr) (ca cb : Nat) (la lb : List Int) (x y z B : Int) (w : World) (pz : 0 < B)
    (KD : ∀ w', Below w.heap.size w w' → Calls Try.prog 60 #[.slice pa la.length ca, .slice pb lb.length cb] w' (DivPost w' z B))
    (KM : ∀ (sg : Bool) (m r : Int), mkZ sg m = r → m ≤ z ∨ m < B → ∀ pv cv lv w', Limbs w' (.slice pv lv.length cv) lv → Mag lv m → Calls Try.prog 56 #[.bool sg, .slice pv lv.length cv] w' (NumPost w' r))
    (hx : mkZ (s != s') (z / B) = x) (hy : mkZ s (z % B) = y) (zz0 : 0 ≤ z) :
    Calls Try.prog 32 #[.agg #[.bool s, .slice pa la.length ca], .agg #[.bool s', .slice pb lb.length cb]] w (QuoPost w x y) := by
  have q1 : z / B ≤ z ∨ z / B < B := .inl (Int.ediv_le_self B zz0)
  have q2 : z % B ≤ z ∨ z % B < B := .inr (Int.emod_lt_of_pos z pz)
  have KQ0 := hide (fun (sg : Bool) (h : sg = (s != s')) => KM sg (z / B) x (by rw [h]; exact hx) q1)
  have KR0 := hide (KM s (z % B) y hy q2)
  clear KM hx hy zz0 q1 q2 pz
  go_enter Try.func32, Try.ntmps32
  go_wp2_with fail
  refine (KD _ (by go_grown)).mono ?_
  clear KD
  rintro e w1 ⟨v1, l1, v2, l2, rfl, L1, M1, L2, M2, h1⟩
  obtain ⟨x1, y1, rfl⟩ := L1.form
  obtain ⟨x2, y2, rfl⟩ := L2.form
  obtain ⟨bc, bf, bs⟩ := bcell h1
  simp only [World.size_alloc] at bc bf bs
  have B1 : Below w.heap.size w w1 := Below.trans (by go_grown) (h1.mono (by first | (simp; done) | omega | (simp; omega)))
  have sh1 : w1.shape? (w.heap.size + 1 + 1) = some (64, 2) := (shape_later h1 (by simp; try omega)).trans ((shape_old _ _ (by simp; try omega)).trans (shape_top _ _ _ _ (by simp)))
  have sh2 : w1.shape? (w.heap.size + 1 + 1 + 1) = some (64, 2) := (shape_later h1 (by simp; try omega)).trans (shape_top _ _ _ _ (by simp))
  have LL := hide (And.intro L1 (And.intro M1 (And.intro L2 M2)))
  have SH := hide (And.intro sh1 sh2)
  clear L1 M1 L2 M2 h1 sh1 sh2
  go_upto_region 2 with (fail)
  refine abs_wp (fun W => (W.cell? ⟨w.heap.size, 0, none⟩ = some (.bool s) ∧ W.cell? ⟨w.heap.size, 1, none⟩ = some (.slice pa la.length ca) ∧ W.cell? ⟨w.heap.size + 1, 0, none⟩ = some (.bool s') ∧ W.cell? ⟨w.heap.size + 1, 1, none⟩ = some (.slice pb lb.length cb)) ∧ (W.cell? ⟨w.heap.size + 1 + 1, 0, none⟩ = some (.bool false) ∧ W.cell? ⟨w.heap.size + 1 + 1, 1, none⟩ = some (.slice none 0 0) ∧ W.cell? ⟨w.heap.size + 1 + 1 + 1, 0, none⟩ = some (.bool false) ∧ W.cell? ⟨w.heap.size + 1 + 1 + 1, 1, none⟩ = some (.slice none 0 0)) ∧ (W.frozen? ⟨w.heap.size + 1 + 1, 0, none⟩ = false ∧ W.frozen? ⟨w.heap.size + 1 + 1, 1, none⟩ = false ∧ W.frozen? ⟨w.heap.size + 1 + 1 + 1, 0, none⟩ = false ∧ W.frozen? ⟨w.heap.size + 1 + 1 + 1, 1, none⟩ = false) ∧ w.heap.size + 1 + 1 + 1 < W.heap.size ∧ Below w.heap.size w W ∧ Hid (Below w1.heap.size w1 W)) ?_ ?_
  · refine ⟨⟨?_, ?_, ?_, ?_⟩, ⟨?_, ?_, ?_, ?_⟩, ⟨?_, ?_, ?_, ?_⟩, ?_, ?_, ?_⟩
    all_goals first | (simp [go_sem, bc, bf]; done) | omega | exact B1 | exact Below.refl _ _
  rintro W ⟨⟨c0, c1, c2, c3⟩, ⟨r0, r1, r2, r3⟩, ⟨g0, g1, g2, g3⟩, zW, BW, HW⟩
  clear bc bf bs B1
  have KQ : ∀ (sg : Bool), sg = (s != s') → ∀ w', Keeps W.heap.size W w' → Calls Try.prog 56 #[.bool sg, .slice x1 l1.length y1] w' (NumPost w' x) := fun sg h w' K => KQ0.out sg h x1 y1 l1 w' ((LL.out.1.later HW.out).later K.below) LL.out.2.1
  have KR : ∀ w', Keeps W.heap.size W w' → Calls Try.prog 56 #[.bool s, .slice x2 l2.length y2] w' (NumPost w' y) := fun w' K => KR0.out x2 y2 l2 w' ((LL.out.2.2.1.later HW.out).later K.below) LL.out.2.2.2
  have K0 := Keeps.start (Nat.le_refl W.heap.size)
  have K1 := K0.drew
  have J0 : Keeps (w.heap.size + 1 + 1) W W := Keeps.start (by omega)
  have J1 := J0.drew
  go_region_held3 (fun w' => w'.cell? ⟨w.heap.size, 0, none⟩ = some (.bool s) ∧ w'.cell? ⟨w.heap.size, 1, none⟩ = some (.slice pa la.length ca) ∧ w'.cell? ⟨w.heap.size + 1, 0, none⟩ = some (.bool s') ∧ w'.cell? ⟨w.heap.size + 1, 1, none⟩ = some (.slice pb lb.length cb) ∧ Keeps (w.heap.size + 1 + 1) W w') ((refine (fun K => ⟨Keeps.cell K c0 (by omega), Keeps.cell K c1 (by omega), Keeps.cell K c2 (by omega), Keeps.cell K c3 (by omega), K⟩) (?_ : Keeps (w.heap.size + 1 + 1) W _); (repeat (first | assumption | refine Keeps.alloc ?_ _ | refine Keeps.drew ?_ | refine Keeps.setCell ?_ (by first | (simp; done) | omega | (simp; omega)) _))))
    (first
    | (go_at_call 56; (with_reducible refine (KQ _ (by cases s <;> cases s' <;> first | rfl | decide | simp) _ (by repeat (first | assumption | refine Keeps.alloc ?_ _ | refine Keeps.drew ?_ | refine Keeps.setCell ?_ (by first | (simp; done) | omega | (simp; omega)) _))).mono ?_); rintro e v20 ⟨t1, p1, q1, m1, rfl, N1, hb20⟩; have K20 := Keeps.call (B := W.heap.size) (W := W) (by repeat (first | assumption | refine Keeps.alloc ?_ _ | refine Keeps.drew ?_ | refine Keeps.setCell ?_ (by first | (simp; done) | omega | (simp; omega)) _)) hb20; have J20 : Keeps (w.heap.size + 1 + 1) W v20 := ⟨K20.below.mono (by omega), by omega⟩)
    | (go_at_call 56; (with_reducible refine (KR _ (by repeat (first | assumption | refine Keeps.alloc ?_ _ | refine Keeps.drew ?_ | refine Keeps.setCell ?_ (by first | (simp; done) | omega | (simp; omega)) _))).mono ?_); rintro e v21 ⟨t2, p2, q2, m2, rfl, N2, hb21⟩; have K21 := Keeps.call (B := W.heap.size) (W := W) (by repeat (first | assumption | refine Keeps.alloc ?_ _ | refine Keeps.drew ?_ | refine Keeps.setCell ?_ (by first | (simp; done) | omega | (simp; omega)) _)) hb21; have J21 : Keeps (w.heap.size + 1 + 1) W v21 := ⟨K21.below.mono (by omega), by omega⟩; have N3 := N1.later (w' := v21) (by have := hb21; first | exact this | exact (Below.drew (Below.refl _ _)).trans this); have rr0 := K21.cell r0 (by omega); have gg0 := K21.free g0 (by omega); have rr1 := K21.cell r1 (by omega); have gg1 := K21.free g1 (by omega); have rr2 := K21.cell r2 (by omega); have gg2 := K21.free g2 (by omega); have rr3 := K21.cell r3 (by omega); have gg3 := K21.free g3 (by omega); have zz : w.heap.size + 1 + 1 + 1 < v21.heap.size := (by have := K21.size; omega)))
  all_goals
    have F := hide (quo_end (w := w) N3 N2 (BW.trans (K21.below.mono BW.size)) ((shape_later K21.below (by omega)).trans ((shape_later HW.out (heap_of_shape SH.out.1)).trans SH.out.1)) ((shape_later K21.below (by omega)).trans ((shape_later HW.out (heap_of_shape SH.out.2)).trans SH.out.2)) (by omega) (by omega))
    have zz2 : w.heap.size + 1 + 1 < v21.heap.size := by omega
    clear K20 K21 N1 N2 N3 KQ KR LL SH HW KQ0 KR0
    go_wp2_with fail
    refine bodyPost_ret (by simp [results, Try.results32, go_sem, rr0, rr1, rr2, rr3, gg0, gg1, gg2, gg3, zz, zz2]; try rfl) rfl ?_
    exact ⟨_, _, _, _, _, _, _, _, rfl, F.out _ _ _ _⟩
end Go.Proofs.Ytebiddmadmmfpaa
/- The reference of layer 1: its faces: Quo; WideQuos. -/
namespace Go.Proofs.Ytebiddmadmmfpaa
set_option linter.unusedVariables false
set_option linter.unusedSimpArgs false
open Go.RowKit W Lb
theorem mkZ_quo (x y : Int) : mkZ (decide (x < 0) != decide (y < 0)) (Lb.ab x / Lb.ab y) = Int.tdiv x y := by
  have := tdiv_sg x y
  rw [this]; rfl
theorem mkZ_rem (x y : Int) : mkZ (decide (x < 0)) (Lb.ab x % Lb.ab y) = Int.tmod x y := by
  have := tmod_sg x y
  rw [this]; rfl
theorem quoN_spec (s s' : Bool) (pa pb : Option Addr) (ca cb : Nat) (la lb : List Int) (x y : Int) (w : World) (Ha : IsNum w s pa ca la x) (Hb : IsNum w s' pb cb lb y) (y0 : y ≠ 0) (na : la.length ≤ 100) (nb : lb.length ≤ 100) :
    Calls Try.prog 32 #[.agg #[.bool s, .slice pa la.length ca], .agg #[.bool s', .slice pb lb.length cb]] w (QuoPost w (Int.tdiv x y) (Int.tmod x y)) := by
  have pb0 : 0 < Lb.ab y := by have := (Lb.ab_zero (v := y)); have := Lb.ab_nonneg y; omega
  have hv := Hb.mag.val
  have e1 := mkZ_quo x y
  have e2 := mkZ_rem x y
  rw [← Ha.neg] at e1 e2
  rw [← Hb.neg] at e1
  refine quoN_walk s s' pa pb ca cb la lb _ _ (Lb.ab x) (Lb.ab y) w pb0 (fun w' h => ?_) ?_ e1 e2 (Lb.ab_nonneg x)
  · have := divL_spec pa pb ca cb la lb (Lb.ab y) w' (Ha.lim.later h) (Hb.lim.later h) Ha.mag.ok Hb.mag pb0 na nb
    rwa [Ha.mag.val] at this
  · intro sg m r hm hle pv cv lv w' h1 h2
    have lt : lv.length ≤ 1000 := by
      have a1 := val_lt' Ha.mag.ok na
      have b1 := val_lt' Hb.mag.ok nb
      rw [Ha.mag.val] at a1
      rw [Hb.mag.val] at b1
      have := h2.len (n := 100) (by omega)
      omega
    have := make2_spec sg pv cv lv w' h1 h2.ok lt
    rwa [h2.val, hm] at this
/-- Behind the quotient: the two boxes. -/
def QCut (W W' : World) (x y : Int) (q r : Value) : Prop := ∃ (X Y : Nat) (s1 : Bool) (p1 : Option Addr) (c1 : Nat) (l1 : List Int) (s2 : Bool) (p2 : Option Addr) (c2 : Nat) (l2 : List Int), q = .pointer (some ⟨X, 0, none⟩) ∧ r = .pointer (some ⟨Y, 0, none⟩) ∧
  W'.cell? ⟨X, 0, none⟩ = some (.bool s1) ∧ W'.cell? ⟨X, 1, none⟩ = some (.slice p1 l1.length c1) ∧ W'.cell? ⟨Y, 0, none⟩ = some (.bool s2) ∧ W'.cell? ⟨Y, 1, none⟩ = some (.slice p2 l2.length c2) ∧
  IsNum W' s1 p1 c1 l1 x ∧ IsNum W' s2 p2 c2 l2 y ∧ X < W'.heap.size ∧ Y < W'.heap.size ∧ Keeps W.heap.size W W'
theorem eqW_a (n : Nat) (y : Int) (w : World) : (binOp .eql 34 (.agg #[.int .i64 ((n + 1 : Nat) : Int), .int .u64 y]) (.agg #[.int .i64 0, .int .u64 0])).run Try.prog w = .ok (.bool false) w := by kernel_rfl
theorem eqW_b (n : Nat) (y : Int) (w : World) : (binOp .eql 34 (.agg #[.int .i64 (Int.negSucc n), .int .u64 y]) (.agg #[.int .i64 0, .int .u64 0])).run Try.prog w = .ok (.bool false) w := by kernel_rfl
theorem eqW_c (n : Nat) (w : World) : (binOp .eql 34 (.agg #[.int .i64 0, .int .u64 ((n + 1 : Nat) : Int)]) (.agg #[.int .i64 0, .int .u64 0])).run Try.prog w = .ok (.bool false) w := by kernel_rfl
theorem eqW (c d : Int) (i : IsLo d) (h : V c d ≠ 0) (w : World) : (binOp .eql 34 (.agg #[.int .i64 c, .int .u64 d]) (.agg #[.int .i64 0, .int .u64 0])).run Try.prog w = .ok (.bool false) w := by
  obtain ⟨m, rfl⟩ := Int.eq_ofNat_of_zero_le i.a
  rcases c with (_ | n) | n
  · rcases m with _ | m
    · exact absurd rfl h
    · exact eqW_c m w
  · exact eqW_a n _ w
  · exact eqW_b n _ w
theorem few_tdiv {x y : Int} (f : Fits x) (g : Fits y) : Lb.ab (Int.tdiv x y) < pw 9 := by
  have e : pw 9 = 22300745198530623141535718272648361505980416 := by decide
  have h1 : (Int.tdiv x y).natAbs = x.natAbs / y.natAbs := Int.natAbs_tdiv x y
  have h2 := Nat.div_le_self x.natAbs y.natAbs
  obtain ⟨_, _⟩ := f
  unfold Lb.ab; split <;> omega
end Go.Proofs.Ytebiddmadmmfpaa
/- The reference of layer 1: its faces: Sum; WideSums. -/
namespace Go.Proofs.Ytebiddmadmmfpaa
set_option linter.unusedVariables false
open Go.RowKit W Lb
theorem few_sum {ws : List (Int × Int)} (h : ∀ p ∈ ws, IsW p) (k : Nat) (hk : ws.length ≤ 140737488355328) : Lb.ab (sumV (ws.take k)) < pw 11 := by
  have e : pw 11 = 95780971304118053647396689196894323976171195136475136 := by decide
  have b := sumV_bound (ws.take k) (fun p hp => h p (List.mem_of_mem_take hp))
  have l := List.length_take_le k ws
  have l2 : (ws.take k).length ≤ ws.length := by simp; omega
  unfold Lb.ab; split <;> omega
/-- The state of the sum's loop. -/
structure RSum (w wr : World) (s : Bool) (p : Option Addr) (c : Nat) (lr : List Int) (z : Int) : Prop where
  n : NBox wr (w.heap.size + 1) s (.slice p lr.length c)
  num : IsNum wr s p c lr z
  r0 : wr.cell? ⟨w.heap.size, 0, none⟩ = some (.int .i64 0)
  r1 : wr.cell? ⟨w.heap.size, 1, none⟩ = some (.int .u64 0)
  g0 : wr.frozen? ⟨w.heap.size, 0, none⟩ = false
  g1 : wr.frozen? ⟨w.heap.size, 1, none⟩ = false
  below : Below w.heap.size w wr
theorem RSum.next {w wr v : World} {s s2 : Bool} {p p2 : Option Addr} {c c2 : Nat} {lr l2 : List Int} {z y : Int} (h : RSum w wr s p c lr z) (k : Below wr.heap.size wr v) (N : IsNum v s2 p2 c2 l2 y) :
    RSum w ((v.setCell ⟨w.heap.size + 1, 0, none⟩ (.bool s2)).setCell ⟨w.heap.size + 1, 1, none⟩ (.slice p2 l2.length c2)) s2 p2 c2 l2 y := by
  obtain ⟨q0, q1, q2, q3, q4, q5⟩ := h.n.later k
  have z0 : w.heap.size < wr.heap.size := by have := h.n.lt; omega
  have r0 := (k.cell (p := ⟨w.heap.size, 0, none⟩) z0).trans h.r0
  have r1 := (k.cell (p := ⟨w.heap.size, 1, none⟩) z0).trans h.r1
  have g0 := (k.frozen (p := ⟨w.heap.size, 0, none⟩) z0).trans h.g0
  have g1 := (k.frozen (p := ⟨w.heap.size, 1, none⟩) z0).trans h.g1
  have bl := h.below.trans (k.mono h.below.size)
  have ne : (64 : TypeId) ≠ 107 := by decide
  refine ⟨⟨?_, ?_, ?_, ?_, ?_, ?_⟩, (N.set q4 ne _).set (by rw [shape_set]; exact q4) ne _, ?_, ?_, ?_, ?_, (bl.setCell (by show w.heap.size ≤ w.heap.size + 1; omega) _).setCell (by show w.heap.size ≤ w.heap.size + 1; omega) _⟩
  · simp [go_sem, q0, q5]
  · refine World.cell?_setCell_same' _ _ _ ?_; simp [go_sem, q1]
  · simp [go_sem, q2]
  · simp [go_sem, q3]
  · rw [shape_set, shape_set]; exact q4
  · simpa [World.setCell] using q5
  · simp [go_sem, r0]
  · simp [go_sem, r1]
  · simp [go_sem, g0]
  · simp [go_sem, g1]
end Go.Proofs.Ytebiddmadmmfpaa
/- Plain numbers: decimal digits. No Go in sight. -/
namespace Go.Proofs.Ytebiddmadmmfpaa
set_option linter.unusedVariables false
namespace Dc
/-- The digit's byte. -/
def ch (d : Nat) : UInt8 := UInt8.ofNat (48 + d)
theorem ch_toNat {d : Nat} (h : d < 10) : (ch d).toNat = 48 + d := by unfold ch; simp [UInt8.toNat_ofNat]; omega
/-- The digits of a number; of 0 none. -/
def pre (n : Nat) : List UInt8 := if h : n = 0 then [] else pre (n / 10) ++ [ch (n % 10)]
termination_by n
decreasing_by omega
/-- The digits of a number; of 0 one. -/
def dec (n : Nat) : List UInt8 := if n = 0 then [48] else pre n
theorem pre_zero : pre 0 = [] := by rw [pre]; simp
theorem pre_pos {n : Nat} (h : n ≠ 0) : pre n = pre (n / 10) ++ [ch (n % 10)] := by rw [pre]; simp [h]
theorem dec_pos {n : Nat} (h : n ≠ 0) : dec n = pre n := by unfold dec; rw [if_neg h]
theorem dec_last (n : Nat) : dec n = pre (n / 10) ++ [ch (n % 10)] := by
  by_cases h : n = 0
  · subst h; unfold dec; rw [if_pos rfl, show (0:Nat) / 10 = 0 from rfl, pre_zero]; rfl
  · rw [dec_pos h, pre_pos h]
theorem pre_length_le (k n : Nat) (h : n < 10 ^ k) : (pre n).length ≤ k := by
  induction k generalizing n with
  | zero => have : n = 0 := by simpa using h
            subst this; rw [pre_zero]; simp
  | succ k ih =>
    by_cases h0 : n = 0
    · subst h0; rw [pre_zero]; simp
    · rw [pre_pos h0, List.length_append]
      have := ih (n / 10) (by rw [Nat.pow_succ] at h; omega)
      simp; omega
/-- What a list of digits is worth. -/
def worth (l : List UInt8) : Nat := l.foldl (fun a c => a * 10 + (c.toNat - 48)) 0
theorem worth_snoc (l : List UInt8) (c : UInt8) : worth (l ++ [c]) = worth l * 10 + (c.toNat - 48) := by simp [worth]
theorem worth_nil : worth [] = 0 := rfl
theorem worth_pre (n : Nat) : worth (pre n) = n := by
  induction n using Nat.strongRecOn with
  | _ n ih =>
    by_cases h : n = 0
    · subst h; rw [pre_zero]; rfl
    · rw [pre_pos h, worth_snoc, ih (n / 10) (by omega), ch_toNat (by omega)]; omega
def isD (c : UInt8) : Bool := decide (48 ≤ c.toNat) && decide (c.toNat ≤ 57)
theorem isD_ch {d : Nat} (h : d < 10) : isD (ch d) = true := by unfold isD; rw [ch_toNat h]; simp; omega
theorem pre_digits (n : Nat) : ∀ c ∈ pre n, isD c = true := by
  induction n using Nat.strongRecOn with
  | _ n ih =>
    by_cases h : n = 0
    · subst h; rw [pre_zero]; simp
    · rw [pre_pos h]; intro c hc
      rcases List.mem_append.1 hc with h1 | h1
      · exact ih (n / 10) (by omega) c h1
      · rw [List.mem_singleton] at h1; subst h1; exact isD_ch (by omega)
theorem pre_head {n : Nat} (h : n ≠ 0) : ∃ d r, pre n = ch d :: r ∧ 1 ≤ d ∧ d < 10 := by
  induction n using Nat.strongRecOn with
  | _ n ih =>
    rw [pre_pos h]
    by_cases h1 : n / 10 = 0
    · rw [h1, pre_zero]; exact ⟨n % 10, [], rfl, by omega, by omega⟩
    · obtain ⟨d, r, e, a, b⟩ := ih (n / 10) (by omega) h1
      rw [e]; exact ⟨d, r ++ [ch (n % 10)], rfl, a, b⟩
theorem worth_append (a b : List UInt8) : worth a ≤ worth (a ++ b) := by
  induction b generalizing a with
  | nil => simp
  | cons c b ih => rw [show a ++ c :: b = (a ++ [c]) ++ b by simp]; have := ih (a ++ [c]); rw [worth_snoc] at this; omega
theorem worth_mono (l : List UInt8) (k : Nat) : worth (l.take k) ≤ worth l := by
  have := worth_append (l.take k) (l.drop k); rwa [List.take_append_drop] at this
theorem worth_take (l : List UInt8) (k : Nat) (h : k < l.length) : worth (l.take (k + 1)) = worth (l.take k) * 10 + ((l[k]).toNat - 48) := by
  rw [List.take_succ_eq_append_getElem h, worth_snoc]
end Dc
end Go.Proofs.Ytebiddmadmmfpaa
/- wide: plain. -/

namespace Go.Proofs.Ytebiddmadmmfpaa
set_option linter.unusedVariables false
set_option linter.unusedSimpArgs false
open Go.RowKit W
/-- A contract of a function that only computes. -/
abbrev Calc (f : Nat) (args : Array Value) (w : World) (r : Value) : Prop := Calls Try.prog f args w fun e w' => e = .returned r ∧ w = w'
def allD (s : ByteArray) : Bool := s.toList.all Dc.isD
/-- Digits, one at least, without a 0 ahead. -/
def plainB (s : ByteArray) : Bool := !s.toList.isEmpty && (!(s.toList.head? == some 48) || s.toList == [48]) && allD s
theorem all_of {s : ByteArray} (h : ∀ j (hj : j < s.size), Dc.isD s[j] = true) : allD s = true := by
  unfold allD
  rw [List.all_eq_true]
  intro x hx
  rw [ByteArray.toList_eq] at hx
  obtain ⟨i, hi, rfl⟩ := List.mem_iff_getElem.1 hx
  exact h i (by simpa using hi)
theorem not_all {s : ByteArray} (k : Nat) (hk : k < s.size) (h : Dc.isD s[k] = false) : allD s = false := by
  unfold allD
  rw [List.all_eq_false]
  refine ⟨s[k], ?_, by rw [h]; simp⟩
  rw [ByteArray.toList_eq]
  have : k < s.data.toList.length := by simpa using hk
  exact List.mem_iff_getElem.2 ⟨k, this, rfl⟩
theorem isD_no (c : UInt8) (h : (c.toNat : Int) < 48 ∨ 57 < (c.toNat : Int)) : Dc.isD c = false := by
  unfold Dc.isD; rcases h with h | h
  · rw [decide_eq_false (by omega)]; rfl
  · rw [decide_eq_false (p := c.toNat ≤ 57) (by omega)]; simp
theorem isD_yes (c : UInt8) (h : 48 ≤ (c.toNat : Int)) (g : (c.toNat : Int) ≤ 57) : Dc.isD c = true := by
  unfold Dc.isD; rw [decide_eq_true (by omega), decide_eq_true (by omega)]; rfl
end Go.Proofs.Ytebiddmadmmfpaa
/- wide: read. -/
namespace Go.Proofs.Ytebiddmadmmfpaa
set_option linter.unusedVariables false
set_option linter.unusedSimpArgs false
open Go.RowKit W
/-- The number of the first k digits. -/
def wk (s : ByteArray) (k : Nat) : Nat := Dc.worth (s.data.toList.take k)
theorem wk_zero (s : ByteArray) : wk s 0 = 0 := by unfold wk; simp; rfl
theorem wk_succ (s : ByteArray) (k : Nat) (h : k < s.size) : wk s (k + 1) = wk s k * 10 + (s[k].toNat - 48) := by
  unfold wk
  have : k < s.data.toList.length := by simpa using h
  rw [Dc.worth_take _ k this]; rfl
theorem wk_mono (s : ByteArray) (k : Nat) : wk s k ≤ wk s s.size := by
  unfold wk
  have := Dc.worth_mono s.data.toList k
  rwa [List.take_of_length_le (show s.data.toList.length ≤ s.size by simp)]
theorem add_words {p p1 p0 d : Int} (a : 0 ≤ p) (b : p < 340282366920938463463374607431768211456) (e1 : p1 = hi p) (e0 : p0 = lo p) (d0 : 0 ≤ d) (d1 : d < 10) :
    (addC p1 0 (addC p0 d 0) = 0 → p + d < 340282366920938463463374607431768211456 ∧ addD p0 d 0 = lo (p + d) ∧ addD p1 0 (addC p0 d 0) = hi (p + d)) ∧ (addC p1 0 (addC p0 d 0) ≠ 0 → 340282366920938463463374607431768211456 ≤ p + d) := by
  unfold addC addD hi lo at *
  omega
/-- The state of read's loop. -/
structure RdInv (w wr : World) (M : Int) : Prop where
  m0 : wr.cell? ⟨w.heap.size + 1, 0, none⟩ = some (.int .u64 (lo M))
  m1 : wr.cell? ⟨w.heap.size + 1, 1, none⟩ = some (.int .u64 (hi M))
  f0 : wr.frozen? ⟨w.heap.size + 1, 0, none⟩ = false
  f1 : wr.frozen? ⟨w.heap.size + 1, 1, none⟩ = false
  r0 : wr.cell? ⟨w.heap.size, 0, none⟩ = some (.int .u64 0)
  r1 : wr.cell? ⟨w.heap.size, 1, none⟩ = some (.int .u64 0)
  g0 : wr.frozen? ⟨w.heap.size, 0, none⟩ = false
  g1 : wr.frozen? ⟨w.heap.size, 1, none⟩ = false
  lt : w.heap.size + 1 < wr.heap.size
  below : Below w.heap.size w wr
theorem RdInv.later {w wr v : World} {M : Int} (h : RdInv w wr M) (k : Below wr.heap.size wr v) : RdInv w v M := by
  have lt := h.lt
  have z0 : w.heap.size < wr.heap.size := by omega
  exact ⟨(k.cell (p := ⟨w.heap.size + 1, 0, none⟩) lt).trans h.m0, (k.cell (p := ⟨w.heap.size + 1, 1, none⟩) lt).trans h.m1, (k.frozen (p := ⟨w.heap.size + 1, 0, none⟩) lt).trans h.f0, (k.frozen (p := ⟨w.heap.size + 1, 1, none⟩) lt).trans h.f1,
    (k.cell (p := ⟨w.heap.size, 0, none⟩) z0).trans h.r0, (k.cell (p := ⟨w.heap.size, 1, none⟩) z0).trans h.r1, (k.frozen (p := ⟨w.heap.size, 0, none⟩) z0).trans h.g0, (k.frozen (p := ⟨w.heap.size, 1, none⟩) z0).trans h.g1,
    Nat.lt_of_lt_of_le lt k.size, h.below.trans (k.mono h.below.size)⟩
theorem RdInv.put {w v : World} {M : Int} (h : RdInv w v M) (M' : Int) : RdInv w ((v.setCell ⟨w.heap.size + 1, 0, none⟩ (.int .u64 (lo M'))).setCell ⟨w.heap.size + 1, 1, none⟩ (.int .u64 (hi M'))) M' := by
  obtain ⟨m0, m1, f0, f1, r0, r1, g0, g1, lt, bl⟩ := h
  refine ⟨?_, ?_, ?_, ?_, ?_, ?_, ?_, ?_, by simpa [World.setCell] using lt, (bl.setCell (by show w.heap.size ≤ w.heap.size + 1; omega) _).setCell (by show w.heap.size ≤ w.heap.size + 1; omega) _⟩
  · simp [go_sem, m0, lt]
  · refine World.cell?_setCell_same' _ _ _ ?_; simp [go_sem, m1]
  · simp [go_sem, f0]
  · simp [go_sem, f1]
  · simp [go_sem, r0]
  · simp [go_sem, r1]
  · simp [go_sem, g0]
  · simp [go_sem, g1]
def rdRes (n : Nat) : Ending := if n < 340282366920938463463374607431768211456 then .returned (.tuple #[.agg #[.int .u64 (lo n), .int .u64 (hi n)], .bool true]) else .returned (.tuple #[.agg #[.int .u64 0, .int .u64 0], .bool false])
theorem rdRes_yes {n : Nat} (h : n < 340282366920938463463374607431768211456) : rdRes n = .returned (.tuple #[.agg #[.int .u64 (lo n), .int .u64 (hi n)], .bool true]) := by unfold rdRes; rw [if_pos h]
theorem rdRes_no {n : Nat} (h : ¬ n < 340282366920938463463374607431768211456) : rdRes n = .returned (.tuple #[.agg #[.int .u64 0, .int .u64 0], .bool false]) := by unfold rdRes; rw [if_neg h]
end Go.Proofs.Ytebiddmadmmfpaa
/- wide: Parse. -/
namespace Go.Proofs.Ytebiddmadmmfpaa
set_option linter.unusedVariables false
set_option linter.unusedSimpArgs false
open Go.RowKit W
/-- What Parse answers of a sign and digits. -/
def parRes (neg : Bool) (d : ByteArray) : Ending := if plainB d && !(neg && d.toList == [48]) then sumRes (sg neg (wk d d.size : Nat)) else .returned (.tuple #[.agg #[.int .i64 0, .int .u64 0], .int .i64 12])
theorem parRes_no {neg : Bool} {d : ByteArray} (h : (plainB d && !(neg && d.toList == [48])) = false) : parRes neg d = .returned (.tuple #[.agg #[.int .i64 0, .int .u64 0], .int .i64 12]) := by
  unfold parRes; rw [h]; rfl
theorem parRes_yes {neg : Bool} {d : ByteArray} (h : (plainB d && !(neg && d.toList == [48])) = true) : parRes neg d = sumRes (sg neg (wk d d.size : Nat)) := by
  unfold parRes; rw [h]; rfl
theorem over_sg (neg : Bool) {n : Nat} (h : ¬ n < 340282366920938463463374607431768211456) : sumRes (sg neg (n : Nat)) = .returned (.tuple #[.agg #[.int .i64 0, .int .u64 0], .int .i64 10]) := by
  have f : ¬ Fits (sg neg (n : Nat)) := by
    rintro ⟨a, b⟩
    cases neg
    · rw [sg_f] at a b; omega
    · rw [sg_t] at a b; omega
  unfold sumRes
  rw [resV_not f, resE_not f]; rfl
theorem plain_digits {d : ByteArray} (h : plainB d = true) : ∀ j (hj : j < d.size), Dc.isD d[j] = true := by
  intro j hj
  unfold plainB allD at h
  simp only [Bool.and_eq_true] at h
  have := List.all_eq_true.1 h.2
  refine this _ ?_
  rw [ByteArray.toList_eq]
  have hl : j < d.data.toList.length := by simpa using hj
  exact List.mem_iff_getElem.2 ⟨j, hl, rfl⟩
/-- A sign ahead, and the digits. -/
def isNeg (s : ByteArray) : Bool := s.toList.head? == some 45
def digOf (s : ByteArray) : ByteArray := if isNeg s then s.extract 1 s.size else s
end Go.Proofs.Ytebiddmadmmfpaa
/- wide: Print. -/
namespace Go.Proofs.Ytebiddmadmmfpaa
set_option linter.unusedVariables false
open Go.RowKit W
/-- A number's text. -/
def txt (v : Int) : List UInt8 := if v < 0 then 45 :: Dc.dec v.natAbs else Dc.dec v.natAbs
theorem eq0_no (n : Nat) (y : Int) (w : World) : (Op.equalIn 10000 83 (.agg #[.int .u64 ((n + 1 : Nat) : Int), .int .u64 y]) (.agg #[.int .u64 0, .int .u64 0])).run Try.prog w = .ok false w := by kernel_rfl
theorem eq0_low (n : Nat) (w : World) : (Op.equalIn 10000 83 (.agg #[.int .u64 0, .int .u64 ((n + 1 : Nat) : Int)]) (.agg #[.int .u64 0, .int .u64 0])).run Try.prog w = .ok false w := by kernel_rfl
theorem eq0_yes (w : World) : (Op.equalIn 10000 83 (.agg #[.int .u64 0, .int .u64 0]) (.agg #[.int .u64 0, .int .u64 0])).run Try.prog w = .ok true w := by kernel_rfl
theorem eq0 (x y : Int) (i : IsLo x) (j : IsLo y) (h : V y x ≠ 0) (w : World) : (Op.equalIn 10000 83 (.agg #[.int .u64 x, .int .u64 y]) (.agg #[.int .u64 0, .int .u64 0])).run Try.prog w = .ok false w := by
  obtain ⟨n, rfl⟩ := Int.eq_ofNat_of_zero_le i.a
  obtain ⟨m, rfl⟩ := Int.eq_ofNat_of_zero_le j.a
  rcases n with _ | n
  · rcases m with _ | m
    · exact absurd rfl h
    · exact eq0_low m w
  · exact eq0_no n _ w
/-- The state of Print's loop: M is left, l is written. -/
structure PInv (w wr : World) (b : Nat) (M : Int) (l : List UInt8) : Prop where
  c0 : wr.cell? ⟨b, 0, none⟩ = some (.int .u64 (lo M))
  c1 : wr.cell? ⟨b, 1, none⟩ = some (.int .u64 (hi M))
  f0 : wr.frozen? ⟨b, 0, none⟩ = false
  f1 : wr.frozen? ⟨b, 1, none⟩ = false
  row : ∀ j, j < 40 → ∃ v, wr.cell? ⟨b + 1, j, none⟩ = some (.int .u8 v)
  free : ∀ j, wr.frozen? ⟨b + 1, j, none⟩ = false
  text : ∀ j, j < l.length → wr.cell? ⟨b + 1, 40 - l.length + j, none⟩ = some (.int .u8 ((l.getD j 0).toNat : Int))
  lt : b + 1 < wr.heap.size
  ge : w.heap.size ≤ b
  below : Below w.heap.size w wr
theorem PInv.later {w wr w' : World} {b : Nat} {M : Int} {l : List UInt8} (h : PInv w wr b M l) (k : Below wr.heap.size wr w') : PInv w w' b M l :=
  ⟨(k.cell (p := ⟨b, 0, none⟩) (by have := h.lt; show b < _; omega)).trans h.c0, (k.cell (p := ⟨b, 1, none⟩) (by have := h.lt; show b < _; omega)).trans h.c1,
   (k.frozen (p := ⟨b, 0, none⟩) (by have := h.lt; show b < _; omega)).trans h.f0, (k.frozen (p := ⟨b, 1, none⟩) (by have := h.lt; show b < _; omega)).trans h.f1,
   fun j hj => by obtain ⟨v, hv⟩ := h.row j hj; exact ⟨v, (k.cell (p := ⟨b + 1, j, none⟩) h.lt).trans hv⟩, fun j => (k.frozen (p := ⟨b + 1, j, none⟩) h.lt).trans (h.free j),
   fun j hj => (k.cell (p := ⟨b + 1, 40 - l.length + j, none⟩) h.lt).trans (h.text j hj), Nat.lt_of_lt_of_le h.lt k.size, h.ge, h.below.trans (k.mono h.below.size)⟩
/-- The text with one byte more ahead. -/
theorem text_cons {w w' : World} {b n : Nat} {l : List UInt8} {c : UInt8} (hn : n + 1 + l.length = 40) (h : ∀ j, j < l.length → w.cell? ⟨b, 40 - l.length + j, none⟩ = some (.int .u8 ((l.getD j 0).toNat : Int)))
    (h0 : w'.cell? ⟨b, n, none⟩ = some (.int .u8 (c.toNat : Int))) (ho : ∀ j, j ≠ n → w'.cell? ⟨b, j, none⟩ = w.cell? ⟨b, j, none⟩) :
    ∀ j, j < (c :: l).length → w'.cell? ⟨b, 40 - (c :: l).length + j, none⟩ = some (.int .u8 (((c :: l).getD j 0).toNat : Int)) := by
  intro j hj
  rw [List.length_cons] at hj ⊢
  have e : 40 - (l.length + 1) = n := by omega
  rw [e]
  rcases j with _ | j
  · simpa using h0
  · rw [ho _ (by omega)]
    have := h j (by omega)
    rw [show 40 - l.length = n + 1 by omega] at this
    rw [show n + (j + 1) = n + 1 + j by omega]
    simpa using this
theorem co (w : World) (b o b' o' : Nat) (v : Value) (h : b ≠ b' ∨ o ≠ o') : (w.setCell ⟨b, o, none⟩ v).cell? ⟨b', o', none⟩ = w.cell? ⟨b', o', none⟩ := World.cell?_setCell_other w _ _ v (by intro e; simp at e; omega)
theorem PInv.put {w v : World} {b n : Nat} {M M' : Int} {l : List UInt8} {c : UInt8} (h : PInv w v b M l) (hn : n + 1 + l.length = 40) :
    PInv w (((v.setCell ⟨b, 0, none⟩ (.int .u64 (lo M'))).setCell ⟨b, 1, none⟩ (.int .u64 (hi M'))).setCell ⟨b + 1, n, none⟩ (.int .u8 (c.toNat : Int))) b M' (c :: l) := by
  have lt := h.lt
  have lb : b < v.heap.size := by omega
  obtain ⟨x, hx⟩ := h.row n (by omega)
  have hw : ∀ j, ((v.setCell ⟨b, 0, none⟩ (.int .u64 (lo M'))).setCell ⟨b, 1, none⟩ (.int .u64 (hi M'))).cell? ⟨b + 1, j, none⟩ = v.cell? ⟨b + 1, j, none⟩ := fun j =>
    (co _ _ _ _ _ _ (by omega)).trans (co _ _ _ _ _ _ (by omega))
  have ho : ∀ j, j ≠ n → (((v.setCell ⟨b, 0, none⟩ (.int .u64 (lo M'))).setCell ⟨b, 1, none⟩ (.int .u64 (hi M'))).setCell ⟨b + 1, n, none⟩ (.int .u8 (c.toNat : Int))).cell? ⟨b + 1, j, none⟩ = v.cell? ⟨b + 1, j, none⟩ := fun j hj =>
    (co _ _ _ _ _ _ (by omega)).trans (hw j)
  have h0 : (((v.setCell ⟨b, 0, none⟩ (.int .u64 (lo M'))).setCell ⟨b, 1, none⟩ (.int .u64 (hi M'))).setCell ⟨b + 1, n, none⟩ (.int .u8 (c.toNat : Int))).cell? ⟨b + 1, n, none⟩ = some (.int .u8 (c.toNat : Int)) := by
    refine World.cell?_setCell_same' _ _ _ ?_; rw [hw, hx]; rfl
  refine ⟨?_, ?_, ?_, ?_, ?_, ?_, text_cons hn h.text h0 ho, by simpa [World.setCell] using lt, h.ge, ?_⟩
  · refine (co _ _ _ _ _ _ (by omega)).trans ((co _ _ _ _ _ _ (by omega)).trans ?_)
    refine World.cell?_setCell_same' _ _ _ ?_; rw [h.c0]; rfl
  · refine (co _ _ _ _ _ _ (by omega)).trans ?_
    refine World.cell?_setCell_same' _ _ _ ?_; rw [co _ _ _ _ _ _ (.inr (by omega : (0:Nat) ≠ 1)), h.c1]; rfl
  · simp [go_sem, h.f0]
  · simp [go_sem, h.f1]
  · intro j hj
    by_cases e : j = n
    · subst e; exact ⟨_, h0⟩
    · rw [ho j e]; exact h.row j hj
  · intro j; simp [go_sem, h.free j]
  · exact ((h.below.setCell h.ge _).setCell h.ge _).setCell (by show w.heap.size ≤ b + 1; have := h.ge; omega) _
theorem PInv.dash {w v : World} {b n : Nat} {M : Int} {l : List UInt8} (h : PInv w v b M l) (hn : n + 1 + l.length = 40) : PInv w (v.setCell ⟨b + 1, n, none⟩ (.int .u8 45)) b M (45 :: l) := by
  obtain ⟨x, hx⟩ := h.row n (by omega)
  have lt := h.lt
  have ho : ∀ j, j ≠ n → (v.setCell ⟨b + 1, n, none⟩ (.int .u8 45)).cell? ⟨b + 1, j, none⟩ = v.cell? ⟨b + 1, j, none⟩ := fun j hj => co _ _ _ _ _ _ (by omega)
  have h0 : (v.setCell ⟨b + 1, n, none⟩ (.int .u8 45)).cell? ⟨b + 1, n, none⟩ = some (.int .u8 ((45 : UInt8).toNat : Int)) := by
    refine World.cell?_setCell_same' _ _ _ ?_; rw [hx]; rfl
  refine ⟨(co _ _ _ _ _ _ (by omega)).trans h.c0, (co _ _ _ _ _ _ (by omega)).trans h.c1, ?_, ?_, ?_, ?_, text_cons hn h.text h0 ho, by simpa [World.setCell] using lt, h.ge, h.below.setCell (by show w.heap.size ≤ b + 1; have := h.ge; omega) _⟩
  · simp [go_sem, h.f0]
  · simp [go_sem, h.f1]
  · intro j hj
    by_cases e : j = n
    · subst e; exact ⟨_, h0⟩
    · rw [ho j e]; exact h.row j hj
  · intro j; simp [go_sem, h.free j]
theorem dec_step {N : Nat} {M : Int} {l : List UInt8} (m0 : 0 ≤ M) (h : Dc.dec N = Dc.dec M.toNat ++ l) (q : M / 10 ≠ 0) : Dc.dec N = Dc.dec (M / 10).toNat ++ Dc.ch (M % 10).toNat :: l := by
  have e : (M / 10).toNat = M.toNat / 10 := by omega
  have e2 : (M % 10).toNat = M.toNat % 10 := by omega
  rw [h, Dc.dec_last M.toNat, e, e2, Dc.dec_pos (by omega)]; simp
theorem dec_stop {N : Nat} {M : Int} {l : List UInt8} (m0 : 0 ≤ M) (h : Dc.dec N = Dc.dec M.toNat ++ l) (q : M / 10 = 0) : Dc.dec N = Dc.ch (M % 10).toNat :: l := by
  have e2 : (M % 10).toNat = M.toNat % 10 := by omega
  rw [h, Dc.dec_last M.toNat, show M.toNat / 10 = 0 by omega, Dc.pre_zero, e2]; simp
theorem dec_len {N : Nat} (h : N < 10 ^ 39) : (Dc.dec N).length ≤ 39 := by
  unfold Dc.dec; split
  · simp
  · exact Dc.pre_length_le 39 N h
theorem dec_pos_len (N : Nat) : 1 ≤ (Dc.dec N).length := by rw [Dc.dec_last]; simp
end Go.Proofs.Ytebiddmadmmfpaa
/- wide: a number's text, read again. -/
namespace Go.Proofs.Ytebiddmadmmfpaa
set_option linter.unusedVariables false
set_option linter.unusedSimpArgs false
open Go.RowKit W
theorem dec_worth (n : Nat) : Dc.worth (Dc.dec n) = n := by
  by_cases h : n = 0
  · subst h; rfl
  · rw [Dc.dec_pos h, Dc.worth_pre]
theorem dec_digits (n : Nat) : ∀ c ∈ Dc.dec n, Dc.isD c = true := by
  by_cases h : n = 0
  · subst h
    intro c hc
    have : c = 48 := by simpa [Dc.dec] using hc
    subst this; rfl
  · rw [Dc.dec_pos h]; exact Dc.pre_digits n
theorem dec_head (n : Nat) : ∃ c r, Dc.dec n = c :: r ∧ c ≠ 45 ∧ (c = 48 → n = 0) := by
  by_cases h : n = 0
  · subst h; exact ⟨48, [], rfl, by decide, fun _ => rfl⟩
  · obtain ⟨d, r, e, a, b⟩ := Dc.pre_head h
    refine ⟨Dc.ch d, r, by rw [Dc.dec_pos h, e], fun q => ?_, fun q => ?_⟩
    · have := Dc.ch_toNat b; rw [q] at this; have e45 : (45 : UInt8).toNat = 45 := rfl; omega
    · have := Dc.ch_toNat b; rw [q] at this; have e48 : (48 : UInt8).toNat = 48 := rfl; omega
theorem mk_toList (l : List UInt8) : (⟨l.toArray⟩ : ByteArray).toList = l := by rw [ByteArray.toList_eq]
theorem plain_dec (n : Nat) : plainB ⟨(Dc.dec n).toArray⟩ = true := by
  obtain ⟨c, r, e, n1, n2⟩ := dec_head n
  have dd : allD ⟨(Dc.dec n).toArray⟩ = true := by
    unfold allD
    rw [mk_toList, List.all_eq_true]
    exact dec_digits n
  unfold plainB
  rw [dd, mk_toList]
  by_cases h : c = 48
  · have := n2 h; subst this; rfl
  · rw [e]
    have : (some c == some (48 : UInt8)) = false := by simpa using h
    simp [this, h]
theorem wk_all (l : List UInt8) : wk ⟨l.toArray⟩ (⟨l.toArray⟩ : ByteArray).size = Dc.worth l := by
  unfold wk
  have e : (⟨l.toArray⟩ : ByteArray).size = l.length := by show l.toArray.size = _; simp
  rw [e]
  show Dc.worth (l.take l.length) = _
  rw [List.take_length]
theorem neg_txt (v : Int) : isNeg ⟨(txt v).toArray⟩ = decide (v < 0) := by
  unfold isNeg txt
  rw [mk_toList]
  by_cases h : v < 0
  · rw [if_pos h, decide_eq_true h]; rfl
  · rw [if_neg h, decide_eq_false h]
    obtain ⟨c, r, e, n1, _⟩ := dec_head v.natAbs
    rw [e]
    show (some c == some (45 : UInt8)) = false
    simpa using n1
theorem dig_txt (v : Int) : digOf ⟨(txt v).toArray⟩ = ⟨(Dc.dec v.natAbs).toArray⟩ := by
  unfold digOf
  rw [neg_txt]
  by_cases h : v < 0
  · rw [decide_eq_true h, if_pos rfl]
    unfold txt
    rw [if_pos h]
    apply ByteArray.ext
    apply Array.toList_inj.1
    simp [ByteArray.data_extract, ByteArray.size]
  · rw [decide_eq_false h]
    unfold txt
    rw [if_neg h]; rfl
theorem par_txt (v : Int) : parRes (isNeg ⟨(txt v).toArray⟩) (digOf ⟨(txt v).toArray⟩) = sumRes v := by
  rw [neg_txt, dig_txt]
  have one : (decide (v < 0) && (⟨(Dc.dec v.natAbs).toArray⟩ : ByteArray).toList == [48]) = false := by
    rw [mk_toList]
    by_cases h : v < 0
    · rw [decide_eq_true h, Bool.true_and]
      have : v.natAbs ≠ 0 := by omega
      obtain ⟨c, r, e, _, n2⟩ := dec_head v.natAbs
      rw [e]
      have : c ≠ 48 := fun q => this (n2 q)
      simp [this]
    · rw [decide_eq_false h]; rfl
  rw [parRes_yes (by rw [plain_dec, one]; rfl), wk_all, dec_worth]
  have e : sg (decide (v < 0)) (v.natAbs : Nat) = v := by
    by_cases h : v < 0
    · rw [decide_eq_true h, sg_t]; omega
    · rw [decide_eq_false h, sg_f]; omega
  rw [e]
theorem txt_inj {v v' : Int} (h : txt v = txt v') : v = v' := by
  have n := neg_txt v
  have d := congrArg ByteArray.toList (dig_txt v)
  rw [h, neg_txt] at n
  rw [h, dig_txt, mk_toList, mk_toList] at d
  have w := congrArg Dc.worth d
  rw [dec_worth, dec_worth] at w
  by_cases g : v < 0
  · have : v' < 0 := by rw [decide_eq_true g] at n; exact of_decide_eq_true n
    omega
  · have : ¬ v' < 0 := by rw [decide_eq_false g] at n; exact of_decide_eq_false n
    omega
theorem txt_short {v : Int} (f : Fits v) : (txt v).length ≤ 41 := by
  obtain ⟨_, _⟩ := f
  have n : v.natAbs < 10 ^ 39 := by omega
  have d : (Dc.dec v.natAbs).length ≤ 40 := by
    by_cases h : v.natAbs = 0
    · rw [h]; decide
    · rw [Dc.dec_pos h]; have := Dc.pre_length_le 39 _ n; omega
  unfold txt
  split
  · rw [List.length_cons]; omega
  · omega
end Go.Proofs.Ytebiddmadmmfpaa
/- wide: Sub. -/
namespace Go.Proofs.Ytebiddmadmmfpaa
set_option linter.unusedVariables false
open Go.RowKit W
theorem sum3 (n : Nat) (a b x y : Int) (w : World) (hn : n < w.heap.size) (i : IsW (a, b)) (j : IsW (x, y)) (c0 : w.cell? ⟨n, 0, none⟩ = some (.int .i64 a)) (c1 : w.cell? ⟨n, 1, none⟩ = some (.int .u64 b))
    (c2 : w.cell? ⟨n, 2, none⟩ = some (.int .i64 x)) (c3 : w.cell? ⟨n, 3, none⟩ = some (.int .u64 y)) (c4 : w.cell? ⟨n, 4, none⟩ = some (.int .i64 0)) (c5 : w.cell? ⟨n, 5, none⟩ = some (.int .u64 1)) :
    Calls Try.prog 28 #[.slice (some ⟨n, 0, none⟩) 3 3] w fun e w' => e = sumRes (sumV [(a, b), (x, y), (0, 1)]) ∧ Below w.heap.size w w' := by
  refine sum_some n 0 3 3 [(a, b), (x, y), (0, 1)] w hn (by omega) ⟨rfl, ?_, ?_, ?_⟩
  · intro k hk
    obtain rfl | rfl | rfl : k = 0 ∨ k = 1 ∨ k = 2 := by omega
    all_goals assumption
  · intro k hk
    obtain rfl | rfl | rfl : k = 0 ∨ k = 1 ∨ k = 2 := by omega
    all_goals assumption
  · intro p hp
    simp only [List.mem_cons, List.not_mem_nil, or_false] at hp
    rcases hp with rfl | rfl | rfl
    · exact i
    · exact j
    · exact ⟨⟨by omega, by omega⟩, ⟨by omega, by omega⟩⟩
theorem isW_0 : IsW (0, 0) := ⟨isHi_0, isLo_0⟩
end Go.Proofs.Ytebiddmadmmfpaa
/- wide: Neg, Abs. -/
namespace Go.Proofs.Ytebiddmadmmfpaa
set_option linter.unusedVariables false
open Go.RowKit W
theorem ab_pos {v : Int} (h : 0 ≤ v) : ab v = v := by unfold ab; rw [if_neg (by omega)]
theorem ab_neg {v : Int} (h : v < 0) : ab v = -v := by unfold ab; rw [if_pos h]
end Go.Proofs.Ytebiddmadmmfpaa
/- The reference of layer 1: its faces: Of, Small; WideSigns. -/
namespace Go.Proofs.Ytebiddmadmmfpaa
set_option linter.unusedVariables false
open Go.RowKit W Lb
theorem rof_spec (n : Int) (j : IsHi n) (w : World) :
    Calls Try.prog 59 #[.int .i64 n] w fun e w' => e = wideRes n ∧ Below w.heap.size w w' := by
  have e1 : IntKind.u64.wrap n = lo n := by rw [IntKind.wrap_u64]; rfl
  have e2 : hi n = if n < 0 then -1 else 0 := by obtain ⟨_, _⟩ := j; unfold hi; split <;> omega
  unfold wideRes
  rw [e2]
  clear e2
  generalize lo n = x at *
  by_cases h : n < 0
  · rw [if_pos h]
    go_enter Try.func59, Try.ntmps59
    go_wp2
    go_returns
    exact ⟨rfl, by go_grown⟩
  · rw [if_neg h]
    go_enter Try.func59, Try.ntmps59
    go_wp2
    go_returns
    exact ⟨rfl, by go_grown⟩
set_option maxHeartbeats 1000000 in
theorem rsmall_yes (a b n : Int) (hn : IntKind.i64.wrap b = n) (c : ∀ w, Calls Try.prog 59 #[.int .i64 n] w fun e w' => e = .returned (.agg #[.int .i64 a, .int .u64 b]) ∧ Below w.heap.size w w') (w : World) :
    Calls Try.prog 66 #[.agg #[.int .i64 a, .int .u64 b]] w fun e w' => e = .returned (.tuple #[.int .i64 n, .bool true]) ∧ Below w.heap.size w w' := by
  go_enter Try.func66, Try.ntmps66
  go_wp2_with fail
  obtain ⟨W, hW⟩ : ∃ X, X = w.alloc (Obj.cells #[.int .i64 a, .int .u64 b] 34) := ⟨_, rfl⟩
  have cW0 : W.cell? ⟨w.heap.size, 0, none⟩ = some (.int .i64 a) := by rw [hW]; first | (simp [go_sem]; done)
  have fW0 : W.frozen? ⟨w.heap.size, 0, none⟩ = false := by rw [hW]; first | (simp [go_sem]; done)
  have zW0 : w.heap.size < W.heap.size := by rw [hW]; first | omega | (simp; done) | (simp; omega)
  have cW1 : W.cell? ⟨w.heap.size, 1, none⟩ = some (.int .u64 b) := by rw [hW]; first | (simp [go_sem]; done)
  have fW1 : W.frozen? ⟨w.heap.size, 1, none⟩ = false := by rw [hW]; first | (simp [go_sem]; done)
  have zW1 : w.heap.size < W.heap.size := by rw [hW]; first | omega | (simp; done) | (simp; omega)
  have BW : Below w.heap.size w W := by rw [hW]; go_grown
  rw [← hW]
  clear hW
  have K1 := (Keeps.start (Nat.le_refl W.heap.size)).drew
  go_region_held3 (fun w' => w'.cell? ⟨w.heap.size, 0, none⟩ = some (.int .i64 a) ∧ w'.cell? ⟨w.heap.size, 1, none⟩ = some (.int .u64 b) ∧ Keeps W.heap.size W w') ((refine (fun K => ⟨Keeps.cell K cW0 zW0, Keeps.cell K cW1 zW1, K⟩) (?_ : Keeps W.heap.size W _); (first | assumption | exact Keeps.alloc (by assumption) _)))
    (first | (go_at_call 59; refine (c _).mono ?_; rintro e w1 ⟨rfl, hb⟩; have K2 := Keeps.call (by assumption) hb))
  go_wp2
  go_returns
  exact ⟨rfl, BW.trans (K2.below.mono BW.size)⟩
set_option maxHeartbeats 1000000 in
theorem rsmall_no (a b n h : Int) (hn : IntKind.i64.wrap b = n) (hne : (h == a) = false) (c : ∀ w, Calls Try.prog 59 #[.int .i64 n] w fun e w' => e = .returned (.agg #[.int .i64 h, .int .u64 b]) ∧ Below w.heap.size w w') (w : World) :
    Calls Try.prog 66 #[.agg #[.int .i64 a, .int .u64 b]] w fun e w' => e = .returned (.tuple #[.int .i64 0, .bool false]) ∧ Below w.heap.size w w' := by
  go_enter Try.func66, Try.ntmps66
  go_wp2_with fail
  obtain ⟨W, hW⟩ : ∃ X, X = w.alloc (Obj.cells #[.int .i64 a, .int .u64 b] 34) := ⟨_, rfl⟩
  have cW0 : W.cell? ⟨w.heap.size, 0, none⟩ = some (.int .i64 a) := by rw [hW]; first | (simp [go_sem]; done)
  have fW0 : W.frozen? ⟨w.heap.size, 0, none⟩ = false := by rw [hW]; first | (simp [go_sem]; done)
  have zW0 : w.heap.size < W.heap.size := by rw [hW]; first | omega | (simp; done) | (simp; omega)
  have cW1 : W.cell? ⟨w.heap.size, 1, none⟩ = some (.int .u64 b) := by rw [hW]; first | (simp [go_sem]; done)
  have fW1 : W.frozen? ⟨w.heap.size, 1, none⟩ = false := by rw [hW]; first | (simp [go_sem]; done)
  have zW1 : w.heap.size < W.heap.size := by rw [hW]; first | omega | (simp; done) | (simp; omega)
  have BW : Below w.heap.size w W := by rw [hW]; go_grown
  rw [← hW]
  clear hW
  have K1 := (Keeps.start (Nat.le_refl W.heap.size)).drew
  go_region_held3 (fun w' => w'.cell? ⟨w.heap.size, 0, none⟩ = some (.int .i64 a) ∧ w'.cell? ⟨w.heap.size, 1, none⟩ = some (.int .u64 b) ∧ Keeps W.heap.size W w') ((refine (fun K => ⟨Keeps.cell K cW0 zW0, Keeps.cell K cW1 zW1, K⟩) (?_ : Keeps W.heap.size W _); (first | assumption | exact Keeps.alloc (by assumption) _)))
    (first | (go_at_call 59; refine (c _).mono ?_; rintro e w1 ⟨rfl, hb⟩; have K2 := Keeps.call (by assumption) hb))
  go_wp2
  go_returns
  exact ⟨rfl, BW.trans (K2.below.mono BW.size)⟩
theorem rsmall_spec (a b : Int) (i : IsW (a, b)) (w : World) :
    Calls Try.prog 66 #[.agg #[.int .i64 a, .int .u64 b]] w fun e w' => e = .returned (.tuple #[.int .i64 (smallV (V a b)), .bool (smallB (V a b))]) ∧ Below w.heap.size w w' := by
  obtain ⟨i1, i0⟩ := i
  have wm := wrap_s i0
  have j : IsHi (s b) := by obtain ⟨_, _⟩ := i0; unfold s; split <;> exact ⟨by omega, by omega⟩
  have c := rof_spec (s b) j
  have el : lo (s b) = b := by obtain ⟨_, _⟩ := i0; unfold lo s; split <;> omega
  unfold wideRes at c
  rw [el] at c
  by_cases e : hi (s b) = a
  · rw [e] at c
    have v : V a b = s b := by rw [← e]; obtain ⟨_, _⟩ := i0; unfold V hi s; split <;> omega
    have h1 : smallV (V a b) = s b := by unfold smallV; rw [v, if_pos j]
    have h2 : smallB (V a b) = true := by unfold smallB; rw [v]; exact decide_eq_true j
    rw [h1, h2]
    exact rsmall_yes a b _ wm c w
  · have n : ¬ IsHi (V a b) := by
      rintro ⟨x, y⟩
      apply e
      obtain ⟨_, _⟩ := i0
      unfold V at x y; unfold hi s; split <;> omega
    have h1 : smallV (V a b) = 0 := by unfold smallV; rw [if_neg n]
    have h2 : smallB (V a b) = false := by unfold smallB; exact decide_eq_false n
    rw [h1, h2]
    exact rsmall_no a b _ _ wm (by simpa using e) c w
end Go.Proofs.Ytebiddmadmmfpaa
/- The reference of layer 1: its faces: Int, Digits, Parse; WideParses. (gen_lparse.py) -/
namespace Go.Proofs.Ytebiddmadmmfpaa
set_option linter.unusedVariables false
set_option linter.unusedSimpArgs false
open Go.RowKit W Lb
theorem wk_lt (s : ByteArray) (hd : ∀ j (hj : j < s.size), Dc.isD s[j] = true) (k : Nat) (hk : k ≤ s.size) : wk s k < 10 ^ k := by
  induction k with
  | zero => rw [wk_zero]; decide
  | succ k ih =>
    have := ih (by omega)
    have dd := hd k (by omega)
    rw [wk_succ s k (by omega), Nat.pow_succ]
    unfold Dc.isD at dd
    simp at dd
    omega
theorem plain_first {s : ByteArray} (h : plainB s = true) (h1 : 1 < s.size) : 49 ≤ (s[0]'(by omega)).toNat := by
  have dd := plain_digits h 0 (by omega)
  have hl : s.toList.length = s.size := by rw [ByteArray.toList_eq]; simp
  have hh : s.toList.head? = some (s[0]'(by omega)) := by
    rw [ByteArray.toList_eq, List.head?_eq_getElem?, List.getElem?_eq_getElem (by rw [ByteArray.toList_eq] at hl; omega)]; rfl
  unfold plainB at h
  have ne : (s.toList == [48]) = false := by
    simp only [beq_eq_false_iff_ne, ne_eq]
    intro e; rw [e] at hl; simp at hl; omega
  rw [hh, ne] at h
  simp only [Bool.and_eq_true, Bool.or_false, Bool.not_eq_true', beq_eq_false_iff_ne, ne_eq, Option.some.injEq] at h
  have n48 : ¬ (s[0]'(by omega)).toNat = 48 := fun e => h.1.2 (UInt8.toNat_inj.1 (by rw [e]; rfl))
  unfold Dc.isD at dd
  simp at dd
  omega
theorem wk_ge {s : ByteArray} (h : plainB s = true) (h1 : 1 < s.size) (k : Nat) (hk : k + 1 ≤ s.size) : 10 ^ k ≤ wk s (k + 1) := by
  induction k with
  | zero =>
    have := plain_first h h1
    rw [wk_succ s 0 (by omega), wk_zero]
    simp; omega
  | succ k ih =>
    have := ih (by omega)
    rw [wk_succ s (k + 1) (by omega), Nat.pow_succ]
    omega
theorem wk_big {s : ByteArray} (h : plainB s = true) (h1 : 40 < s.size) : ¬ wk s s.size < 340282366920938463463374607431768211456 := by
  have a := wk_ge h (by omega) 40 (by omega)
  have b := wk_mono s (40 + 1)
  have e : (10:Nat) ^ 40 = 10000000000000000000000000000000000000000 := by decide
  omega
theorem rint_spec (n : Int) (j : IsHi n) (w : World) :
    Calls Try.prog 31 #[.int .i64 n] w (NumPost w n) := by
  have k1 := rof_spec n j
  have k2 := from_spec (hi n) (lo n) ⟨by obtain ⟨_, _⟩ := j; exact ⟨by unfold hi; omega, by unfold hi; omega⟩, isLo_lo n⟩
  rw [V_hi_lo] at k2
  unfold wideRes at k1
  go_enter Try.func31, Try.ntmps31
  go_wp2_with fail
  refine (k1 _).mono ?_
  rintro e w1 ⟨rfl, h1⟩
  obtain ⟨a0, a1, a2⟩ := live (.bool false) h1 w.heap.size 0 (by first | omega | (simp; done) | (simp; omega)) (by simp [go_sem]) (by simp [go_sem])
  obtain ⟨b0, b1, b2⟩ := live (.slice none 0 0) h1 w.heap.size 1 (by first | omega | (simp; done) | (simp; omega)) (by simp [go_sem]) (by simp [go_sem])
  have s1 := h1.size
  have B1 : Below w.heap.size w w1 := Below.trans (by go_grown) (h1.mono (by first | (simp; done) | omega | (simp; omega)))
  have y1 := B1.size
  go_wp2_with fail
  refine (k2 _).mono ?_
  rintro e w2 ⟨s, p, c, l, rfl, N, h2⟩
  have B2 : Below w.heap.size w w2 := B1.trans (h2.mono y1)
  have B3 := hide (Below.trans h1 (h2.mono (by first | exact s1 | (simp; omega) | omega | (simp; done))))
  obtain ⟨c0, c1, c2⟩ := live (.bool false) h2 w.heap.size 0 (by first | omega | (simp; done) | (simp; omega)) (by simp [go_sem, a0, a2]) (by simp [go_sem, a1, a2])
  obtain ⟨d0, d1, d2⟩ := live (.slice none 0 0) h2 w.heap.size 1 (by first | omega | (simp; done) | (simp; omega)) (by simp [go_sem, b0, a2]) (by simp [go_sem, b1, a2])
  have F := hide N
  clear N k1 k2 h1 h2 a0 a1 b0 b1
  go_wp2_with fail
  refine bodyPost_ret (by simp [results, Try.results31, go_sem, c0, c1, c2, d0, d1]; try rfl) rfl ?_
  refine ⟨_, _, _, _, rfl, ?_, ?_⟩
  · have sh : w2.shape? w.heap.size = some (64, 2) := by
      refine (shape_later B3.out (by simp)).trans ?_
      exact shape_new _ _ _ _
    have ne : (64 : TypeId) ≠ 107 := by decide
    repeat (first | exact F.out | refine IsNum.set ?_ (by first | exact sh | (rw [shape_set]; exact sh)) ne _)
  · repeat (first | exact B2 | refine Below.setCell ?_ (by first | (simp; done) | omega | (simp; omega)) _ | refine Below.drew ?_ | refine below_drewN ?_ _ | refine Below.alloc ?_ (by first | (simp; done) | omega | (simp; omega)) _)
end Go.Proofs.Ytebiddmadmmfpaa
/- timer: the reference's Rank, part, wide, Small. (gen_tm2.py) -/
namespace Go.Proofs.Ytebiddmadmmfpaa
set_option linter.unusedVariables false
set_option linter.unusedSimpArgs false
open Go.RowKit W T9 Lb
theorem shape_top2 (w : World) (x y : Value) (t : TypeId) (f : Nat × Nat) {n : Nat} (h : n = w.heap.size) : (w.alloc (.cells #[x, y] t f)).shape? n = some (t, 2) := shape_top w #[x, y] t f h
theorem shape_drew (w : World) (b : Nat) : w.drew.shape? b = w.shape? b := rfl
theorem mag_zero {l : List Int} {m : Int} (h : Mag l m) : l.length = 0 ↔ m = 0 := by
  constructor
  · intro e
    have : l = [] := List.eq_nil_of_length_eq_zero e
    have v := h.val
    rw [this] at v
    simpa [val] using v.symm
  · intro e
    have := h.len (n := 0) (by rw [e]; decide)
    omega
theorem neq_wide (a b : Int) (w : World) : (binOp .neq 34 (.agg #[.int .i64 a, .int .u64 b]) (.agg #[.int .i64 a, .int .u64 b])).run Try.prog w = .ok (.bool false) w := by
  go_simp
set_option maxRecDepth 100000 in
set_option maxHeartbeats 8000000 in
theorem rsmall9 (v : Int) (h : IsHi v) (w : World) :
    Calls Try.prog 66 #[.agg #[.int .i64 (hi v), .int .u64 (lo v)]] w fun e w' => e = .returned (.tuple #[.int .i64 v, .bool true]) ∧ Below w.heap.size w w' := by
  have k := rof_spec v h
  unfold wideRes at k
  have e : IntKind.i64.wrap (lo v) = v := by obtain ⟨_, _⟩ := h; rw [IntKind.wrap_i64]; unfold lo; omega
  have nq := neq_wide (hi v) (lo v)
  obtain ⟨a, ha⟩ : ∃ a, a = hi v := ⟨_, rfl⟩
  obtain ⟨b, hb⟩ : ∃ b, b = lo v := ⟨_, rfl⟩
  rw [← ha, ← hb] at k nq ⊢
  rw [← hb] at e
  clear ha hb h
  go_enter Try.func66, Try.ntmps66
  go_wp2_with fail
  refine abs_wp (fun W => W.cell? ⟨w.heap.size, 0, none⟩ = some (.int .i64 a) ∧ W.cell? ⟨w.heap.size, 1, none⟩ = some (.int .u64 b) ∧ w.heap.size < W.heap.size ∧ Below w.heap.size w W) ?_ ?_
  · refine ⟨?_, ?_, ?_, ?_⟩
    all_goals first | assumption | (go_grown; done) | (simp [go_sem]; done) | (simp; done) | omega | (simp; omega)
  rintro W ⟨c0, c1, zW, BW⟩
  have K0 := Keeps.start (Nat.le_refl W.heap.size)
  have K1 := K0.drew
  have bb := hide BW
  clear BW e
  go_region_held3 (fun w' => w'.cell? ⟨w.heap.size, 0, none⟩ = some (.int .i64 a) ∧ w'.cell? ⟨w.heap.size, 1, none⟩ = some (.int .u64 b) ∧ Keeps W.heap.size W w')
    ((refine (fun K => ⟨Keeps.cell K c0 zW, Keeps.cell K c1 zW, K⟩) (?_ : Keeps W.heap.size W _); (repeat (first | with_reducible assumption | with_reducible refine Keeps.alloc ?_ _ | with_reducible refine Keeps.drew ?_))))
    (first
    | (go_at_call 59; (with_reducible refine (k _).mono ?_); rintro e v20 ⟨rfl, hb20⟩; have K20 := Keeps.call (B := W.heap.size) (W := W) (by repeat (first | with_reducible assumption | with_reducible refine Keeps.alloc ?_ _ | with_reducible refine Keeps.drew ?_)) hb20))
  all_goals
    go_wp2_with fail
    go_returns
    refine ⟨rfl, ?_⟩
    have b20 := bb.out.trans (K20.below.mono bb.out.size)
    repeat (first | with_reducible assumption | with_reducible refine Below.drew ?_)
theorem few9 {z : Int} (h0 : 0 ≤ z) (h : z < 22300745198530623141535718272648361505980416) : Lb.ab z < pw 9 := by
  have : pw 9 = 22300745198530623141535718272648361505980416 := by decide
  unfold Lb.ab; split <;> omega
theorem to_small (s : Bool) (p : Option Addr) (c : Nat) (l : List Int) (z : Int) (w : World) (H : IsNum w s p c l z) (f : Fits z) :
    Calls Try.prog 33 #[.agg #[.bool s, .slice p l.length c]] w fun e w' => e = .returned (.tuple #[.agg #[.int .i64 (hi z), .int .u64 (lo z)], .bool true]) ∧ Below w.heap.size w w' := by
  have h := to_spec s p c l z w H (by have := H.few 9 (few_fits f); omega)
  unfold toRes at h
  rw [resV_fits f, decide_eq_true f] at h
  exact h
set_option maxRecDepth 100000 in
set_option maxHeartbeats 8000000 in
theorem rwide_spec (s : Bool) (p : Option Addr) (c : Nat) (l : List Int) (z : Int) (w : World) (H : IsNum w s p c l z) (f : Fits z) :
    Calls Try.prog 44 #[.agg #[.bool s, .slice p l.length c]] w fun e w' => e = wideRes z ∧ Below w.heap.size w w' := by
  have kt := fun w' (K : Below w.heap.size w w') => to_small s p c l z w' (H.later K) f
  unfold wideRes
  generalize hi z = a at *
  generalize lo z = b at *
  clear H f
  go_enter Try.func44, Try.ntmps44
  go_wp2_with fail
  refine (kt _ (by go_grown)).mono ?_
  clear kt
  rintro e w1 ⟨rfl, h1⟩
  obtain ⟨r0, g0, z0⟩ := live (.int .i64 0) h1 (w.heap.size + 1) 0 (by simp) (by simp [go_sem]) (by simp [go_sem])
  obtain ⟨r1, g1, _⟩ := live (.int .u64 0) h1 (w.heap.size + 1) 1 (by simp) (by simp [go_sem]) (by simp [go_sem])
  have B1 : Below w.heap.size w w1 := Below.trans (by go_grown) (h1.mono (by simp; omega))
  have ne : ¬ w1.heap.size = w.heap.size + 1 := by omega
  have ne2 : ¬ w.heap.size + 1 = w1.heap.size := by omega
  clear h1
  go_wp2_with fail
  refine bodyPost_ret (by simp [results, Try.results44, go_sem, r0, r1, g0, g1, z0, ne, ne2]; try rfl) rfl ?_
  refine ⟨rfl, ?_⟩
  go_grown
set_option maxRecDepth 100000 in
set_option maxHeartbeats 8000000 in
theorem part_walk (s : Bool) (p : Option Addr) (c : Nat) (l : List Int) (z n q v a b : Int) (w : World) (H : IsNum w s p c l z)
    (k1 : ∀ w', Calls Try.prog 31 #[.int .i64 n] w' (NumPost w' n))
    (k2 : ∀ s' p' c' l' w', IsNum w' s p c l z → IsNum w' s' p' c' l' n → Calls Try.prog 32 #[.agg #[.bool s, .slice p l.length c], .agg #[.bool s', .slice p' l'.length c']] w' (QuoPost w' q v))
    (k3 : ∀ s' p' c' l' w', IsNum w' s' p' c' l' q → Calls Try.prog 33 #[.agg #[.bool s', .slice p' l'.length c']] w' fun e w'' => e = .returned (.tuple #[.agg #[.int .i64 a, .int .u64 b], .bool true]) ∧ Below w'.heap.size w' w'')
    (k4 : ∀ w', Calls Try.prog 66 #[.agg #[.int .i64 a, .int .u64 b]] w' fun e w'' => e = .returned (.tuple #[.int .i64 q, .bool true]) ∧ Below w'.heap.size w' w'') :
    Calls Try.prog 45 #[.agg #[.bool s, .slice p l.length c], .int .i64 n] w fun e w' => e = .returned (.int .i64 q) ∧ Below w.heap.size w w' := by
  have N0 := hide H
  have Q2 := hide k2
  have Q3 := hide k3
  clear H k2 k3
  go_enter Try.func45, Try.ntmps45
  go_wp2_with fail
  refine abs_wp (fun W => W.cell? ⟨w.heap.size, 0, none⟩ = some (.bool s) ∧ W.cell? ⟨w.heap.size, 1, none⟩ = some (.slice p l.length c) ∧ w.heap.size < W.heap.size ∧ Below w.heap.size w W) ?_ ?_
  · refine ⟨?_, ?_, ?_, ?_⟩
    all_goals first | assumption | (go_grown; done) | (simp [go_sem]; done) | (simp; done)
  rintro W ⟨c0, c1, zW, BW⟩
  have NW := hide (N0.out.later BW)
  go_cut [5, 6] (fun q5 q6 W' => ∃ (X Y : Nat) (s1 : Bool) (p1 : Option Addr) (c1 : Nat) (l1 : List Int), q5 = .pointer (some ⟨X, 0, none⟩) ∧ q6 = .pointer (some ⟨Y, 0, none⟩) ∧ Box2 W' X (.bool s1) (.slice p1 l1.length c1) ∧ Hid (IsNum W' s1 p1 c1 l1 q) ∧ Keeps W.heap.size W W')
  case first =>
    have K0 := Keeps.start (Nat.le_refl W.heap.size)
    have K1 := K0.drew
    go_region_held3 (fun w' => w'.cell? ⟨w.heap.size, 0, none⟩ = some (.bool s) ∧ w'.cell? ⟨w.heap.size, 1, none⟩ = some (.slice p l.length c) ∧ Keeps W.heap.size W w')
      ((refine (fun K => ⟨Keeps.cell K c0 zW, Keeps.cell K c1 zW, K⟩) (?_ : Keeps W.heap.size W _); ((repeat (first | with_reducible assumption | with_reducible refine Keeps.alloc ?_ _ | with_reducible refine Keeps.drew ?_ | with_reducible refine Keeps.setCell ?_ ?_ _)); (all_goals (first | (simp; done) | omega | (simp; omega))))))
      (first
      | (go_at_call 31; (with_reducible refine (k1 _).mono ?_); rintro e v20 ⟨s2, p2, c2, l2, rfl, N2, hb20⟩; have K20 := Keeps.call (B := W.heap.size) (W := W) (by (repeat (first | with_reducible assumption | with_reducible refine Keeps.alloc ?_ _ | with_reducible refine Keeps.drew ?_ | with_reducible refine Keeps.setCell ?_ ?_ _)); (all_goals (first | (simp; done) | omega | (simp; omega)))) hb20; obtain ⟨bc20, bf20, bs20⟩ := bcell hb20; (try simp only [World.size_alloc, World.size_drew] at bc20 bf20 bs20); (try (have ov200 : W.heap.size < v20.heap.size := by omega)); (try (have ov201 : W.heap.size ≤ v20.heap.size := by omega)); (try (have ov202 : ¬ W.heap.size = v20.heap.size := by omega)); (try (have ov203 : ¬ v20.heap.size = W.heap.size := by omega)); (try (have ov204 : W.heap.size + 1 < v20.heap.size := by omega)); (try (have ov205 : W.heap.size + 1 ≤ v20.heap.size := by omega)); (try (have ov206 : ¬ W.heap.size + 1 = v20.heap.size := by omega)); (try (have ov207 : ¬ v20.heap.size = W.heap.size + 1 := by omega)))
      | (go_at_call 32; (with_reducible refine (Q2.out _ _ _ _ _ (NW.out.later (Keeps.below (B := W.heap.size) (W := W) (by (repeat (first | with_reducible assumption | with_reducible refine Keeps.alloc ?_ _ | with_reducible refine Keeps.drew ?_ | with_reducible refine Keeps.setCell ?_ ?_ _)); (all_goals (first | (simp; done) | omega | (simp; omega)))))) (N2.later (by (repeat (first | with_reducible assumption | with_reducible exact Below.refl _ _ | with_reducible refine Below.alloc ?_ ?_ _ | with_reducible refine Below.drew ?_ | with_reducible refine Below.setCell ?_ ?_ _)); (all_goals (first | (simp; done) | omega | (simp; omega)))))).mono ?_); rintro e v21 ⟨s3, p3, c3, l3, s4, p4, c4, l4, rfl, N3, N4, hb21⟩; have K21 := Keeps.call (B := W.heap.size) (W := W) (by (repeat (first | with_reducible assumption | with_reducible refine Keeps.alloc ?_ _ | with_reducible refine Keeps.drew ?_ | with_reducible refine Keeps.setCell ?_ ?_ _)); (all_goals (first | (simp; done) | omega | (simp; omega)))) hb21; obtain ⟨bc21, bf21, bs21⟩ := bcell hb21; (try simp only [World.size_alloc, World.size_drew] at bc21 bf21 bs21); (try (have ov210 : W.heap.size < v21.heap.size := by omega)); (try (have ov211 : W.heap.size ≤ v21.heap.size := by omega)); (try (have ov212 : ¬ W.heap.size = v21.heap.size := by omega)); (try (have ov213 : ¬ v21.heap.size = W.heap.size := by omega)); (try (have ov214 : W.heap.size + 1 < v21.heap.size := by omega)); (try (have ov215 : W.heap.size + 1 ≤ v21.heap.size := by omega)); (try (have ov216 : ¬ W.heap.size + 1 = v21.heap.size := by omega)); (try (have ov217 : ¬ v21.heap.size = W.heap.size + 1 := by omega)); (try (have ov218 : v20.heap.size < v21.heap.size := by omega)); (try (have ov219 : v20.heap.size ≤ v21.heap.size := by omega)); (try (have ov2110 : ¬ v20.heap.size = v21.heap.size := by omega)); (try (have ov2111 : ¬ v21.heap.size = v20.heap.size := by omega)); (try (have ov2112 : v20.heap.size + 1 < v21.heap.size := by omega)); (try (have ov2113 : v20.heap.size + 1 ≤ v21.heap.size := by omega)); (try (have ov2114 : ¬ v20.heap.size + 1 = v21.heap.size := by omega)); (try (have ov2115 : ¬ v21.heap.size = v20.heap.size + 1 := by omega))))
    all_goals
      go_wp2_with fail
      go_meet
      case rel =>
        refine ⟨_, _, s3, p3, c3, l3, rfl, rfl, ⟨?_, ?_, ?_, ?_, ?_⟩, (hide ?_ : Hid (IsNum _ _ _ _ _ _)), ?_⟩
        · first | (go_simp; done) | (go_simp; refine World.cell?_setCell_same' _ _ _ ?_; go_simp; done)
        · first | (go_simp; done) | (go_simp; refine World.cell?_setCell_same' _ _ _ ?_; go_simp; done)
        · first | (go_simp; done)
        · first | (go_simp; done)
        · first | (simp; done) | omega | (simp; omega)
        · have sz21 := hb21.size; (try simp only [World.size_alloc, World.size_drew] at sz21); (repeat (first | with_reducible exact N3 | with_reducible refine IsNum.set (t := 64) (m := 2) ?_ ?_ (by decide) _ | with_reducible refine IsNum.later ?_ ((Below.refl _ _).alloc (Nat.le_refl _) _) | with_reducible refine IsNum.later ?_ ((Below.refl _ _).drew))); (all_goals (repeat (first | (with_reducible refine shape_top2 _ _ _ _ _ ?_; (focus (first | (with_reducible rfl) | omega | (simp; done) | (simp; omega))); done) | rw [shape_drew] | rw [shape_set] | (with_reducible refine Eq.trans (shape_old _ _ ?_) ?_; (focus (first | (with_reducible rfl) | omega | (simp; done) | (simp; omega)))) | (with_reducible refine Eq.trans (shape_later hb21 ?_) ?_; (focus (first | (with_reducible rfl) | omega | (simp; done) | (simp; omega)))) | (with_reducible refine Eq.trans (shape_later hb20 ?_) ?_; (focus (first | (with_reducible rfl) | omega | (simp; done) | (simp; omega)))))))
        · (repeat (first | with_reducible assumption | with_reducible refine Keeps.alloc ?_ _ | with_reducible refine Keeps.drew ?_ | with_reducible refine Keeps.setCell ?_ ?_ _)); (all_goals (first | (simp; done) | omega | (simp; omega)))
  case rest =>
    obtain ⟨X, Y, s1, p1, e1, l1, rfl, rfl, bx, N1, KK⟩ := hcut
    have bl := BW.trans (KK.below.mono BW.size)
    clear KK BW c0 c1 zW k1 NW N0
    obtain ⟨x0, x1, x2, x3, x4⟩ := bx
    go_wp2_with fail
    refine (Q3.out _ _ _ _ _ N1.out).mono ?_
    rintro e w9 ⟨rfl, h9⟩
    have b9 := bl.trans (h9.mono bl.size)
    have y9 := b9.size
    clear h9 N1 bl x0 x1 x2 x3 x4
    go_wp2_with fail
    refine (k4 _).mono ?_
    rintro e w10 ⟨rfl, h10⟩
    have b10 : Below w.heap.size w w10 := Below.trans (by go_grown) (h10.mono (by simp; omega))
    clear h10 k4
    go_wp2_with fail
    go_returns
    exact ⟨rfl, b10⟩
/-- part: the n-th part, cut. -/
theorem part_spec (s : Bool) (p : Option Addr) (c : Nat) (l : List Int) (z n : Int) (w : World) (H : IsNum w s p c l z) (z0 : 0 ≤ z) (z1 : z < 22300745198530623141535718272648361505980416) (n0 : 1 ≤ n) (n1 : IsHi n) (q1 : IsHi (z / n)) :
    Calls Try.prog 45 #[.agg #[.bool s, .slice p l.length c], .int .i64 n] w fun e w' => e = .returned (.int .i64 (z / n)) ∧ Below w.heap.size w w' := by
  have L := H.few 9 (few9 z0 z1)
  refine part_walk s p c l z n (z / n) (z % n) (hi (z / n)) (lo (z / n)) w H (rint_spec n n1) ?_ ?_ (rsmall9 _ q1)
  · intro s' p' c' l' w' Hz Hn
    have L2 := Hn.few 9 (few_fits (fits_small n1))
    have k := quoN_spec s s' p p' c c' l l' z n w' Hz Hn (by omega) (by omega) (by omega)
    rw [Int.tdiv_eq_ediv_of_nonneg z0, Int.tmod_eq_emod_of_nonneg z0] at k
    exact k
  · intro s' p' c' l' w' Hq
    exact to_small s' p' c' l' _ w' Hq (fits_small q1)
end Go.Proofs.Ytebiddmadmmfpaa
