/- The reference of layer 1: mulL. -/
import Derived.Test.YthcgkpmlfbjagaaLnum
import Derived.Deep.OwnRows
namespace Go.Proofs.Ythcgkpmlfbjagaa
set_option linter.unusedVariables false
open Go.RowKit W Lb
theorem u64_low (x : Int) (a : 0 ≤ x) (b : x < 18446744073709551616) : bits .and .u64 x 65535 = x % 65536 := by
  rw [u64_and x 65535 a b (by omega) (by omega)]
  obtain ⟨m, rfl⟩ := Int.eq_ofNat_of_zero_le a
  have : ((m : Int).toNat &&& (65535 : Int).toNat) = m % 65536 := by
    show m &&& 65535 = m % 65536
    exact Nat.and_two_pow_sub_one_eq_mod m 16
  rw [this]; omega
/-- A row of n limbs of the call's own in block g. -/
structure Row (w wr : World) (g n : Nat) (o : List Int) : Prop where
  own : wr.ownsRow w.heap.size 88 1 (.slice (some ⟨g, 0, none⟩) n n) n (o.map (Value.int .u32))
  ok : Ok o
  len : o.length = n
  ge : w.heap.size ≤ g
  below : Below w.heap.size w wr
theorem Row.at_ {w wr : World} {g n : Nat} {o : List Int} (h : Row w wr g n o) (k : Nat) (hk : k < n) : wr.cell? ⟨g, k, none⟩ = some (.int .u32 (o.getD k 0)) ∧ wr.frozen? ⟨g, k, none⟩ = false := by
  have hl := h.len
  refine ⟨?_, h.own.frozenAt k⟩
  rw [h.own.cellAt k (by omega)]
  simp [List.getElem?_eq_getElem (show k < o.length by omega), List.getD_eq_getElem?_getD]
theorem Row.set {w wr : World} {g n : Nat} {o : List Int} (h : Row w wr g n o) (k : Nat) (x : Int) (a : 0 ≤ x) (b : x < 65536) (q : Nat) : Row w ((wr.drewN q).setCell ⟨g, k, none⟩ (.int .u32 x)) g n (o.set k x) := by
  have h0 : (wr.drewN q).ownsRow w.heap.size 88 1 (.slice (some ⟨g, 0, none⟩) n n) n (o.map (Value.int .u32)) := h.own
  have s := h0.stored k (.int .u32 x)
  refine ⟨?_, ok_set h.ok k a b, by simpa using h.len, h.ge, (below_drewN h.below q).setCell h.ge _⟩
  rw [List.map_set]; exact s.1
theorem Row.lt {w wr : World} {g n : Nat} {o : List Int} (h : Row w wr g n o) : g < wr.heap.size := (h.own.lt g rfl).2
theorem Row.limbs {w wr : World} {g n : Nat} {o : List Int} (h : Row w wr g n o) : Limbs wr (.slice (some ⟨g, 0, none⟩) n n) o := (Limbs.of_own h.own).1
theorem Row.made (w : World) (n : Nat) (hm : n ≤ maxLen) : Row w (w.alloc (.cells (madeCells #[.int .u32 0] n) 88)) w.heap.size n (List.replicate n 0) := by
  have := World.ownsRow_lit (size := 1) (e := 88) w (madeCells #[.int .u32 0] n) n (Nat.le_refl _) hm (by rw [size_madeCells]; omega)
  rw [toList_madeCells_one] at this
  refine ⟨by rw [List.map_replicate]; exact this, ?_, by simp, Nat.le_refl _, (Below.refl _ _).alloc (Nat.le_refl _) _⟩
  intro x hx; have := List.eq_of_mem_replicate hx; subst this; exact ⟨by omega, by omega⟩
theorem val_rep (n : Nat) : val (List.replicate n 0) = 0 := by have := val_zero [] n; simpa [val] using this
/-- What mulL's rows say. -/
structure MulAt (w wr : World) (la lb : List Int) (n k j : Nat) (c : Int) (o : List Int) : Prop where
  row : Row w wr w.heap.size n o
  c0 : 0 ≤ c
  c1 : c < 65536
  jj : j ≤ lb.length ∨ j = lb.length + 1 ∧ c = 0
  eq : val o + pw (k + j) * c = val (la.take k) * val lb + pw k * (la.getD k 0 * val (lb.take j))
  zero : ∀ t, k + max j lb.length ≤ t → o.getD t 0 = 0
theorem getD_set (o : List Int) (i t : Nat) (x : Int) (h : i ≠ t) : (o.set i x).getD t 0 = o.getD t 0 := by simp [List.getD_eq_getElem?_getD, List.getElem?_set, h]
theorem MulAt.step {w wr : World} {la lb : List Int} {n k j : Nat} {c x y m t d : Int} {o : List Int} (h : MulAt w wr la lb n k j c o) (q : Nat) (hn : n = la.length + lb.length) (hk : k < la.length) (oa : Ok la) (ob : Ok lb)
    (g : j < lb.length ∨ 0 < c) (hx : x = la.getD k 0) (hy : y = lb.getD j 0) (hm : m = x * y) (ht : t = (o.getD (k + j) 0 + m + c) % 65536) (hd : d = (o.getD (k + j) 0 + m + c) / 65536) (mb : 0 ≤ m ∧ m ≤ 4294836225) :
    MulAt w ((wr.drewN q).setCell ⟨w.heap.size, k + j, none⟩ (.int .u32 t)) la lb n k (j + 1) d (o.set (k + j) t) := by
  have ol := h.row.len
  have jj := h.jj
  have hj : j ≤ lb.length := by omega
  obtain ⟨z0, z1⟩ := ok_at h.row.ok (k + j)
  have c0 := h.c0
  have c1 := h.c1
  refine ⟨h.row.set (k + j) t (by omega) (by omega) q, by omega, by omega, ?_, ?_, ?_⟩
  · by_cases e : j < lb.length
    · exact .inl (by omega)
    · have y0 : y = 0 := by rw [hy]; exact at_out (by omega)
      have o0 := h.zero (k + j) (by omega)
      have m0 : m = 0 := by rw [hm, y0]; simp
      exact .inr ⟨by omega, by rw [hd, o0, m0]; omega⟩
  · rw [ht, hd, ← hx]
    exact mul_step (a := la) (b := lb) (by omega) hy (by rw [hm]) (by rw [hx]; exact h.eq)
  · intro i hi
    rw [getD_set _ _ _ _ (by omega)]
    exact h.zero i (by omega)
theorem MulAt.next {w wr : World} {la lb : List Int} {n k j : Nat} {o : List Int} (h : MulAt w wr la lb n k j 0 o) (hj : lb.length ≤ j) : MulAt w wr la lb n (k + 1) 0 0 o := by
  have e := h.eq
  have jj := h.jj
  rw [List.take_of_length_le hj] at e
  refine ⟨h.row, by omega, by omega, .inl (by omega), ?_, fun t ht => h.zero t (by omega)⟩
  rw [val_take]; simp only [List.take_zero, val]
  generalize la.getD (k + 1) 0 = u at *
  generalize la.getD k 0 = v at *
  grind
theorem MulAt.done {w wr : World} {la lb : List Int} {n k : Nat} {o : List Int} (h : MulAt w wr la lb n k 0 0 o) (hk : la.length ≤ k) : val o = val la * val lb := by
  have e := h.eq
  rw [List.take_of_length_le hk] at e
  simp only [List.take_zero, val] at e
  simpa using e
set_option maxRecDepth 100000 in
set_option maxHeartbeats 8000000 in
theorem mulL_some (b o cap : Nat) (q : Option Addr) (cb n : Nat) (la lb : List Int) (w : World) (hn : n = la.length + lb.length) (na : la.length ≤ 1000) (nb : lb.length ≤ 1000) (oa : Ok la) (ob : Ok lb) (hb : b < w.heap.size)
    (ha : ∀ k, k < la.length → w.cell? ⟨b, o + k, none⟩ = some (.int .u32 (la.getD k 0))) (Hb : Limbs w (.slice q lb.length cb) lb) :
    Calls Try.prog 70 #[.slice (some ⟨b, o, none⟩) la.length cap, .slice q lb.length cb] w (MagPost w (val la * val lb)) := by
  have HA := hide ha
  have HB := hide Hb
  have OA := hide oa
  have OB := hide ob
  have HN := hide hn
  have en : (la.length : Int) + lb.length = n := by omega
  have n2 : n ≤ 2000 := by omega
  have hmk := run_make_row' (P := Try.prog) 55 88 (.int .u32 0) 4 Try.underlying55 info_u32 rfl .i64 .i64 n (by omega) (by omega)
  have MD := hide (Row.made w n (by unfold maxLen; omega))
  clear ha Hb oa ob hn
  go_enter Try.func70, Try.ntmps70
  go_wp2
  clear hmk
  go_loopw [6] (fun i wr => ∃ (k : Nat) (o' : List Int), k ≤ la.length ∧ i = .int .i64 k ∧ MulAt w wr la lb n k 0 0 o') (fun i _ => la.length - (intOf i).toNat)
  case atStart => exact ⟨0, List.replicate n 0, by omega, rfl, MD.out, by omega, by omega, .inl (by omega), by rw [val_rep]; simp [val], fun t _ => by simp [List.getD_eq_getElem?_getD, List.getElem?_replicate]; split <;> rfl⟩
  case round =>
    obtain ⟨k, o', hk, rfl, at0⟩ := hrel
    have AT0 := hide at0
    clear at0
    by_cases hg : k < la.length
    · have X := ok_at OA.out k
      obtain ⟨x, hx⟩ : ∃ x, x = la.getD k 0 := ⟨_, rfl⟩
      have HX := hide hx
      rw [← hx] at X
      obtain ⟨x0, x1⟩ := X
      clear hx
      obtain ⟨wo, hwo⟩ : ∃ wo : World, wo = wr := ⟨_, rfl⟩
      have BO : Hid (Below wo.heap.size wo wr) := by rw [hwo]; exact Below.refl _ _
      clear hwo
      go_wp2
      go_loopw [7, 8, 9] (fun c j s wi => ∃ (i : Nat) (cc : Int) (o2 : List Int), c = .int .u64 cc ∧ j = .int .i64 i ∧ MulAt w wi la lb n k i cc o2) (fun _ j _ _ => lb.length + 1 - (intOf j).toNat)
      case atStart => exact ⟨0, 0, o', rfl, rfl, AT0.out⟩
      case round =>
        clear AT0 BO
        obtain ⟨i, cc, o2, rfl, rfl, at1⟩ := hrel
        have c0 := at1.c0
        have c1 := at1.c1
        have jj := at1.jj
        have AT := hide at1
        clear at1
        by_cases hi : i < lb.length ∨ 0 < cc
        · have ij : i ≤ lb.length := by omega
          have kn : k + i < n := by have := HN.out; omega
          obtain ⟨e1, e2⟩ := AT.out.row.at_ (k + i) kn
          have e3 : wr.cell? ⟨b, o + k, none⟩ = some (.int .u32 x) := (AT.out.row.below.cell (p := ⟨b, o + k, none⟩) hb).trans (by rw [HX.out]; exact HA.out k hg)
          have lt := AT.out.row.lt
          obtain ⟨z0, z1⟩ := ok_at AT.out.row.ok (k + i)
          obtain ⟨y0, y1⟩ := ok_at OB.out i
          have kl : ∀ m, Same 76 #[.slice q lb.length cb, .int .i64 i] (wr.drewN m) (.int .u32 (lb.getD i 0)) := fun m => limb_spec _ lb i _ (HB.out.later (below_drewN AT.out.row.below m)) (by omega) (by omega)
          obtain ⟨y, hy⟩ : ∃ y, y = lb.getD i 0 := ⟨_, rfl⟩
          obtain ⟨z, hz⟩ : ∃ z, z = o2.getD (k + i) 0 := ⟨_, rfl⟩
          rw [← hy] at kl y0 y1
          rw [← hz] at e1 z0 z1
          obtain ⟨m, hm⟩ : ∃ m, m = x * y := ⟨_, rfl⟩
          have m0 : 0 ≤ m := by rw [hm]; exact Int.mul_nonneg x0 y0
          have m1 : m ≤ 4294836225 := by
            rw [hm]
            have a1 : x * y ≤ x * 65535 := Int.mul_le_mul_of_nonneg_left (by omega) x0
            omega
          obtain ⟨t, ht⟩ : ∃ t, t = (z + m + cc) % 65536 := ⟨_, rfl⟩
          obtain ⟨d, hd⟩ : ∃ d, d = (z + m + cc) / 65536 := ⟨_, rfl⟩
          have em1 : x * y = m := hm.symm
          have em2 : IntKind.u64.wrap (x * y) = m := by rw [em1, IntKind.wrap_u64]; omega
          have ea : bits .and .u64 (z + m + cc) 65535 = t := by rw [u64_low _ (by omega) (by omega), ht]
          have ed : (z + m + cc) / 65536 = d := hd.symm
          have t0 : 0 ≤ t := by omega
          have t1 : t < 65536 := by omega
          have ew : t % 4294967296 = t := by omega
          have ST : Hid (∀ r, MulAt w ((wr.drewN r).setCell ⟨w.heap.size, k + i, none⟩ (.int .u32 t)) la lb n k (i + 1) d (o2.set (k + i) t)) := fun r => AT.out.step r HN.out hg OA.out OB.out hi HX.out hy hm (by rw [← hz]; exact ht) (by rw [← hz]; exact hd) ⟨m0, m1⟩
          have hi2 : i < lb.length ∨ (¬ i < lb.length ∧ 0 < cc) := by omega
          clear hy hz hm ht hd hi
          rcases hi2 with h1 | ⟨h1, h2⟩
          · go_wp2
            go_quiet ((go_at_call 76; exact still (kl _)))
            clear kl
            go_wp2
            go_roundw
            case rel => exact ⟨i + 1, d, _, rfl, by go_num, ST.out _⟩
            case measure => simp [intOf]; omega
          · go_wp2
            go_quiet ((go_at_call 76; exact still (kl _)))
            clear kl
            go_wp2
            go_roundw
            case rel => exact ⟨i + 1, d, _, rfl, by go_num, ST.out _⟩
            case measure => simp [intOf]; omega
        · obtain rfl : cc = 0 := by omega
          have h1 : ¬ i < lb.length := by omega
          have NX := hide (AT.out.next (by omega))
          clear AT hi
          go_wp2
          go_roundw
          case rel => exact ⟨k + 1, o2, by omega, by go_num, NX.out⟩
          case measure => simp [intOf]; omega
    · have e := AT0.out.done (by omega)
      have L := AT0.out.row.limbs
      have hl := AT0.out.row.len
      have T0 := trim_at (some ⟨w.heap.size, 0, none⟩) n o' wr (by rw [hl]; exact L) (by omega)
      rw [hl] at T0
      have FIN : Hid (MagPost w (val la * val lb) (.returned (.slice (some ⟨w.heap.size, 0, none⟩) (top o' n) n)) wr) := by
        have M := Mag.of_top AT0.out.row.ok
        rw [e, hl] at M
        exact ⟨_, _, rfl, L.take _ (top_le _ _), M, AT0.out.row.below, fun a n c e => by simp only [Value.slice.injEq, Option.some.injEq] at e; obtain ⟨rfl, _⟩ := e; exact Nat.le_refl _⟩
      clear AT0 L hl e
      go_wp2_with fail
      refine T0.mono ?_
      rintro e w' ⟨rfl, rfl⟩
      go_wp2_with fail
      go_returns
      exact FIN.out
set_option maxHeartbeats 2000000 in
theorem mulL_none (p q : Option Addr) (cap cb n : Nat) (w : World) (nb : n ≤ 1000) :
    Calls Try.prog 70 #[.slice p 0 cap, .slice q n cb] w (MagPost w 0) := by
  have hmk := run_make_row' (P := Try.prog) 55 88 (.int .u32 0) 4 Try.underlying55 info_u32 rfl .i64 .i64 n (by omega) (by omega)
  have MD := hide (Row.made w n (by unfold maxLen; omega))
  go_enter Try.func70, Try.ntmps70
  go_wp2
  clear hmk
  refine wp_loop_rounds 1 ?_
  rw [rounds_succ]
  have L := MD.out.limbs
  have hl := MD.out.len
  have T0 := trim_at (some ⟨w.heap.size, 0, none⟩) n (List.replicate n 0) (w.alloc (.cells (madeCells #[.int .u32 0] n) 88)) (by rw [hl]; exact L) (by omega)
  rw [hl] at T0
  have FIN : Hid (MagPost w 0 (.returned (.slice (some ⟨w.heap.size, 0, none⟩) (top (List.replicate n 0) n) n)) (w.alloc (.cells (madeCells #[.int .u32 0] n) 88))) := by
    have M := Mag.of_top MD.out.ok
    rw [val_rep, hl] at M
    exact ⟨_, _, rfl, L.take _ (top_le _ _), M, MD.out.below, fun a n c e => by simp only [Value.slice.injEq, Option.some.injEq] at e; obtain ⟨rfl, _⟩ := e; exact Nat.le_refl _⟩
  clear MD L hl
  go_wp2_with fail
  refine T0.mono ?_
  rintro e w' ⟨rfl, rfl⟩
  go_wp2_with fail
  go_returns
  exact FIN.out
theorem mulL_spec (p q : Option Addr) (ca cb : Nat) (la lb : List Int) (w : World) (Ha : Limbs w (.slice p la.length ca) la) (Hb : Limbs w (.slice q lb.length cb) lb) (oa : Ok la) (ob : Ok lb) (na : la.length ≤ 1000) (nb : lb.length ≤ 1000) :
    Calls Try.prog 70 #[.slice p la.length ca, .slice q lb.length cb] w (MagPost w (val la * val lb)) := by
  rcases Ha with ⟨x, c, rfl, e⟩ | ⟨b, o, c, e, hc, hb, hs, hh⟩
  · simp only [Value.slice.injEq] at e
    obtain ⟨rfl, _, rfl⟩ := e
    have : val [] * val lb = 0 := by simp [val]
    rw [this]; exact mulL_none p q ca cb _ w nb
  · simp only [Value.slice.injEq] at e
    obtain ⟨rfl, _, rfl⟩ := e
    exact mulL_some b o ca q cb _ la lb w rfl na nb oa ob hb hh Hb
end Go.Proofs.Ythcgkpmlfbjagaa
