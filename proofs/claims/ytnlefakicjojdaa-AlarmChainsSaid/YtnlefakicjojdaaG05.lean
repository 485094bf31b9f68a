/- Texts that belong together: Lnum Lfrom Lword Laddn Lto Wlimbs Wmul Wsig Wabs. -/
import Derived.Test.YtnlefakicjojdaaG04
import Derived.Test.YtnlefakicjojdaaG01
import Derived.Laws.MathBits
set_option linter.unusedSimpArgs false
set_option linter.unusedVariables false
/- The reference of layer 1: numbers with a sign: make2, NegN, CmpN, AddN. -/
namespace Go.Proofs.Ytnlefakicjojdaa
set_option linter.unusedVariables false
open Go.RowKit W Lb
/-- The number z as its sign s and its limbs l, which the slice reads as. -/
structure IsNum (w : World) (s : Bool) (p : Option Addr) (c : Nat) (l : List Int) (z : Int) : Prop where
  neg : s = decide (z < 0)
  lim : Limbs w (.slice p l.length c) l
  mag : Mag l (Lb.ab z)
theorem IsNum.later {w w' : World} {s : Bool} {p : Option Addr} {c : Nat} {l : List Int} {z : Int} (h : IsNum w s p c l z) (k : Below w.heap.size w w') : IsNum w' s p c l z := ⟨h.neg, h.lim.later k, h.mag⟩
def NumPost (w : World) (z : Int) (e : Ending) (w' : World) : Prop := ∃ s p c l, e = .returned (.agg #[.bool s, .slice p l.length c]) ∧ IsNum w' s p c l z ∧ Below w.heap.size w w'
/-- The sign and the amount that make2 gives. -/
def mkZ (n : Bool) (m : Int) : Int := if n then -m else m
set_option maxHeartbeats 1000000 in
theorem make2_spec (n : Bool) (p : Option Addr) (c : Nat) (l : List Int) (w : World) (H : Limbs w (.slice p l.length c) l) (o : Ok l) (hl : l.length ≤ 1000) :
    Calls Try.prog 50 #[.bool n, .slice p l.length c] w (NumPost w (mkZ n (val l))) := by
  have hn := Mag.of_top o
  have tl := top_le l l.length
  have fin : ∀ (s : Bool) (w' : World), s = decide (mkZ n (val l) < 0) → Below w.heap.size w w' → NumPost w (mkZ n (val l)) (.returned (.agg #[.bool s, .slice p (top l l.length) c])) w' := by
    intro s w' hs hb
    have e : (l.take (top l l.length)).length = top l l.length := List.length_take_of_le tl
    have hm := hn
    refine ⟨s, p, c, l.take (top l l.length), by rw [e], ⟨hs, by rw [e]; exact (H.take _ tl).later hb, ?_⟩, hb⟩
    have : Lb.ab (mkZ n (val l)) = val l := by have := val_nonneg o; unfold mkZ Lb.ab; split <;> split <;> omega
    rw [this]; exact hm
  have neg : decide (mkZ n (val l) < 0) = (n && decide (0 < top l l.length)) := by
    have e : (l.take (top l l.length)).length = top l l.length := List.length_take_of_le tl
    have h0 := val_nonneg o
    have hi := hn.nil_iff
    have : (0 < top l l.length) ↔ 0 < val l := by
      constructor
      · intro h; have : ¬ l.take (top l l.length) = [] := fun q => by rw [q] at e; simp at e; omega
        have := mt hi.2 this; omega
      · intro h; apply Decidable.byContradiction; intro q
        have : l.take (top l l.length) = [] := List.eq_nil_of_length_eq_zero (by omega)
        have := hi.1 this; omega
    cases n
    · simp [mkZ]; omega
    · simp [mkZ, this]
  have HH := hide H
  have T1 : top l l.length ≤ 1000 := by omega
  have FIN := hide fin
  have NEG := hide neg
  clear H hn fin neg tl o
  have TR := fun w H => trim_at p c l w H (by omega)
  generalize top l l.length = t at *
  cases n
  · go_enter Try.func50, Try.ntmps50
    go_wp2_with fail
    refine (TR _ ?hT).mono ?_
    case hT => exact HH.out.later (by go_grown)
    rintro e w' ⟨rfl, rfl⟩
    clear TR
    go_wp2_with fail
    refine bodyPost_ret (by simp [results, Try.results50, go_sem]; try rfl) rfl ?_
    exact FIN.out _ _ NEG.out.symm (by go_grown)
  · by_cases ht : 0 < t
    · have d : decide (0 < t) = true := decide_eq_true ht
      have NEG2 := hide NEG.out
      go_enter Try.func50, Try.ntmps50
      go_wp2_with fail
      refine (TR _ ?hT).mono ?_
      case hT => exact HH.out.later (by go_grown)
      rintro e w' ⟨rfl, rfl⟩
      clear TR
      go_wp2_with fail
      refine bodyPost_ret (by simp [results, Try.results50, go_sem]; try rfl) rfl ?_
      exact FIN.out _ _ (by rw [NEG2.out, d]; rfl) (by go_grown)
    · have d : decide (0 < t) = false := decide_eq_false ht
      have NEG2 := hide NEG.out
      go_enter Try.func50, Try.ntmps50
      go_wp2_with fail
      refine (TR _ ?hT).mono ?_
      case hT => exact HH.out.later (by go_grown)
      rintro e w' ⟨rfl, rfl⟩
      clear TR
      go_wp2_with fail
      refine bodyPost_ret (by simp [results, Try.results50, go_sem]; try rfl) rfl ?_
      exact FIN.out _ _ (by rw [NEG2.out, d]; rfl) (by go_grown)
theorem IsNum.set {w : World} {s : Bool} {p : Option Addr} {c : Nat} {l : List Int} {z : Int} (h : IsNum w s p c l z) {r i : Nat} {t : TypeId} {m : Nat} (hr : w.shape? r = some (t, m)) (ht : t ≠ 101) (x : Value) : IsNum (w.setCell ⟨r, i, none⟩ x) s p c l z := ⟨h.neg, h.lim.set hr ht x, h.mag⟩
theorem num_end {w w1 : World} {s : Bool} {p : Option Addr} {c : Nat} {l : List Int} {z : Int} (N : IsNum w1 s p c l z) (hb : Below w.heap.size w w1) {r : Nat} {m : Nat} (hr : w1.shape? r = some (90, m)) (hg : w.heap.size ≤ r) (x y : Value) :
    NumPost w z (.returned (.agg #[.bool s, .slice p l.length c])) ((w1.setCell ⟨r, 0, none⟩ x).setCell ⟨r, 1, none⟩ y) :=
  ⟨s, p, c, l, rfl, (N.set hr (by decide) x).set (by rw [shape_set]; exact hr) (by decide) y, (hb.setCell hg x).setCell hg y⟩
theorem mkZ_not (z : Int) (s : Bool) (h : s = decide (z < 0)) : mkZ (!s) (Lb.ab z) = -z := by
  subst h; unfold mkZ Lb.ab; by_cases q : z < 0 <;> simp [q]
theorem mkZ_same (z : Int) (s : Bool) (h : s = decide (z < 0)) : mkZ s (Lb.ab z) = z := by
  subst h; unfold mkZ Lb.ab; by_cases q : z < 0 <;> simp [q]
set_option maxHeartbeats 1000000 in
theorem negN_spec (s : Bool) (p : Option Addr) (c : Nat) (l : List Int) (z : Int) (w : World) (H : IsNum w s p c l z) (hl : l.length ≤ 1000) :
    Calls Try.prog 38 #[.agg #[.bool s, .slice p l.length c]] w (NumPost w (-z)) := by
  have KM := fun (w : World) (H1 : Limbs w (.slice p l.length c) l) => make2_spec (!s) p c l w H1 H.mag.ok hl
  rw [H.mag.val, mkZ_not z s H.neg] at KM
  have HH := hide H
  clear H
  go_enter Try.func38, Try.ntmps38
  go_wp2_with fail
  refine (KM _ ?hT).mono ?_
  case hT => exact HH.out.lim.later (by go_grown)
  rintro e w1 ⟨s', p', c', l', rfl, N', hb⟩
  obtain ⟨bc, bf, bs⟩ := bcell hb
  simp only [World.size_alloc] at bc bf bs
  have z1 : w.heap.size + 1 < w1.heap.size := by omega
  clear KM
  have B : Below w.heap.size w w1 := Below.trans (by go_grown) (hb.mono (by first | (simp; done) | omega | (simp; omega)))
  have hr : w1.shape? (w.heap.size + 1) = some (90, 2) := (shape_later hb (by simp)).trans (shape_top _ _ _ _ (by simp))
  have F := hide (num_end N' B hr (by omega))
  clear N' B hr hb
  go_wp2_with fail
  refine bodyPost_ret (by simp [results, Try.results38, go_sem, bc, bf, z1]; try rfl) rfl ?_
  exact F.out _ _
set_option maxHeartbeats 1000000 in
theorem cmpN_tf (s s' : Bool) (pa pb : Option Addr) (ca cb : Nat) (la lb : List Int) (d : Int) (w : World) (hs : s = true) (hs' : s' = false) (hd : True)
    (KC : ∀ w', Below w.heap.size w w' → Calls Try.prog 51 #[.slice pa la.length ca, .slice pb lb.length cb] w' fun e w'' => e = .returned (.int .i64 d) ∧ Below w'.heap.size w' w'') :
    Calls Try.prog 36 #[.agg #[.bool s, .slice pa la.length ca], .agg #[.bool s', .slice pb lb.length cb]] w fun e w' => e = .returned (.int .i64 (-1)) ∧ Below w.heap.size w w' := by
  subst hs hs'
  have HD := hide hd
  clear hd
  go_enter Try.func36, Try.ntmps36
  go_wp2_with fail
  go_returns
  exact ⟨rfl, by go_grown⟩
set_option maxHeartbeats 1000000 in
theorem cmpN_ft (s s' : Bool) (pa pb : Option Addr) (ca cb : Nat) (la lb : List Int) (d : Int) (w : World) (hs : s = false) (hs' : s' = true) (hd : True)
    (KC : ∀ w', Below w.heap.size w w' → Calls Try.prog 51 #[.slice pa la.length ca, .slice pb lb.length cb] w' fun e w'' => e = .returned (.int .i64 d) ∧ Below w'.heap.size w' w'') :
    Calls Try.prog 36 #[.agg #[.bool s, .slice pa la.length ca], .agg #[.bool s', .slice pb lb.length cb]] w fun e w' => e = .returned (.int .i64 (1)) ∧ Below w.heap.size w w' := by
  subst hs hs'
  have HD := hide hd
  clear hd
  go_enter Try.func36, Try.ntmps36
  go_wp2_with fail
  go_returns
  exact ⟨rfl, by go_grown⟩
set_option maxHeartbeats 1000000 in
theorem cmpN_ff (s s' : Bool) (pa pb : Option Addr) (ca cb : Nat) (la lb : List Int) (d : Int) (w : World) (hs : s = false) (hs' : s' = false) (hd : True)
    (KC : ∀ w', Below w.heap.size w w' → Calls Try.prog 51 #[.slice pa la.length ca, .slice pb lb.length cb] w' fun e w'' => e = .returned (.int .i64 d) ∧ Below w'.heap.size w' w'') :
    Calls Try.prog 36 #[.agg #[.bool s, .slice pa la.length ca], .agg #[.bool s', .slice pb lb.length cb]] w fun e w' => e = .returned (.int .i64 (d)) ∧ Below w.heap.size w w' := by
  subst hs hs'
  have HD := hide hd
  clear hd
  go_enter Try.func36, Try.ntmps36
  go_wp2_with fail
  refine (KC _ (by go_grown)).mono ?_
  rintro e w1 ⟨rfl, hb⟩
  obtain ⟨bc, bf, bs⟩ := bcell hb
  simp only [World.size_alloc] at bc bf bs
  have B : Below w.heap.size w w1 := Below.trans (by go_grown) (hb.mono (by first | (simp; done) | omega | (simp; omega)))
  go_wp2_with fail
  go_returns
  exact ⟨rfl, B⟩
set_option maxHeartbeats 1000000 in
theorem cmpN_tt (s s' : Bool) (pa pb : Option Addr) (ca cb : Nat) (la lb : List Int) (d : Int) (w : World) (hs : s = true) (hs' : s' = true) (hd : -1 ≤ d ∧ d ≤ 1)
    (KC : ∀ w', Below w.heap.size w w' → Calls Try.prog 51 #[.slice pa la.length ca, .slice pb lb.length cb] w' fun e w'' => e = .returned (.int .i64 d) ∧ Below w'.heap.size w' w'') :
    Calls Try.prog 36 #[.agg #[.bool s, .slice pa la.length ca], .agg #[.bool s', .slice pb lb.length cb]] w fun e w' => e = .returned (.int .i64 (-d)) ∧ Below w.heap.size w w' := by
  subst hs hs'
  have HD := hide hd
  clear hd
  go_enter Try.func36, Try.ntmps36
  go_wp2_with fail
  refine (KC _ (by go_grown)).mono ?_
  rintro e w1 ⟨rfl, hb⟩
  obtain ⟨bc, bf, bs⟩ := bcell hb
  simp only [World.size_alloc] at bc bf bs
  have B : Below w.heap.size w w1 := Below.trans (by go_grown) (hb.mono (by first | (simp; done) | omega | (simp; omega)))
  obtain ⟨d0, d1⟩ := HD.out
  clear HD
  go_wp2_with fail
  go_returns
  exact ⟨rfl, B⟩
theorem cmp_ab_neg {x y : Int} (a : x < 0) (b : y < 0) : -(cmpI (Lb.ab x) (Lb.ab y)) = cmpI x y := by
  unfold cmpI Lb.ab; rw [if_pos a, if_pos b]; split <;> split <;> (try split) <;> omega
theorem cmp_ab_pos {x y : Int} (a : ¬ x < 0) (b : ¬ y < 0) : cmpI (Lb.ab x) (Lb.ab y) = cmpI x y := by
  unfold Lb.ab; rw [if_neg a, if_neg b]
theorem cmp_small (x y : Int) : -1 ≤ cmpI x y ∧ cmpI x y ≤ 1 := by unfold cmpI; split <;> (try split) <;> omega
theorem cmpN_spec (s s' : Bool) (pa pb : Option Addr) (ca cb : Nat) (la lb : List Int) (x y : Int) (w : World) (Ha : IsNum w s pa ca la x) (Hb : IsNum w s' pb cb lb y) (na : la.length ≤ 1000) (nb : lb.length ≤ 1000) :
    Calls Try.prog 36 #[.agg #[.bool s, .slice pa la.length ca], .agg #[.bool s', .slice pb lb.length cb]] w fun e w' => e = .returned (.int .i64 (cmpI x y)) ∧ Below w.heap.size w w' := by
  have KC := fun (w' : World) (h : Below w.heap.size w w') => cmpL_spec _ _ la lb w' (Ha.lim.later h) (Hb.lim.later h) Ha.mag.ok Hb.mag.ok na nb
  rw [Ha.mag.val, Hb.mag.val] at KC
  have sa := Ha.neg
  have sb := Hb.neg
  by_cases a : x < 0 <;> by_cases b : y < 0
  · rw [← cmp_ab_neg a b]; exact cmpN_tt s s' pa pb ca cb la lb _ w (by simp [sa, a]) (by simp [sb, b]) (cmp_small _ _) KC
  · rw [cmp_lt (by omega)]; exact cmpN_tf s s' pa pb ca cb la lb _ w (by simp [sa, a]) (by simp [sb, b]) trivial KC
  · rw [cmp_gt (by omega)]; exact cmpN_ft s s' pa pb ca cb la lb _ w (by simp [sa, a]) (by simp [sb, b]) trivial KC
  · rw [← cmp_ab_pos a b]; exact cmpN_ff s s' pa pb ca cb la lb _ w (by simp [sa, a]) (by simp [sb, b]) trivial KC
end Go.Proofs.Ytnlefakicjojdaa
/- The reference of layer 1: From. -/
namespace Go.Proofs.Ytnlefakicjojdaa
set_option linter.unusedVariables false
open Go.RowKit W Lb
theorem p2_pw' (k : Nat) : (2 : Int) ^ (16 * k) = pw k := by rw [← p2_pow, p2_pw]
theorem words_map (n : Nat) (x : Int) : (words (n + 1) x).map (Value.int .u32) = (words n x).map (Value.int .u32) ++ [.int .u32 (x / pw n % 65536)] := by rw [words_snoc]; simp
/-- The place of an answer of two cells that may be written. -/
structure RBox (w : World) (r : Nat) : Prop where
  r0 : w.cell? ⟨r, 0, none⟩ = some (.bool false)
  r1 : w.cell? ⟨r, 1, none⟩ = some (.slice none 0 0)
  g0 : w.frozen? ⟨r, 0, none⟩ = false
  g1 : w.frozen? ⟨r, 1, none⟩ = false
  sh : w.shape? r = some (90, 2)
  lt : r < w.heap.size
theorem RBox.later {w w' : World} {r B : Nat} (h : RBox w r) (k : Below B w w') (hb : r < B) : RBox w' r :=
  ⟨(k.cell (p := ⟨r, 0, none⟩) hb).trans h.r0, (k.cell (p := ⟨r, 1, none⟩) hb).trans h.r1, (k.frozen (p := ⟨r, 0, none⟩) hb).trans h.g0, (k.frozen (p := ⟨r, 1, none⟩) hb).trans h.g1, (shape_later k hb).trans h.sh, Nat.lt_of_lt_of_le h.lt k.size⟩
theorem append_words (x : Int) (i : IsLo x) (k : Nat) (hk : k < 4) : bits .and .u32 (x / 2 ^ (16 * k) % 4294967296) 65535 = x / pw k % 65536 := by
  rw [p2_pw', u32_low _ (by omega) (by omega)]; omega
/-- The limbs of a word behind others. -/
structure FromAt (W wr : World) (v : Value) (o : List Int) : Prop where
  own : wr.ownsRow W.heap.size 101 1 v o.length (o.map (Value.int .u32))
  below : Below W.heap.size W wr
set_option maxRecDepth 100000 in
set_option maxHeartbeats 4000000 in
theorem from_pos (a b h l z : Int) (jh : IsLo h) (jl : IsLo l) (hz : z = V a b) (hm : Lb.ab z = l + h * 18446744073709551616) (hn : (a < 0) = False) (ja : IsW (a, b)) (e1 : IntKind.u64.wrap a = h) (e2 : l = b) (w : World) :
    Calls Try.prog 35 #[.agg #[.int .i64 a, .int .u64 b]] w (NumPost w z) := by
  have IL0 := hide jl
  have IH := hide jh
  have IL := hide jl
  have hneg : decide (z < 0) = false := by
    obtain ⟨⟨_, _⟩, _, _⟩ := ja; unfold V at hz; simp only [eq_iff_iff, iff_true, iff_false] at hn; simp; omega
  have KM : ∀ (p : Option Addr) (c : Nat) (o : List Int) (w' : World), Limbs w' (.slice p o.length c) o → Ok o → o.length ≤ 1000 → val o = Lb.ab z → Calls Try.prog 50 #[.bool false, .slice p o.length c] w' (NumPost w' z) := by
    intro p c o w' H1 H2 H3 H4
    have := make2_spec false p c o w' H1 H2 H3
    rwa [H4, mkZ_same z _ hneg.symm] at this
  have HM := hide hm
  clear hm hz hneg
  subst e2
  have na : ¬ a < 0 := by simpa using hn
  go_enter Try.func35, Try.ntmps35
  go_wp2
  go_quiet (fail)
  go_wp2
  refine abs_wp (fun W => RBox W (w.heap.size + 1) ∧ Below w.heap.size w W) ?_ ?_
  · refine ⟨⟨?_, ?_, ?_, ?_, ?_, ?_⟩, ?_⟩
    all_goals first | (go_grown; done) | (exact shape_top _ _ _ _ (by simp)) | (simp [go_sem]; done) | (simp; done) | (simp; omega) | (exact below_drewN (by go_grown) _)
  rintro W ⟨RB0, BW⟩
  have RB := hide RB0
  have lt := RB0.lt
  clear RB0 ja jh jl hn
  go_loopw [3, 7] (fun v i wr => ∃ k : Nat, k ≤ 4 ∧ i = .int .i64 k ∧ FromAt W wr v (words k l)) (fun _ i _ => 4 - (intOf i).toNat)
  case atStart => exact ⟨0, by omega, rfl, ⟨World.ownsRow_nil _ _ _ _, Below.refl _ _⟩⟩
  case round =>
    obtain ⟨k, hk, rfl, AT0⟩ := hrel
    have AT := hide AT0
    clear AT0
    by_cases hg : k < 4
    · have e1 := append_words l IL.out k hg
      have sz := AT.out.below.size
      obtain ⟨t, ht⟩ : ∃ t, t = l / pw k % 65536 := ⟨_, rfl⟩
      rw [← ht] at e1
      have HT := hide ht
      clear ht
      have kb : 16 * (k : Int) < 64 := by omega
      obtain ⟨i0, hi0, hz0, hz1, hz2⟩ := info_parts info_u32
      have HI : Hid (Try.prog.info? 101 = some i0 ∧ i0.zero = some (.int .u32 0) ∧ i0.size = 1 ∧ i0.bytes = 4) := ⟨hi0, hz0, hz1, hz2⟩
      have le : (words k l).length ≤ 8 := by simp [words_len]; omega
      have km : (words k l).length + 1 ≤ maxLen := by unfold maxLen; omega
      have ex : 0 ≤ l := IL.out.a
      have ey : l < 18446744073709551616 := IL.out.b
      clear hi0 hz0 hz1 hz2
      go_wp2_with (at_builtin; go_loud (refine wpList_append_own _ rfl _ _ 88 rfl W.heap.size 101 i0 (.int .u32 0) 1 4 Try.underlying88 HI.out.1 HI.out.2.1 HI.out.2.2.1 HI.out.2.2.2 rfl (by decide) u3 _ ((words k l).map (Value.int .u32)) rfl (AT.out.own.alloc _) ⟨wr.heap.size, 0, none⟩ 1 1 [.int .u32 t] rfl rfl (cell_one_new _ _ _) one_u32 km (by omega) (by simp; omega) ?_); intro v' w1 hown' hgrow hnil)
      go_roundw
      case rel =>
        have L : words (k + 1) l = (words k l) ++ [t] := by rw [words_snoc k l, HT.out]; try rw [List.append_assoc]
        refine ⟨k + 1, by omega, by go_num, ⟨?_, (AT.out.below.alloc sz _).grown hgrow (by simp; omega) (fun j hj => (AT.out.own.lt j hj).1)⟩⟩
        rw [L, List.map_append, List.length_append]; exact hown'
      case measure => simp [intOf]; omega
    · obtain rfl : k = 4 := by omega
      have e4 : ((4 : Nat) : Int) = 4 := rfl
      rw [e4]
      clear e4
      go_wp2
      go_loopw [3, 8] (fun v i wr => ∃ k : Nat, k ≤ 4 ∧ i = .int .i64 k ∧ FromAt W wr v (words 4 l ++ words k h)) (fun _ i _ => 4 - (intOf i).toNat)
      case atStart => exact ⟨0, by omega, rfl, by simpa [words] using AT.out⟩
      case round =>
        obtain ⟨k, hk, rfl, AT0⟩ := hrel
        clear AT
        have AT := hide AT0
        clear AT0
        by_cases hg : k < 4
        · have e1 := append_words h IH.out k hg
          have sz := AT.out.below.size
          obtain ⟨t, ht⟩ : ∃ t, t = h / pw k % 65536 := ⟨_, rfl⟩
          rw [← ht] at e1
          have HT := hide ht
          clear ht
          have kb : 16 * (k : Int) < 64 := by omega
          obtain ⟨i0, hi0, hz0, hz1, hz2⟩ := info_parts info_u32
          have HI : Hid (Try.prog.info? 101 = some i0 ∧ i0.zero = some (.int .u32 0) ∧ i0.size = 1 ∧ i0.bytes = 4) := ⟨hi0, hz0, hz1, hz2⟩
          have le : (words 4 l ++ words k h).length ≤ 8 := by simp [words_len]; omega
          have km : (words 4 l ++ words k h).length + 1 ≤ maxLen := by unfold maxLen; omega
          have ex : 0 ≤ h := IH.out.a
          have ey : h < 18446744073709551616 := IH.out.b
          clear hi0 hz0 hz1 hz2
          go_wp2_with (at_builtin; go_loud (refine wpList_append_own _ rfl _ _ 88 rfl W.heap.size 101 i0 (.int .u32 0) 1 4 Try.underlying88 HI.out.1 HI.out.2.1 HI.out.2.2.1 HI.out.2.2.2 rfl (by decide) u3 _ ((words 4 l ++ words k h).map (Value.int .u32)) rfl (AT.out.own.alloc _) ⟨wr.heap.size, 0, none⟩ 1 1 [.int .u32 t] rfl rfl (cell_one_new _ _ _) one_u32 km (by omega) (by simp; omega) ?_); intro v' w1 hown' hgrow hnil)
          go_roundw
          case rel =>
            have L : words 4 l ++ words (k + 1) h = (words 4 l ++ words k h) ++ [t] := by rw [words_snoc k h, HT.out]; try rw [List.append_assoc]
            refine ⟨k + 1, by omega, by go_num, ⟨?_, (AT.out.below.alloc sz _).grown hgrow (by simp; omega) (fun j hj => (AT.out.own.lt j hj).1)⟩⟩
            rw [L, List.map_append, List.length_append]; exact hown'
          case measure => simp [intOf]; omega
        · obtain rfl : k = 4 := by omega
          have e4 : ((4 : Nat) : Int) = 4 := rfl
          rw [e4]
          clear e4
          have F := hide AT.out
          obtain ⟨LM, hn⟩ := Limbs.of_own F.out.own
          have LL : (words 4 l ++ words 4 h).length = 8 := by simp [words_len]
          obtain ⟨p, c, hv⟩ := LM.form
          have ho : Ok (words 4 l ++ words 4 h) := by
            intro x hx; rcases List.mem_append.1 hx with q | q
            · exact words_ok 4 l x q
            · exact words_ok 4 h x q
          have hvl : val (words 4 l ++ words 4 h) = Lb.ab z := by
            rw [val_append, words_val 4 l IL.out.a (by have := IL.out.b; simpa [pw] using this), words_val 4 h IH.out.a (by have := IH.out.b; simpa [pw] using this), words_len, HM.out]
            simp [pw]; omega
          have km := KM p c _ wr (by rw [← hv]; exact LM) ho (by omega) hvl
          rw [← hv] at km
          have KK := hide km
          have RR := hide (RB.out.later F.out.below (by omega))
          have BB := hide (BW.trans (F.out.below.mono BW.size))
          have lt2 := RR.out.lt
          clear LM hn LL hv ho hvl km KM AT F BW RB
          go_wp2_with fail
          refine KK.out.mono ?_
          rintro e w1 ⟨s', p', c', l', rfl, N', hb⟩
          have R2 := RR.out.later hb (by omega)
          have FF := hide (num_end N' (BB.out.trans (hb.mono BB.out.size)) R2.sh (by omega))
          obtain ⟨r0, r1, g0, g1, _, zz⟩ := R2
          clear N' hb KK
          go_wp2_with fail
          refine bodyPost_ret (by simp [results, Try.results35, go_sem, r0, r1, g0, g1, zz]; try rfl) rfl ?_
          exact FF.out _ _
set_option maxRecDepth 100000 in
set_option maxHeartbeats 4000000 in
theorem from_neg1 (a b h l z : Int) (jh : IsLo h) (jl : IsLo l) (hz : z = V a b) (hm : Lb.ab z = l + h * 18446744073709551616) (hn : (a < 0) = True) (ja : IsW (a, b)) (h0 p : Int) (e1 : IntKind.u64.wrap a = h0) (e3 : bits .xor .u64 IntKind.u64.max b = p) (e4 : IntKind.u64.wrap (p + 1) = l) (hl : (l == 0) = false) (e5 : bits .xor .u64 IntKind.u64.max h0 = h) (w : World) :
    Calls Try.prog 35 #[.agg #[.int .i64 a, .int .u64 b]] w (NumPost w z) := by
  have IL0 := hide jl
  have IH := hide jh
  have IL := hide jl
  have hneg : decide (z < 0) = true := by
    obtain ⟨⟨_, _⟩, _, _⟩ := ja; unfold V at hz; simp only [eq_iff_iff, iff_true, iff_false] at hn; simp; omega
  have KM : ∀ (p : Option Addr) (c : Nat) (o : List Int) (w' : World), Limbs w' (.slice p o.length c) o → Ok o → o.length ≤ 1000 → val o = Lb.ab z → Calls Try.prog 50 #[.bool true, .slice p o.length c] w' (NumPost w' z) := by
    intro p c o w' H1 H2 H3 H4
    have := make2_spec true p c o w' H1 H2 H3
    rwa [H4, mkZ_same z _ hneg.symm] at this
  have HM := hide hm
  clear hm hz hneg
  have na : a < 0 := by simpa using hn
  have e3' : bits .xor .u64 (if IntKind.u64.signed = true then -1 else IntKind.u64.max) b = p := e3
  have e5' : bits .xor .u64 (if IntKind.u64.signed = true then -1 else IntKind.u64.max) h0 = h := e5
  go_enter Try.func35, Try.ntmps35
  go_wp2
  go_quiet (fail)
  go_wp2
  refine abs_wp (fun W => RBox W (w.heap.size + 1) ∧ Below w.heap.size w W) ?_ ?_
  · refine ⟨⟨?_, ?_, ?_, ?_, ?_, ?_⟩, ?_⟩
    all_goals first | (go_grown; done) | (exact shape_top _ _ _ _ (by simp)) | (simp [go_sem]; done) | (simp; done) | (simp; omega) | (exact below_drewN (by go_grown) _)
  rintro W ⟨RB0, BW⟩
  have RB := hide RB0
  have lt := RB0.lt
  clear RB0 ja jh jl hn
  go_loopw [3, 7] (fun v i wr => ∃ k : Nat, k ≤ 4 ∧ i = .int .i64 k ∧ FromAt W wr v (words k l)) (fun _ i _ => 4 - (intOf i).toNat)
  case atStart => exact ⟨0, by omega, rfl, ⟨World.ownsRow_nil _ _ _ _, Below.refl _ _⟩⟩
  case round =>
    obtain ⟨k, hk, rfl, AT0⟩ := hrel
    have AT := hide AT0
    clear AT0
    by_cases hg : k < 4
    · have e1 := append_words l IL.out k hg
      have sz := AT.out.below.size
      obtain ⟨t, ht⟩ : ∃ t, t = l / pw k % 65536 := ⟨_, rfl⟩
      rw [← ht] at e1
      have HT := hide ht
      clear ht
      have kb : 16 * (k : Int) < 64 := by omega
      obtain ⟨i0, hi0, hz0, hz1, hz2⟩ := info_parts info_u32
      have HI : Hid (Try.prog.info? 101 = some i0 ∧ i0.zero = some (.int .u32 0) ∧ i0.size = 1 ∧ i0.bytes = 4) := ⟨hi0, hz0, hz1, hz2⟩
      have le : (words k l).length ≤ 8 := by simp [words_len]; omega
      have km : (words k l).length + 1 ≤ maxLen := by unfold maxLen; omega
      have ex : 0 ≤ l := IL.out.a
      have ey : l < 18446744073709551616 := IL.out.b
      clear hi0 hz0 hz1 hz2
      go_wp2_with (at_builtin; go_loud (refine wpList_append_own _ rfl _ _ 88 rfl W.heap.size 101 i0 (.int .u32 0) 1 4 Try.underlying88 HI.out.1 HI.out.2.1 HI.out.2.2.1 HI.out.2.2.2 rfl (by decide) u3 _ ((words k l).map (Value.int .u32)) rfl (AT.out.own.alloc _) ⟨wr.heap.size, 0, none⟩ 1 1 [.int .u32 t] rfl rfl (cell_one_new _ _ _) one_u32 km (by omega) (by simp; omega) ?_); intro v' w1 hown' hgrow hnil)
      go_roundw
      case rel =>
        have L : words (k + 1) l = (words k l) ++ [t] := by rw [words_snoc k l, HT.out]; try rw [List.append_assoc]
        refine ⟨k + 1, by omega, by go_num, ⟨?_, (AT.out.below.alloc sz _).grown hgrow (by simp; omega) (fun j hj => (AT.out.own.lt j hj).1)⟩⟩
        rw [L, List.map_append, List.length_append]; exact hown'
      case measure => simp [intOf]; omega
    · obtain rfl : k = 4 := by omega
      have e4 : ((4 : Nat) : Int) = 4 := rfl
      rw [e4]
      clear e4
      go_wp2
      go_loopw [3, 8] (fun v i wr => ∃ k : Nat, k ≤ 4 ∧ i = .int .i64 k ∧ FromAt W wr v (words 4 l ++ words k h)) (fun _ i _ => 4 - (intOf i).toNat)
      case atStart => exact ⟨0, by omega, rfl, by simpa [words] using AT.out⟩
      case round =>
        obtain ⟨k, hk, rfl, AT0⟩ := hrel
        clear AT
        have AT := hide AT0
        clear AT0
        by_cases hg : k < 4
        · have e1 := append_words h IH.out k hg
          have sz := AT.out.below.size
          obtain ⟨t, ht⟩ : ∃ t, t = h / pw k % 65536 := ⟨_, rfl⟩
          rw [← ht] at e1
          have HT := hide ht
          clear ht
          have kb : 16 * (k : Int) < 64 := by omega
          obtain ⟨i0, hi0, hz0, hz1, hz2⟩ := info_parts info_u32
          have HI : Hid (Try.prog.info? 101 = some i0 ∧ i0.zero = some (.int .u32 0) ∧ i0.size = 1 ∧ i0.bytes = 4) := ⟨hi0, hz0, hz1, hz2⟩
          have le : (words 4 l ++ words k h).length ≤ 8 := by simp [words_len]; omega
          have km : (words 4 l ++ words k h).length + 1 ≤ maxLen := by unfold maxLen; omega
          have ex : 0 ≤ h := IH.out.a
          have ey : h < 18446744073709551616 := IH.out.b
          clear hi0 hz0 hz1 hz2
          go_wp2_with (at_builtin; go_loud (refine wpList_append_own _ rfl _ _ 88 rfl W.heap.size 101 i0 (.int .u32 0) 1 4 Try.underlying88 HI.out.1 HI.out.2.1 HI.out.2.2.1 HI.out.2.2.2 rfl (by decide) u3 _ ((words 4 l ++ words k h).map (Value.int .u32)) rfl (AT.out.own.alloc _) ⟨wr.heap.size, 0, none⟩ 1 1 [.int .u32 t] rfl rfl (cell_one_new _ _ _) one_u32 km (by omega) (by simp; omega) ?_); intro v' w1 hown' hgrow hnil)
          go_roundw
          case rel =>
            have L : words 4 l ++ words (k + 1) h = (words 4 l ++ words k h) ++ [t] := by rw [words_snoc k h, HT.out]; try rw [List.append_assoc]
            refine ⟨k + 1, by omega, by go_num, ⟨?_, (AT.out.below.alloc sz _).grown hgrow (by simp; omega) (fun j hj => (AT.out.own.lt j hj).1)⟩⟩
            rw [L, List.map_append, List.length_append]; exact hown'
          case measure => simp [intOf]; omega
        · obtain rfl : k = 4 := by omega
          have e4 : ((4 : Nat) : Int) = 4 := rfl
          rw [e4]
          clear e4
          have F := hide AT.out
          obtain ⟨LM, hn⟩ := Limbs.of_own F.out.own
          have LL : (words 4 l ++ words 4 h).length = 8 := by simp [words_len]
          obtain ⟨p, c, hv⟩ := LM.form
          have ho : Ok (words 4 l ++ words 4 h) := by
            intro x hx; rcases List.mem_append.1 hx with q | q
            · exact words_ok 4 l x q
            · exact words_ok 4 h x q
          have hvl : val (words 4 l ++ words 4 h) = Lb.ab z := by
            rw [val_append, words_val 4 l IL.out.a (by have := IL.out.b; simpa [pw] using this), words_val 4 h IH.out.a (by have := IH.out.b; simpa [pw] using this), words_len, HM.out]
            simp [pw]; omega
          have km := KM p c _ wr (by rw [← hv]; exact LM) ho (by omega) hvl
          rw [← hv] at km
          have KK := hide km
          have RR := hide (RB.out.later F.out.below (by omega))
          have BB := hide (BW.trans (F.out.below.mono BW.size))
          have lt2 := RR.out.lt
          clear LM hn LL hv ho hvl km KM AT F BW RB
          go_wp2_with fail
          refine KK.out.mono ?_
          rintro e w1 ⟨s', p', c', l', rfl, N', hb⟩
          have R2 := RR.out.later hb (by omega)
          have FF := hide (num_end N' (BB.out.trans (hb.mono BB.out.size)) R2.sh (by omega))
          obtain ⟨r0, r1, g0, g1, _, zz⟩ := R2
          clear N' hb KK
          go_wp2_with fail
          refine bodyPost_ret (by simp [results, Try.results35, go_sem, r0, r1, g0, g1, zz]; try rfl) rfl ?_
          exact FF.out _ _
set_option maxRecDepth 100000 in
set_option maxHeartbeats 4000000 in
theorem from_neg2 (a b h l z : Int) (jh : IsLo h) (jl : IsLo l) (hz : z = V a b) (hm : Lb.ab z = l + h * 18446744073709551616) (hn : (a < 0) = True) (ja : IsW (a, b)) (h0 q : Int) (eb : b = 0) (e6 : IntKind.u64.wrap 18446744073709551616 = l) (hl : (l == 0) = true) (e1 : IntKind.u64.wrap a = h0) (e3 : bits .xor .u64 IntKind.u64.max 0 = 18446744073709551615) (e4 : IntKind.u64.wrap (q + 1) = h) (e5 : bits .xor .u64 IntKind.u64.max h0 = q) (w : World) :
    Calls Try.prog 35 #[.agg #[.int .i64 a, .int .u64 b]] w (NumPost w z) := by
  have IL0 := hide jl
  have IH := hide jh
  have IL := hide jl
  have hneg : decide (z < 0) = true := by
    obtain ⟨⟨_, _⟩, _, _⟩ := ja; unfold V at hz; simp only [eq_iff_iff, iff_true, iff_false] at hn; simp; omega
  have KM : ∀ (p : Option Addr) (c : Nat) (o : List Int) (w' : World), Limbs w' (.slice p o.length c) o → Ok o → o.length ≤ 1000 → val o = Lb.ab z → Calls Try.prog 50 #[.bool true, .slice p o.length c] w' (NumPost w' z) := by
    intro p c o w' H1 H2 H3 H4
    have := make2_spec true p c o w' H1 H2 H3
    rwa [H4, mkZ_same z _ hneg.symm] at this
  have HM := hide hm
  clear hm hz hneg
  have na : a < 0 := by simpa using hn
  subst eb
  have e3' : bits .xor .u64 (if IntKind.u64.signed = true then -1 else IntKind.u64.max) 0 = 18446744073709551615 := e3
  have e5' : bits .xor .u64 (if IntKind.u64.signed = true then -1 else IntKind.u64.max) h0 = q := e5
  go_enter Try.func35, Try.ntmps35
  go_wp2
  go_quiet (fail)
  go_wp2
  refine abs_wp (fun W => RBox W (w.heap.size + 1) ∧ Below w.heap.size w W) ?_ ?_
  · refine ⟨⟨?_, ?_, ?_, ?_, ?_, ?_⟩, ?_⟩
    all_goals first | (go_grown; done) | (exact shape_top _ _ _ _ (by simp)) | (simp [go_sem]; done) | (simp; done) | (simp; omega) | (exact below_drewN (by go_grown) _)
  rintro W ⟨RB0, BW⟩
  have RB := hide RB0
  have lt := RB0.lt
  clear RB0 ja jh jl hn
  go_loopw [3, 7] (fun v i wr => ∃ k : Nat, k ≤ 4 ∧ i = .int .i64 k ∧ FromAt W wr v (words k l)) (fun _ i _ => 4 - (intOf i).toNat)
  case atStart => exact ⟨0, by omega, rfl, ⟨World.ownsRow_nil _ _ _ _, Below.refl _ _⟩⟩
  case round =>
    obtain ⟨k, hk, rfl, AT0⟩ := hrel
    have AT := hide AT0
    clear AT0
    by_cases hg : k < 4
    · have e1 := append_words l IL.out k hg
      have sz := AT.out.below.size
      obtain ⟨t, ht⟩ : ∃ t, t = l / pw k % 65536 := ⟨_, rfl⟩
      rw [← ht] at e1
      have HT := hide ht
      clear ht
      have kb : 16 * (k : Int) < 64 := by omega
      obtain ⟨i0, hi0, hz0, hz1, hz2⟩ := info_parts info_u32
      have HI : Hid (Try.prog.info? 101 = some i0 ∧ i0.zero = some (.int .u32 0) ∧ i0.size = 1 ∧ i0.bytes = 4) := ⟨hi0, hz0, hz1, hz2⟩
      have le : (words k l).length ≤ 8 := by simp [words_len]; omega
      have km : (words k l).length + 1 ≤ maxLen := by unfold maxLen; omega
      have ex : 0 ≤ l := IL.out.a
      have ey : l < 18446744073709551616 := IL.out.b
      clear hi0 hz0 hz1 hz2
      go_wp2_with (at_builtin; go_loud (refine wpList_append_own _ rfl _ _ 88 rfl W.heap.size 101 i0 (.int .u32 0) 1 4 Try.underlying88 HI.out.1 HI.out.2.1 HI.out.2.2.1 HI.out.2.2.2 rfl (by decide) u3 _ ((words k l).map (Value.int .u32)) rfl (AT.out.own.alloc _) ⟨wr.heap.size, 0, none⟩ 1 1 [.int .u32 t] rfl rfl (cell_one_new _ _ _) one_u32 km (by omega) (by simp; omega) ?_); intro v' w1 hown' hgrow hnil)
      go_roundw
      case rel =>
        have L : words (k + 1) l = (words k l) ++ [t] := by rw [words_snoc k l, HT.out]; try rw [List.append_assoc]
        refine ⟨k + 1, by omega, by go_num, ⟨?_, (AT.out.below.alloc sz _).grown hgrow (by simp; omega) (fun j hj => (AT.out.own.lt j hj).1)⟩⟩
        rw [L, List.map_append, List.length_append]; exact hown'
      case measure => simp [intOf]; omega
    · obtain rfl : k = 4 := by omega
      have e4 : ((4 : Nat) : Int) = 4 := rfl
      rw [e4]
      clear e4
      go_wp2
      go_loopw [3, 8] (fun v i wr => ∃ k : Nat, k ≤ 4 ∧ i = .int .i64 k ∧ FromAt W wr v (words 4 l ++ words k h)) (fun _ i _ => 4 - (intOf i).toNat)
      case atStart => exact ⟨0, by omega, rfl, by simpa [words] using AT.out⟩
      case round =>
        obtain ⟨k, hk, rfl, AT0⟩ := hrel
        clear AT
        have AT := hide AT0
        clear AT0
        by_cases hg : k < 4
        · have e1 := append_words h IH.out k hg
          have sz := AT.out.below.size
          obtain ⟨t, ht⟩ : ∃ t, t = h / pw k % 65536 := ⟨_, rfl⟩
          rw [← ht] at e1
          have HT := hide ht
          clear ht
          have kb : 16 * (k : Int) < 64 := by omega
          obtain ⟨i0, hi0, hz0, hz1, hz2⟩ := info_parts info_u32
          have HI : Hid (Try.prog.info? 101 = some i0 ∧ i0.zero = some (.int .u32 0) ∧ i0.size = 1 ∧ i0.bytes = 4) := ⟨hi0, hz0, hz1, hz2⟩
          have le : (words 4 l ++ words k h).length ≤ 8 := by simp [words_len]; omega
          have km : (words 4 l ++ words k h).length + 1 ≤ maxLen := by unfold maxLen; omega
          have ex : 0 ≤ h := IH.out.a
          have ey : h < 18446744073709551616 := IH.out.b
          clear hi0 hz0 hz1 hz2
          go_wp2_with (at_builtin; go_loud (refine wpList_append_own _ rfl _ _ 88 rfl W.heap.size 101 i0 (.int .u32 0) 1 4 Try.underlying88 HI.out.1 HI.out.2.1 HI.out.2.2.1 HI.out.2.2.2 rfl (by decide) u3 _ ((words 4 l ++ words k h).map (Value.int .u32)) rfl (AT.out.own.alloc _) ⟨wr.heap.size, 0, none⟩ 1 1 [.int .u32 t] rfl rfl (cell_one_new _ _ _) one_u32 km (by omega) (by simp; omega) ?_); intro v' w1 hown' hgrow hnil)
          go_roundw
          case rel =>
            have L : words 4 l ++ words (k + 1) h = (words 4 l ++ words k h) ++ [t] := by rw [words_snoc k h, HT.out]; try rw [List.append_assoc]
            refine ⟨k + 1, by omega, by go_num, ⟨?_, (AT.out.below.alloc sz _).grown hgrow (by simp; omega) (fun j hj => (AT.out.own.lt j hj).1)⟩⟩
            rw [L, List.map_append, List.length_append]; exact hown'
          case measure => simp [intOf]; omega
        · obtain rfl : k = 4 := by omega
          have e4 : ((4 : Nat) : Int) = 4 := rfl
          rw [e4]
          clear e4
          have F := hide AT.out
          obtain ⟨LM, hn⟩ := Limbs.of_own F.out.own
          have LL : (words 4 l ++ words 4 h).length = 8 := by simp [words_len]
          obtain ⟨p, c, hv⟩ := LM.form
          have ho : Ok (words 4 l ++ words 4 h) := by
            intro x hx; rcases List.mem_append.1 hx with q | q
            · exact words_ok 4 l x q
            · exact words_ok 4 h x q
          have hvl : val (words 4 l ++ words 4 h) = Lb.ab z := by
            rw [val_append, words_val 4 l IL.out.a (by have := IL.out.b; simpa [pw] using this), words_val 4 h IH.out.a (by have := IH.out.b; simpa [pw] using this), words_len, HM.out]
            simp [pw]; omega
          have km := KM p c _ wr (by rw [← hv]; exact LM) ho (by omega) hvl
          rw [← hv] at km
          have KK := hide km
          have RR := hide (RB.out.later F.out.below (by omega))
          have BB := hide (BW.trans (F.out.below.mono BW.size))
          have lt2 := RR.out.lt
          clear LM hn LL hv ho hvl km KM AT F BW RB
          go_wp2_with fail
          refine KK.out.mono ?_
          rintro e w1 ⟨s', p', c', l', rfl, N', hb⟩
          have R2 := RR.out.later hb (by omega)
          have FF := hide (num_end N' (BB.out.trans (hb.mono BB.out.size)) R2.sh (by omega))
          obtain ⟨r0, r1, g0, g1, _, zz⟩ := R2
          clear N' hb KK
          go_wp2_with fail
          refine bodyPost_ret (by simp [results, Try.results35, go_sem, r0, r1, g0, g1, zz]; try rfl) rfl ?_
          exact FF.out _ _
theorem from_spec (a b : Int) (ja : IsW (a, b)) (w : World) :
    Calls Try.prog 35 #[.agg #[.int .i64 a, .int .u64 b]] w (NumPost w (V a b)) := by
  have ia := ja.a
  have ib := ja.b
  obtain ⟨a1, a2⟩ := ia
  obtain ⟨b1, b2⟩ := ib
  have e1 : IntKind.u64.wrap a = u a := by rw [IntKind.wrap_u64]; rfl
  have iu := isLo_u a
  by_cases n : a < 0
  · have e5 := xor_u64 (u a) iu
    have e3 := xor_u64 b ja.b
    by_cases z : b = 0
    · subst z
      refine from_neg2 a 0 (-(u a) + 18446744073709551616) 0 (V a 0) ⟨?_, ?_⟩ isLo_0 rfl ?_ (by simp [n]) ja (u a) (-(u a) - 1 + 18446744073709551616) rfl (by decide) rfl e1 (by rw [e3]; rfl) (by rw [IntKind.wrap_u64]; unfold u; omega) e5 w
      all_goals (unfold u; (try unfold Lb.ab V); (try (rw [if_pos (by omega)])); omega)
    · refine from_neg1 a b (-(u a) - 1 + 18446744073709551616) (-b + 18446744073709551616) (V a b) ⟨?_, ?_⟩ ⟨by omega, by omega⟩ rfl ?_ (by simp [n]) ja (u a) (-b - 1 + 18446744073709551616) e1 e3 (by rw [IntKind.wrap_u64]; omega) (by simp; omega) e5 w
      all_goals (unfold u; (try unfold Lb.ab V); (try (rw [if_pos (by omega)])); omega)
  · refine from_pos a b (u a) b (V a b) iu ja.b rfl ?_ (by simp [n]) ja e1 rfl w
    unfold Lb.ab V u; rw [if_neg (by omega)]; omega
end Go.Proofs.Ytnlefakicjojdaa
/- The reference of layer 1: word, fits. -/
namespace Go.Proofs.Ytnlefakicjojdaa
set_option linter.unusedVariables false
open Go.RowKit W Lb
theorem or_add (v x : Int) (k : Nat) (hk : k < 4) (a : 0 ≤ v) (b : v < pw k) (c : 0 ≤ x) (d : x < 65536) : bits .or .u64 v (x * 2 ^ (16 * k)) = v + pw k * x := by
  have e : (2 : Int) ^ (16 * k) = pw k := p2_pw' k
  have ub : pw k ≤ 281474976710656 := by have := pw_mono (show k ≤ 3 by omega); simpa [pw] using this
  have pp := pw_pos k
  have m1 : pw k * x ≤ pw k * 65535 := Int.mul_le_mul_of_nonneg_left (by omega) (by omega)
  have m0 : 0 ≤ pw k * x := Int.mul_nonneg (by omega) c
  rw [e, Int.mul_comm x]
  rw [u64_or v (pw k * x) a (by omega) m0 (by omega)]
  obtain ⟨n, rfl⟩ := Int.eq_ofNat_of_zero_le a
  obtain ⟨y, rfl⟩ := Int.eq_ofNat_of_zero_le c
  have ek : pw k = ((2 ^ (16 * k) : Nat) : Int) := by rw [← e]; simp
  rw [ek] at b ⊢
  have e2 : ((2 ^ (16 * k) : Nat) : Int) * (y : Int) = ((2 ^ (16 * k) * y : Nat) : Int) := by simp
  rw [e2]
  show ((n ||| 2 ^ (16 * k) * y : Nat) : Int) = _
  have h := Nat.two_pow_add_eq_or_of_lt (i := 16 * k) (b := n) (by omega) y
  rw [Nat.or_comm, ← h]
  simp; omega
theorem drop_at (l : List Int) (f k : Nat) : (l.drop f).getD k 0 = l.getD (f + k) 0 := by simp [List.getD_eq_getElem?_getD]
/-- Four limbs from place f on. -/
def wordV (l : List Int) (f k : Nat) : Int := val ((l.drop f).take k)
theorem wordV_succ (l : List Int) (f k : Nat) : wordV l f (k + 1) = wordV l f k + pw k * l.getD (f + k) 0 := by unfold wordV; rw [val_take, drop_at]
theorem wordV_lt {l : List Int} (o : Ok l) (f k : Nat) : 0 ≤ wordV l f k ∧ wordV l f k < pw k := by
  have h : Ok ((l.drop f).take k) := fun x hx => o x (List.mem_of_mem_drop (List.mem_of_mem_take hx))
  refine ⟨val_nonneg h, val_lt' h (by simp; omega)⟩
end Go.Proofs.Ytnlefakicjojdaa
/- The reference of layer 1: AddN. -/
namespace Go.Proofs.Ytnlefakicjojdaa
set_option linter.unusedVariables false
open Go.RowKit W Lb
set_option maxHeartbeats 4000000 in
theorem addN_same (s s' : Bool) (pa pb : Option Addr) (ca cb : Nat) (la lb : List Int) (z m : Int) (w : World) (ss : s = s')
    (KA : ∀ w', Keeps w.heap.size w w' → Calls Try.prog 52 #[.slice pa la.length ca, .slice pb lb.length cb] w' (MagPost w' m))
    (KM : ∀ pv cv lv w', Limbs w' (.slice pv lv.length cv) lv → Mag lv m → Calls Try.prog 50 #[.bool s, .slice pv lv.length cv] w' (NumPost w' z))
    : Calls Try.prog 37 #[.agg #[.bool s, .slice pa la.length ca], .agg #[.bool s', .slice pb lb.length cb]] w (NumPost w z) := by
  have KA0 := hide KA
  clear KA
  subst ss
  go_enter Try.func37, Try.ntmps37
  go_wp2_with fail
  refine abs_wp (fun W => W.cell? ⟨w.heap.size, 0, none⟩ = some (.bool s) ∧ W.cell? ⟨w.heap.size, 1, none⟩ = some (.slice pa la.length ca) ∧ W.cell? ⟨w.heap.size + 1, 0, none⟩ = some (.bool s) ∧ W.cell? ⟨w.heap.size + 1, 1, none⟩ = some (.slice pb lb.length cb) ∧ W.cell? ⟨w.heap.size + 1 + 1, 0, none⟩ = some (.bool false) ∧ W.cell? ⟨w.heap.size + 1 + 1, 1, none⟩ = some (.slice none 0 0) ∧ W.frozen? ⟨w.heap.size + 1 + 1, 0, none⟩ = false ∧ W.frozen? ⟨w.heap.size + 1 + 1, 1, none⟩ = false ∧ W.shape? (w.heap.size + 1 + 1) = some (90, 2) ∧ w.heap.size + 1 + 1 < W.heap.size ∧ Below w.heap.size w W) ?_ ?_
  · refine ⟨?_, ?_, ?_, ?_, ?_, ?_, ?_, ?_, ?_, ?_, ?_⟩
    all_goals first | (exact shape_top _ _ _ _ (by simp)) | (go_grown; done) | (simp [go_sem]; done) | (simp; done) | (simp; omega)
  rintro W ⟨c00, c01, c10, c11, r0, r1, g0, g1, hr, zW, BW⟩
  have KA : ∀ w', Keeps W.heap.size W w' → Calls Try.prog 52 #[.slice pa la.length ca, .slice pb lb.length cb] w' (MagPost w' m) := fun w' K => KA0.out w' ⟨BW.trans (K.below.mono BW.size), Nat.le_refl _⟩
  have K0 := Keeps.start (Nat.le_refl W.heap.size)
  have K1 := K0.drew
  have J0 : Keeps (w.heap.size + 1 + 1) W W := Keeps.start (by omega)
  have J1 := J0.drew
  have z0 : w.heap.size < W.heap.size := by omega
  have z1 : w.heap.size + 1 < W.heap.size := by omega
  have z2 : w.heap.size + 1 + 1 < W.heap.size := by omega
  go_region_held3 (fun w' => w'.cell? ⟨w.heap.size, 0, none⟩ = some (.bool s) ∧ w'.cell? ⟨w.heap.size, 1, none⟩ = some (.slice pa la.length ca) ∧ w'.cell? ⟨w.heap.size + 1, 0, none⟩ = some (.bool s) ∧ w'.cell? ⟨w.heap.size + 1, 1, none⟩ = some (.slice pb lb.length cb) ∧ Keeps (w.heap.size + 1 + 1) W w') ((refine (fun K => ⟨Keeps.cell K c00 (by omega), Keeps.cell K c01 (by omega), Keeps.cell K c10 (by omega), Keeps.cell K c11 (by omega), K⟩) (?_ : Keeps (w.heap.size + 1 + 1) W _); (repeat (first | assumption | refine Keeps.alloc ?_ _ | refine Keeps.drew ?_ | refine Keeps.setCell ?_ (by first | (simp; done) | omega | (simp; omega)) _))))
    (first
    | (go_at_call 52; refine (KA _ (by repeat (first | assumption | refine Keeps.alloc ?_ _ | refine Keeps.drew ?_ | refine Keeps.setCell ?_ (by first | (simp; done) | omega | (simp; omega)) _))).mono ?_; rintro e v20 ⟨va, lv, rfl, LV, MV, hb20, fr20⟩; obtain ⟨pv, cv, rfl⟩ := LV.form; have K20 := Keeps.call (B := W.heap.size) (W := W) (by repeat (first | assumption | refine Keeps.alloc ?_ _ | refine Keeps.drew ?_ | refine Keeps.setCell ?_ (by first | (simp; done) | omega | (simp; omega)) _)) hb20; obtain ⟨bc20, bf20, bs20⟩ := bcell hb20; (try simp only [World.size_alloc, World.size_drew] at bc20 bf20 bs20); have J20 : Keeps (w.heap.size + 1 + 1) W v20 := ⟨K20.below.mono (by omega), by omega⟩; (try (have ov200 : W.heap.size < v20.heap.size := by omega)); (try (have ov201 : W.heap.size ≤ v20.heap.size := by omega)); (try (have ov202 : ¬ W.heap.size = v20.heap.size := by omega)); (try (have ov203 : ¬ v20.heap.size = W.heap.size := by omega)); (try (have ov204 : W.heap.size + 1 < v20.heap.size := by omega)); (try (have ov205 : W.heap.size + 1 ≤ v20.heap.size := by omega)); (try (have ov206 : ¬ W.heap.size + 1 = v20.heap.size := by omega)); (try (have ov207 : ¬ v20.heap.size = W.heap.size + 1 := by omega)))
    | (go_at_call 50; refine (KM _ _ _ _ (by first | exact LV | exact LV.later (by go_grown)) MV).mono ?_; rintro e v21 ⟨s2, p2, c2, l2, rfl, N2, hb21⟩; have K21 := Keeps.call (B := W.heap.size) (W := W) (by repeat (first | assumption | refine Keeps.alloc ?_ _ | refine Keeps.drew ?_ | refine Keeps.setCell ?_ (by first | (simp; done) | omega | (simp; omega)) _)) hb21; have J21 : Keeps (w.heap.size + 1 + 1) W v21 := ⟨K21.below.mono (by omega), by omega⟩; have rr0 := K21.cell r0 z2; have rr1 := K21.cell r1 z2; have gg0 := K21.free g0 z2; have gg1 := K21.free g1 z2; have zz : w.heap.size + 1 + 1 < v21.heap.size := (by have := K21.size; omega); clear bc20 bf20 bs20))
  all_goals
    have F := hide (num_end N2 (BW.trans (K21.below.mono BW.size)) ((shape_later K21.below z2).trans hr) (by omega))
    clear K20 K21 N2 KA KM
    go_wp2_with fail
    refine bodyPost_ret (by simp [results, Try.results37, go_sem, rr0, rr1, gg0, gg1, zz]; try rfl) rfl ?_
    exact F.out _ _
set_option maxHeartbeats 4000000 in
theorem addN_ge (s s' : Bool) (pa pb : Option Addr) (ca cb : Nat) (la lb : List Int) (z m : Int) (w : World) (x y : Int) (ss : (s == s') = false) (h : 0 ≤ cmpI x y)
    (KC : ∀ w', Below w.heap.size w w' → Calls Try.prog 51 #[.slice pa la.length ca, .slice pb lb.length cb] w' (CmpPost w' x y))
    (KA : ∀ w', Keeps w.heap.size w w' → Calls Try.prog 53 #[.slice pa la.length ca, .slice pb lb.length cb] w' (MagPost w' m))
    (KM : ∀ pv cv lv w', Limbs w' (.slice pv lv.length cv) lv → Mag lv m → Calls Try.prog 50 #[.bool s, .slice pv lv.length cv] w' (NumPost w' z))
    : Calls Try.prog 37 #[.agg #[.bool s, .slice pa la.length ca], .agg #[.bool s', .slice pb lb.length cb]] w (NumPost w z) := by
  have KA0 := hide KA
  clear KA
  go_enter Try.func37, Try.ntmps37
  go_wp2_with fail
  refine (KC _ (by go_grown)).mono ?_
  rintro e w1 ⟨rfl, hb⟩
  obtain ⟨bc, bf, bs⟩ := bcell hb
  simp only [World.size_alloc] at bc bf bs
  have B : Below w.heap.size w w1 := Below.trans (by go_grown) (hb.mono (by first | (simp; done) | omega | (simp; omega)))
  have hr1 : w1.shape? (w.heap.size + 1 + 1) = some (90, 2) := (shape_later hb (by simp)).trans (shape_top _ _ _ _ (by simp))
  have zz1 : w.heap.size + 1 + 1 < w1.heap.size := by omega
  generalize cmpI x y = d at *
  clear KC hb
  go_wp2_with fail
  refine abs_wp (fun W => W.cell? ⟨w.heap.size, 0, none⟩ = some (.bool s) ∧ W.cell? ⟨w.heap.size, 1, none⟩ = some (.slice pa la.length ca) ∧ W.cell? ⟨w.heap.size + 1, 0, none⟩ = some (.bool s') ∧ W.cell? ⟨w.heap.size + 1, 1, none⟩ = some (.slice pb lb.length cb) ∧ W.cell? ⟨w.heap.size + 1 + 1, 0, none⟩ = some (.bool false) ∧ W.cell? ⟨w.heap.size + 1 + 1, 1, none⟩ = some (.slice none 0 0) ∧ W.frozen? ⟨w.heap.size + 1 + 1, 0, none⟩ = false ∧ W.frozen? ⟨w.heap.size + 1 + 1, 1, none⟩ = false ∧ W.shape? (w.heap.size + 1 + 1) = some (90, 2) ∧ w.heap.size + 1 + 1 < W.heap.size ∧ Below w.heap.size w W) ?_ ?_
  · refine ⟨?_, ?_, ?_, ?_, ?_, ?_, ?_, ?_, ?_, ?_, ?_⟩
    all_goals first | (exact hr1) | (exact B) | (exact zz1) | (simp [go_sem, bc, bf]; done) | (go_grown; done) | (simp [go_sem]; done) | (simp; done) | (simp; omega)
  rintro W ⟨c00, c01, c10, c11, r0, r1, g0, g1, hr, zW, BW⟩
  have KA : ∀ w', Keeps W.heap.size W w' → Calls Try.prog 53 #[.slice pa la.length ca, .slice pb lb.length cb] w' (MagPost w' m) := fun w' K => KA0.out w' ⟨BW.trans (K.below.mono BW.size), Nat.le_refl _⟩
  have K0 := Keeps.start (Nat.le_refl W.heap.size)
  have K1 := K0.drew
  have J0 : Keeps (w.heap.size + 1 + 1) W W := Keeps.start (by omega)
  have J1 := J0.drew
  have z0 : w.heap.size < W.heap.size := by omega
  have z1 : w.heap.size + 1 < W.heap.size := by omega
  have z2 : w.heap.size + 1 + 1 < W.heap.size := by omega
  go_region_held3 (fun w' => w'.cell? ⟨w.heap.size, 0, none⟩ = some (.bool s) ∧ w'.cell? ⟨w.heap.size, 1, none⟩ = some (.slice pa la.length ca) ∧ w'.cell? ⟨w.heap.size + 1, 0, none⟩ = some (.bool s') ∧ w'.cell? ⟨w.heap.size + 1, 1, none⟩ = some (.slice pb lb.length cb) ∧ Keeps (w.heap.size + 1 + 1) W w') ((refine (fun K => ⟨Keeps.cell K c00 (by omega), Keeps.cell K c01 (by omega), Keeps.cell K c10 (by omega), Keeps.cell K c11 (by omega), K⟩) (?_ : Keeps (w.heap.size + 1 + 1) W _); (repeat (first | assumption | refine Keeps.alloc ?_ _ | refine Keeps.drew ?_ | refine Keeps.setCell ?_ (by first | (simp; done) | omega | (simp; omega)) _))))
    (first
    | (go_at_call 53; refine (KA _ (by repeat (first | assumption | refine Keeps.alloc ?_ _ | refine Keeps.drew ?_ | refine Keeps.setCell ?_ (by first | (simp; done) | omega | (simp; omega)) _))).mono ?_; rintro e v20 ⟨va, lv, rfl, LV, MV, hb20, fr20⟩; obtain ⟨pv, cv, rfl⟩ := LV.form; have K20 := Keeps.call (B := W.heap.size) (W := W) (by repeat (first | assumption | refine Keeps.alloc ?_ _ | refine Keeps.drew ?_ | refine Keeps.setCell ?_ (by first | (simp; done) | omega | (simp; omega)) _)) hb20; obtain ⟨bc20, bf20, bs20⟩ := bcell hb20; (try simp only [World.size_alloc, World.size_drew] at bc20 bf20 bs20); have J20 : Keeps (w.heap.size + 1 + 1) W v20 := ⟨K20.below.mono (by omega), by omega⟩; (try (have ov200 : W.heap.size < v20.heap.size := by omega)); (try (have ov201 : W.heap.size ≤ v20.heap.size := by omega)); (try (have ov202 : ¬ W.heap.size = v20.heap.size := by omega)); (try (have ov203 : ¬ v20.heap.size = W.heap.size := by omega)); (try (have ov204 : W.heap.size + 1 < v20.heap.size := by omega)); (try (have ov205 : W.heap.size + 1 ≤ v20.heap.size := by omega)); (try (have ov206 : ¬ W.heap.size + 1 = v20.heap.size := by omega)); (try (have ov207 : ¬ v20.heap.size = W.heap.size + 1 := by omega)))
    | (go_at_call 50; refine (KM _ _ _ _ (by first | exact LV | exact LV.later (by go_grown)) MV).mono ?_; rintro e v21 ⟨s2, p2, c2, l2, rfl, N2, hb21⟩; have K21 := Keeps.call (B := W.heap.size) (W := W) (by repeat (first | assumption | refine Keeps.alloc ?_ _ | refine Keeps.drew ?_ | refine Keeps.setCell ?_ (by first | (simp; done) | omega | (simp; omega)) _)) hb21; have J21 : Keeps (w.heap.size + 1 + 1) W v21 := ⟨K21.below.mono (by omega), by omega⟩; have rr0 := K21.cell r0 z2; have rr1 := K21.cell r1 z2; have gg0 := K21.free g0 z2; have gg1 := K21.free g1 z2; have zz : w.heap.size + 1 + 1 < v21.heap.size := (by have := K21.size; omega); clear bc20 bf20 bs20))
  all_goals
    have F := hide (num_end N2 (BW.trans (K21.below.mono BW.size)) ((shape_later K21.below z2).trans hr) (by omega))
    clear K20 K21 N2 KA KM
    go_wp2_with fail
    refine bodyPost_ret (by simp [results, Try.results37, go_sem, rr0, rr1, gg0, gg1, zz]; try rfl) rfl ?_
    exact F.out _ _
set_option maxHeartbeats 4000000 in
theorem addN_lt (s s' : Bool) (pa pb : Option Addr) (ca cb : Nat) (la lb : List Int) (z m : Int) (w : World) (x y : Int) (ss : (s == s') = false) (h : ¬ 0 ≤ cmpI x y)
    (KC : ∀ w', Below w.heap.size w w' → Calls Try.prog 51 #[.slice pa la.length ca, .slice pb lb.length cb] w' (CmpPost w' x y))
    (KA : ∀ w', Keeps w.heap.size w w' → Calls Try.prog 53 #[.slice pb lb.length cb, .slice pa la.length ca] w' (MagPost w' m))
    (KM : ∀ pv cv lv w', Limbs w' (.slice pv lv.length cv) lv → Mag lv m → Calls Try.prog 50 #[.bool s', .slice pv lv.length cv] w' (NumPost w' z))
    : Calls Try.prog 37 #[.agg #[.bool s, .slice pa la.length ca], .agg #[.bool s', .slice pb lb.length cb]] w (NumPost w z) := by
  have KA0 := hide KA
  clear KA
  go_enter Try.func37, Try.ntmps37
  go_wp2_with fail
  refine (KC _ (by go_grown)).mono ?_
  rintro e w1 ⟨rfl, hb⟩
  obtain ⟨bc, bf, bs⟩ := bcell hb
  simp only [World.size_alloc] at bc bf bs
  have B : Below w.heap.size w w1 := Below.trans (by go_grown) (hb.mono (by first | (simp; done) | omega | (simp; omega)))
  have hr1 : w1.shape? (w.heap.size + 1 + 1) = some (90, 2) := (shape_later hb (by simp)).trans (shape_top _ _ _ _ (by simp))
  have zz1 : w.heap.size + 1 + 1 < w1.heap.size := by omega
  generalize cmpI x y = d at *
  clear KC hb
  go_wp2_with fail
  refine abs_wp (fun W => W.cell? ⟨w.heap.size, 0, none⟩ = some (.bool s) ∧ W.cell? ⟨w.heap.size, 1, none⟩ = some (.slice pa la.length ca) ∧ W.cell? ⟨w.heap.size + 1, 0, none⟩ = some (.bool s') ∧ W.cell? ⟨w.heap.size + 1, 1, none⟩ = some (.slice pb lb.length cb) ∧ W.cell? ⟨w.heap.size + 1 + 1, 0, none⟩ = some (.bool false) ∧ W.cell? ⟨w.heap.size + 1 + 1, 1, none⟩ = some (.slice none 0 0) ∧ W.frozen? ⟨w.heap.size + 1 + 1, 0, none⟩ = false ∧ W.frozen? ⟨w.heap.size + 1 + 1, 1, none⟩ = false ∧ W.shape? (w.heap.size + 1 + 1) = some (90, 2) ∧ w.heap.size + 1 + 1 < W.heap.size ∧ Below w.heap.size w W) ?_ ?_
  · refine ⟨?_, ?_, ?_, ?_, ?_, ?_, ?_, ?_, ?_, ?_, ?_⟩
    all_goals first | (exact hr1) | (exact B) | (exact zz1) | (simp [go_sem, bc, bf]; done) | (go_grown; done) | (simp [go_sem]; done) | (simp; done) | (simp; omega)
  rintro W ⟨c00, c01, c10, c11, r0, r1, g0, g1, hr, zW, BW⟩
  have KA : ∀ w', Keeps W.heap.size W w' → Calls Try.prog 53 #[.slice pb lb.length cb, .slice pa la.length ca] w' (MagPost w' m) := fun w' K => KA0.out w' ⟨BW.trans (K.below.mono BW.size), Nat.le_refl _⟩
  have K0 := Keeps.start (Nat.le_refl W.heap.size)
  have K1 := K0.drew
  have J0 : Keeps (w.heap.size + 1 + 1) W W := Keeps.start (by omega)
  have J1 := J0.drew
  have z0 : w.heap.size < W.heap.size := by omega
  have z1 : w.heap.size + 1 < W.heap.size := by omega
  have z2 : w.heap.size + 1 + 1 < W.heap.size := by omega
  go_region_held3 (fun w' => w'.cell? ⟨w.heap.size, 0, none⟩ = some (.bool s) ∧ w'.cell? ⟨w.heap.size, 1, none⟩ = some (.slice pa la.length ca) ∧ w'.cell? ⟨w.heap.size + 1, 0, none⟩ = some (.bool s') ∧ w'.cell? ⟨w.heap.size + 1, 1, none⟩ = some (.slice pb lb.length cb) ∧ Keeps (w.heap.size + 1 + 1) W w') ((refine (fun K => ⟨Keeps.cell K c00 (by omega), Keeps.cell K c01 (by omega), Keeps.cell K c10 (by omega), Keeps.cell K c11 (by omega), K⟩) (?_ : Keeps (w.heap.size + 1 + 1) W _); (repeat (first | assumption | refine Keeps.alloc ?_ _ | refine Keeps.drew ?_ | refine Keeps.setCell ?_ (by first | (simp; done) | omega | (simp; omega)) _))))
    (first
    | (go_at_call 53; refine (KA _ (by repeat (first | assumption | refine Keeps.alloc ?_ _ | refine Keeps.drew ?_ | refine Keeps.setCell ?_ (by first | (simp; done) | omega | (simp; omega)) _))).mono ?_; rintro e v20 ⟨va, lv, rfl, LV, MV, hb20, fr20⟩; obtain ⟨pv, cv, rfl⟩ := LV.form; have K20 := Keeps.call (B := W.heap.size) (W := W) (by repeat (first | assumption | refine Keeps.alloc ?_ _ | refine Keeps.drew ?_ | refine Keeps.setCell ?_ (by first | (simp; done) | omega | (simp; omega)) _)) hb20; obtain ⟨bc20, bf20, bs20⟩ := bcell hb20; (try simp only [World.size_alloc, World.size_drew] at bc20 bf20 bs20); have J20 : Keeps (w.heap.size + 1 + 1) W v20 := ⟨K20.below.mono (by omega), by omega⟩; (try (have ov200 : W.heap.size < v20.heap.size := by omega)); (try (have ov201 : W.heap.size ≤ v20.heap.size := by omega)); (try (have ov202 : ¬ W.heap.size = v20.heap.size := by omega)); (try (have ov203 : ¬ v20.heap.size = W.heap.size := by omega)); (try (have ov204 : W.heap.size + 1 < v20.heap.size := by omega)); (try (have ov205 : W.heap.size + 1 ≤ v20.heap.size := by omega)); (try (have ov206 : ¬ W.heap.size + 1 = v20.heap.size := by omega)); (try (have ov207 : ¬ v20.heap.size = W.heap.size + 1 := by omega)))
    | (go_at_call 50; refine (KM _ _ _ _ (by first | exact LV | exact LV.later (by go_grown)) MV).mono ?_; rintro e v21 ⟨s2, p2, c2, l2, rfl, N2, hb21⟩; have K21 := Keeps.call (B := W.heap.size) (W := W) (by repeat (first | assumption | refine Keeps.alloc ?_ _ | refine Keeps.drew ?_ | refine Keeps.setCell ?_ (by first | (simp; done) | omega | (simp; omega)) _)) hb21; have J21 : Keeps (w.heap.size + 1 + 1) W v21 := ⟨K21.below.mono (by omega), by omega⟩; have rr0 := K21.cell r0 z2; have rr1 := K21.cell r1 z2; have gg0 := K21.free g0 z2; have gg1 := K21.free g1 z2; have zz : w.heap.size + 1 + 1 < v21.heap.size := (by have := K21.size; omega); clear bc20 bf20 bs20))
  all_goals
    have F := hide (num_end N2 (BW.trans (K21.below.mono BW.size)) ((shape_later K21.below z2).trans hr) (by omega))
    clear K20 K21 N2 KA KM
    go_wp2_with fail
    refine bodyPost_ret (by simp [results, Try.results37, go_sem, rr0, rr1, gg0, gg1, zz]; try rfl) rfl ?_
    exact F.out _ _
end Go.Proofs.Ytnlefakicjojdaa
/- The reference of layer 1: To, over. -/
namespace Go.Proofs.Ytnlefakicjojdaa
set_option linter.unusedVariables false
open Go.RowKit W Lb
/-- To's answer. -/
abbrev toRes (z : Int) : Ending := .returned (.tuple #[.agg #[.int .i64 (hi (resV z)), .int .u64 (lo (resV z))], .bool (decide (Fits z))])
theorem to_res {z x1 x0 : Int} {t : Bool} {w w' : World} {e : Ending} (h : e = .returned (.tuple #[.agg #[.int .i64 x1, .int .u64 x0], .bool t]) ∧ Below w.heap.size w w') (f : decide (Fits z) = t) (h1 : x1 = hi (resV z)) (h0 : x0 = lo (resV z)) : e = toRes z ∧ Below w.heap.size w w' := by
  obtain ⟨rfl, hb⟩ := h
  subst f h1 h0
  exact ⟨rfl, hb⟩
theorem not_over {z x1 x0 : Int} {w w' : World} {e : Ending} (h : e = .returned (.tuple #[.agg #[.int .i64 0, .int .u64 0], .bool false]) ∧ Below w.heap.size w w') (f : ¬ Fits z) : e = toRes z ∧ Below w.heap.size w w' :=
  to_res h (decide_eq_false f) (by rw [resV_not f]; rfl) (by rw [resV_not f]; rfl)
theorem wordV_split {l : List Int} (h : l.length ≤ 8) : val l = wordV l 0 4 + 18446744073709551616 * wordV l 4 4 := by
  have e := val_append (l.take 4) (l.drop 4)
  rw [List.take_append_drop] at e
  unfold wordV
  rw [List.drop_zero, List.take_of_length_le (show (l.drop 4).length ≤ 4 by simp; omega), e]
  by_cases q : 4 ≤ l.length
  · rw [List.length_take_of_le q]; simp [pw]
  · rw [List.drop_eq_nil_of_le (by omega)]; simp [val]
end Go.Proofs.Ytnlefakicjojdaa
/- math/bits.Mul64; wide: times. -/
namespace Go.Proofs.Ytnlefakicjojdaa
set_option linter.unusedVariables false
open Go.RowKit W
/-- What times answers: the product where two words hold it. -/
structure TimesOut (p p1 p0 : Int) (ok : Bool) : Prop where
  lo1 : IsLo p1
  lo0 : IsLo p0
  yes : ok = true → p1 = hi p ∧ p0 = lo p ∧ p < 340282366920938463463374607431768211456
  no : ok = false → 340282366920938463463374607431768211456 ≤ p
/-- The post, under one name. -/
def TimesPost (w : World) (p : Int) (e : Ending) (w' : World) : Prop :=
  ∃ p1 p0 ok, e = .returned (.tuple #[.agg #[.int .u64 p0, .int .u64 p1], .bool ok]) ∧ TimesOut p p1 p0 ok ∧ Below w.heap.size w w'
theorem big_prod {a1 a0 b1 b0 : Int} (i1 : IsLo a1) (i0 : IsLo a0) (j1 : IsLo b1) (j0 : IsLo b0) (n : a1 ≠ 0) (m : b1 ≠ 0) : 340282366920938463463374607431768211456 ≤ V a1 a0 * V b1 b0 := by
  obtain ⟨_, _⟩ := i1; obtain ⟨_, _⟩ := i0; obtain ⟨_, _⟩ := j1; obtain ⟨_, _⟩ := j0
  have h : 18446744073709551616 * 18446744073709551616 ≤ V a1 a0 * V b1 b0 := Int.mul_le_mul (by unfold V; omega) (by unfold V; omega) (by omega) (by unfold V; omega)
  omega
/-- Of the four words' products: what the parts say. -/
theorem times_parts {a1 a0 b1 b0 p o1 x1 o2 x2 hh ll x12 top car : Int} (i1 : IsLo a1) (i0 : IsLo a0) (j1 : IsLo b1) (j0 : IsLo b0) (z : a1 = 0 ∨ b1 = 0)
    (hp : p = V a1 a0 * V b1 b0) (h1 : hh = hi (a0 * b0)) (h2 : ll = lo (a0 * b0)) (h3 : o1 = hi (a1 * b0)) (h4 : x1 = lo (a1 * b0)) (h5 : o2 = hi (a0 * b1)) (h6 : x2 = lo (a0 * b1))
    (h7 : x12 = x1 + x2) (h8 : top = addD hh x12 0) (h9 : car = addC hh x12 0) (ok : Bool) (hok : ok = true ↔ o1 = 0 ∧ o2 = 0 ∧ car = 0) : TimesOut p top ll ok := by
  have e : p = (a1 * b0 + a0 * b1) * 18446744073709551616 + a0 * b0 := by rw [hp]; exact times_split a1 a0 b1 b0 z
  have q1 := prod_lo i0 j0
  have q2 := prod_lo i1 j0
  have q3 := prod_lo i0 j1
  have zz : a1 * b0 = 0 ∨ a0 * b1 = 0 := by rcases z with rfl | rfl <;> simp
  generalize a0 * b0 = A at *
  generalize a1 * b0 = D at *
  generalize a0 * b1 = F at *
  simp only [hi, lo] at h1 h2 h3 h4 h5 h6
  simp only [addD, addC] at h8 h9
  refine ⟨⟨by omega, by omega⟩, ⟨by omega, by omega⟩, fun h => ?_, fun h => ?_⟩
  · have := hok.1 h
    refine ⟨?_, ?_, ?_⟩ <;> (try simp only [hi, lo]) <;> omega
  · have n : ¬ (o1 = 0 ∧ o2 = 0 ∧ car = 0) := fun t => by rw [hok.2 t] at h; exact Bool.false_ne_true h.symm
    omega
end Go.Proofs.Ytnlefakicjojdaa
/- wide: amounts and signs. -/
namespace Go.Proofs.Ytnlefakicjojdaa
set_option linter.unusedVariables false
open Go.RowKit W
theorem ab_le {v : Int} (f : Fits v) : 0 ≤ ab v ∧ ab v ≤ 170141183460469231731687303715884105728 := by obtain ⟨_, _⟩ := f; unfold ab; split <;> omega
theorem lo_ab {v : Int} (f : Fits v) : IsLo (hi (ab v)) := by have := ab_le f; exact ⟨by unfold hi; omega, by unfold hi; omega⟩
theorem sg_mul (x y : Int) : sg (decide (x < 0) != decide (y < 0)) (ab x * ab y) = x * y := by
  unfold sg ab
  by_cases h : x < 0 <;> by_cases g : y < 0 <;> simp [h, g, Int.neg_mul, Int.mul_neg]
theorem neg_hi {a b : Int} (i : IsW (a, b)) : decide (a < 0) = decide (V a b < 0) := by
  obtain ⟨⟨_, _⟩, ⟨_, _⟩⟩ := i; rw [decide_eq_decide]; simp only at *; unfold V; omega
theorem mul_over {x y : Int} (fx : Fits x) (fy : Fits y) (h : 340282366920938463463374607431768211456 ≤ ab x * ab y) : ¬ Fits (x * y) := by
  rintro ⟨p, q⟩
  have e := sg_mul x y
  unfold sg at e
  split at e <;> omega
end Go.Proofs.Ytnlefakicjojdaa
