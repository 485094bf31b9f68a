/- The reference of layer 1: From. -/
import Derived.Test.YthcgkpmlfbjagaaLnum
import Derived.Test.YthcgkpmlfbjagaaWxor
namespace Go.Proofs.Ythcgkpmlfbjagaa
set_option linter.unusedVariables false
open Go.RowKit W Lb
theorem p2_pw' (k : Nat) : (2 : Int) ^ (16 * k) = pw k := by rw [← p2_pow, p2_pw]
theorem words_map (n : Nat) (x : Int) : (words (n + 1) x).map (Value.int .u32) = (words n x).map (Value.int .u32) ++ [.int .u32 (x / pw n % 65536)] := by rw [words_snoc]; simp
/-- The place of an answer of two cells that may be written. -/
structure RBox (w : World) (r : Nat) : Prop where
  r0 : w.cell? ⟨r, 0, none⟩ = some (.bool false)
  r1 : w.cell? ⟨r, 1, none⟩ = some (.slice none 0 0)
  g0 : w.frozen? ⟨r, 0, none⟩ = false
  g1 : w.frozen? ⟨r, 1, none⟩ = false
  sh : w.shape? r = some (57, 2)
  lt : r < w.heap.size
theorem RBox.later {w w' : World} {r B : Nat} (h : RBox w r) (k : Below B w w') (hb : r < B) : RBox w' r :=
  ⟨(k.cell (p := ⟨r, 0, none⟩) hb).trans h.r0, (k.cell (p := ⟨r, 1, none⟩) hb).trans h.r1, (k.frozen (p := ⟨r, 0, none⟩) hb).trans h.g0, (k.frozen (p := ⟨r, 1, none⟩) hb).trans h.g1, (shape_later k hb).trans h.sh, Nat.lt_of_lt_of_le h.lt k.size⟩
theorem append_words (x : Int) (i : IsLo x) (k : Nat) (hk : k < 4) : bits .and .u32 (x / 2 ^ (16 * k) % 4294967296) 65535 = x / pw k % 65536 := by
  rw [p2_pw', u32_low _ (by omega) (by omega)]; omega
/-- The limbs of a word behind others. -/
structure FromAt (W wr : World) (v : Value) (o : List Int) : Prop where
  own : wr.ownsRow W.heap.size 88 1 v o.length (o.map (Value.int .u32))
  below : Below W.heap.size W wr
set_option maxRecDepth 100000 in
set_option maxHeartbeats 4000000 in
theorem from_pos (a b h l z : Int) (jh : IsLo h) (jl : IsLo l) (hz : z = V a b) (hm : Lb.ab z = l + h * 18446744073709551616) (hn : (a < 0) = False) (ja : IsW (a, b)) (e1 : IntKind.u64.wrap a = h) (e2 : l = b) (w : World) :
    Calls Try.prog 44 #[.agg #[.int .i64 a, .int .u64 b]] w (NumPost w z) := by
  have IL0 := hide jl
  have IH := hide jh
  have IL := hide jl
  have hneg : decide (z < 0) = false := by
    obtain ⟨⟨_, _⟩, _, _⟩ := ja; unfold V at hz; simp only [eq_iff_iff, iff_true, iff_false] at hn; simp; omega
  have KM : ∀ (p : Option Addr) (c : Nat) (o : List Int) (w' : World), Limbs w' (.slice p o.length c) o → Ok o → o.length ≤ 1000 → val o = Lb.ab z → Calls Try.prog 45 #[.bool false, .slice p o.length c] w' (NumPost w' z) := by
    intro p c o w' H1 H2 H3 H4
    have := make2_spec false p c o w' H1 H2 H3
    rwa [H4, mkZ_same z _ hneg.symm] at this
  have HM := hide hm
  clear hm hz hneg
  subst e2
  have na : ¬ a < 0 := by simpa using hn
  go_enter Try.func44, Try.ntmps44
  go_wp2
  go_quiet (fail)
  go_wp2
  refine abs_wp (fun W => RBox W (w.heap.size + 1) ∧ Below w.heap.size w W) ?_ ?_
  · refine ⟨⟨?_, ?_, ?_, ?_, ?_, ?_⟩, ?_⟩
    all_goals first | (go_grown; done) | (exact shape_top _ _ _ _ (by simp)) | (simp [go_sem]; done) | (simp; done) | (simp; omega) | (exact below_drewN (by go_grown) _)
  rintro W ⟨RB0, BW⟩
  have RB := hide RB0
  have lt := RB0.lt
  clear RB0 ja jh jl hn
  go_loopw [3, 7] (fun v i wr => ∃ k : Nat, k ≤ 4 ∧ i = .int .i64 k ∧ FromAt W wr v (words k l)) (fun _ i _ => 4 - (intOf i).toNat)
  case atStart => exact ⟨0, by omega, rfl, ⟨World.ownsRow_nil _ _ _ _, Below.refl _ _⟩⟩
  case round =>
    obtain ⟨k, hk, rfl, AT0⟩ := hrel
    have AT := hide AT0
    clear AT0
    by_cases hg : k < 4
    · have e1 := append_words l IL.out k hg
      have sz := AT.out.below.size
      obtain ⟨t, ht⟩ : ∃ t, t = l / pw k % 65536 := ⟨_, rfl⟩
      rw [← ht] at e1
      have HT := hide ht
      clear ht
      have kb : 16 * (k : Int) < 64 := by omega
      obtain ⟨i0, hi0, hz0, hz1, hz2⟩ := info_parts info_u32
      have HI : Hid (Try.prog.info? 88 = some i0 ∧ i0.zero = some (.int .u32 0) ∧ i0.size = 1 ∧ i0.bytes = 4) := ⟨hi0, hz0, hz1, hz2⟩
      have le : (words k l).length ≤ 8 := by simp [words_len]; omega
      have km : (words k l).length + 1 ≤ maxLen := by unfold maxLen; omega
      have ex : 0 ≤ l := IL.out.a
      have ey : l < 18446744073709551616 := IL.out.b
      clear hi0 hz0 hz1 hz2
      go_wp2_with (at_builtin; go_loud (refine wpList_append_own _ rfl _ _ 55 rfl W.heap.size 88 i0 (.int .u32 0) 1 4 Try.underlying55 HI.out.1 HI.out.2.1 HI.out.2.2.1 HI.out.2.2.2 rfl (by decide) u3 _ ((words k l).map (Value.int .u32)) rfl (AT.out.own.alloc _) ⟨wr.heap.size, 0, none⟩ 1 1 [.int .u32 t] rfl rfl (cell_one_new _ _ _) one_u32 km (by omega) (by simp; omega) ?_); intro v' w1 hown' hgrow hnil)
      go_roundw
      case rel =>
        have L : words (k + 1) l = (words k l) ++ [t] := by rw [words_snoc k l, HT.out]; try rw [List.append_assoc]
        refine ⟨k + 1, by omega, by go_num, ⟨?_, (AT.out.below.alloc sz _).grown hgrow (by simp; omega) (fun j hj => (AT.out.own.lt j hj).1)⟩⟩
        rw [L, List.map_append, List.length_append]; exact hown'
      case measure => simp [intOf]; omega
    · obtain rfl : k = 4 := by omega
      have e4 : ((4 : Nat) : Int) = 4 := rfl
      rw [e4]
      clear e4
      go_wp2
      go_loopw [3, 8] (fun v i wr => ∃ k : Nat, k ≤ 4 ∧ i = .int .i64 k ∧ FromAt W wr v (words 4 l ++ words k h)) (fun _ i _ => 4 - (intOf i).toNat)
      case atStart => exact ⟨0, by omega, rfl, by simpa [words] using AT.out⟩
      case round =>
        obtain ⟨k, hk, rfl, AT0⟩ := hrel
        clear AT
        have AT := hide AT0
        clear AT0
        by_cases hg : k < 4
        · have e1 := append_words h IH.out k hg
          have sz := AT.out.below.size
          obtain ⟨t, ht⟩ : ∃ t, t = h / pw k % 65536 := ⟨_, rfl⟩
          rw [← ht] at e1
          have HT := hide ht
          clear ht
          have kb : 16 * (k : Int) < 64 := by omega
          obtain ⟨i0, hi0, hz0, hz1, hz2⟩ := info_parts info_u32
          have HI : Hid (Try.prog.info? 88 = some i0 ∧ i0.zero = some (.int .u32 0) ∧ i0.size = 1 ∧ i0.bytes = 4) := ⟨hi0, hz0, hz1, hz2⟩
          have le : (words 4 l ++ words k h).length ≤ 8 := by simp [words_len]; omega
          have km : (words 4 l ++ words k h).length + 1 ≤ maxLen := by unfold maxLen; omega
          have ex : 0 ≤ h := IH.out.a
          have ey : h < 18446744073709551616 := IH.out.b
          clear hi0 hz0 hz1 hz2
          go_wp2_with (at_builtin; go_loud (refine wpList_append_own _ rfl _ _ 55 rfl W.heap.size 88 i0 (.int .u32 0) 1 4 Try.underlying55 HI.out.1 HI.out.2.1 HI.out.2.2.1 HI.out.2.2.2 rfl (by decide) u3 _ ((words 4 l ++ words k h).map (Value.int .u32)) rfl (AT.out.own.alloc _) ⟨wr.heap.size, 0, none⟩ 1 1 [.int .u32 t] rfl rfl (cell_one_new _ _ _) one_u32 km (by omega) (by simp; omega) ?_); intro v' w1 hown' hgrow hnil)
          go_roundw
          case rel =>
            have L : words 4 l ++ words (k + 1) h = (words 4 l ++ words k h) ++ [t] := by rw [words_snoc k h, HT.out]; try rw [List.append_assoc]
            refine ⟨k + 1, by omega, by go_num, ⟨?_, (AT.out.below.alloc sz _).grown hgrow (by simp; omega) (fun j hj => (AT.out.own.lt j hj).1)⟩⟩
            rw [L, List.map_append, List.length_append]; exact hown'
          case measure => simp [intOf]; omega
        · obtain rfl : k = 4 := by omega
          have e4 : ((4 : Nat) : Int) = 4 := rfl
          rw [e4]
          clear e4
          have F := hide AT.out
          obtain ⟨LM, hn⟩ := Limbs.of_own F.out.own
          have LL : (words 4 l ++ words 4 h).length = 8 := by simp [words_len]
          obtain ⟨p, c, hv⟩ := LM.form
          have ho : Ok (words 4 l ++ words 4 h) := by
            intro x hx; rcases List.mem_append.1 hx with q | q
            · exact words_ok 4 l x q
            · exact words_ok 4 h x q
          have hvl : val (words 4 l ++ words 4 h) = Lb.ab z := by
            rw [val_append, words_val 4 l IL.out.a (by have := IL.out.b; simpa [pw] using this), words_val 4 h IH.out.a (by have := IH.out.b; simpa [pw] using this), words_len, HM.out]
            simp [pw]; omega
          have km := KM p c _ wr (by rw [← hv]; exact LM) ho (by omega) hvl
          rw [← hv] at km
          have KK := hide km
          have RR := hide (RB.out.later F.out.below (by omega))
          have BB := hide (BW.trans (F.out.below.mono BW.size))
          have lt2 := RR.out.lt
          clear LM hn LL hv ho hvl km KM AT F BW RB
          go_wp2_with fail
          refine KK.out.mono ?_
          rintro e w1 ⟨s', p', c', l', rfl, N', hb⟩
          have R2 := RR.out.later hb (by omega)
          have FF := hide (num_end N' (BB.out.trans (hb.mono BB.out.size)) R2.sh (by omega))
          obtain ⟨r0, r1, g0, g1, _, zz⟩ := R2
          clear N' hb KK
          go_wp2_with fail
          refine bodyPost_ret (by simp [results, Try.results44, go_sem, r0, r1, g0, g1, zz]; try rfl) rfl ?_
          exact FF.out _ _
set_option maxRecDepth 100000 in
set_option maxHeartbeats 4000000 in
theorem from_neg1 (a b h l z : Int) (jh : IsLo h) (jl : IsLo l) (hz : z = V a b) (hm : Lb.ab z = l + h * 18446744073709551616) (hn : (a < 0) = True) (ja : IsW (a, b)) (h0 p : Int) (e1 : IntKind.u64.wrap a = h0) (e3 : bits .xor .u64 IntKind.u64.max b = p) (e4 : IntKind.u64.wrap (p + 1) = l) (hl : (l == 0) = false) (e5 : bits .xor .u64 IntKind.u64.max h0 = h) (w : World) :
    Calls Try.prog 44 #[.agg #[.int .i64 a, .int .u64 b]] w (NumPost w z) := by
  have IL0 := hide jl
  have IH := hide jh
  have IL := hide jl
  have hneg : decide (z < 0) = true := by
    obtain ⟨⟨_, _⟩, _, _⟩ := ja; unfold V at hz; simp only [eq_iff_iff, iff_true, iff_false] at hn; simp; omega
  have KM : ∀ (p : Option Addr) (c : Nat) (o : List Int) (w' : World), Limbs w' (.slice p o.length c) o → Ok o → o.length ≤ 1000 → val o = Lb.ab z → Calls Try.prog 45 #[.bool true, .slice p o.length c] w' (NumPost w' z) := by
    intro p c o w' H1 H2 H3 H4
    have := make2_spec true p c o w' H1 H2 H3
    rwa [H4, mkZ_same z _ hneg.symm] at this
  have HM := hide hm
  clear hm hz hneg
  have na : a < 0 := by simpa using hn
  have e3' : bits .xor .u64 (if IntKind.u64.signed = true then -1 else IntKind.u64.max) b = p := e3
  have e5' : bits .xor .u64 (if IntKind.u64.signed = true then -1 else IntKind.u64.max) h0 = h := e5
  go_enter Try.func44, Try.ntmps44
  go_wp2
  go_quiet (fail)
  go_wp2
  refine abs_wp (fun W => RBox W (w.heap.size + 1) ∧ Below w.heap.size w W) ?_ ?_
  · refine ⟨⟨?_, ?_, ?_, ?_, ?_, ?_⟩, ?_⟩
    all_goals first | (go_grown; done) | (exact shape_top _ _ _ _ (by simp)) | (simp [go_sem]; done) | (simp; done) | (simp; omega) | (exact below_drewN (by go_grown) _)
  rintro W ⟨RB0, BW⟩
  have RB := hide RB0
  have lt := RB0.lt
  clear RB0 ja jh jl hn
  go_loopw [3, 7] (fun v i wr => ∃ k : Nat, k ≤ 4 ∧ i = .int .i64 k ∧ FromAt W wr v (words k l)) (fun _ i _ => 4 - (intOf i).toNat)
  case atStart => exact ⟨0, by omega, rfl, ⟨World.ownsRow_nil _ _ _ _, Below.refl _ _⟩⟩
  case round =>
    obtain ⟨k, hk, rfl, AT0⟩ := hrel
    have AT := hide AT0
    clear AT0
    by_cases hg : k < 4
    · have e1 := append_words l IL.out k hg
      have sz := AT.out.below.size
      obtain ⟨t, ht⟩ : ∃ t, t = l / pw k % 65536 := ⟨_, rfl⟩
      rw [← ht] at e1
      have HT := hide ht
      clear ht
      have kb : 16 * (k : Int) < 64 := by omega
      obtain ⟨i0, hi0, hz0, hz1, hz2⟩ := info_parts info_u32
      have HI : Hid (Try.prog.info? 88 = some i0 ∧ i0.zero = some (.int .u32 0) ∧ i0.size = 1 ∧ i0.bytes = 4) := ⟨hi0, hz0, hz1, hz2⟩
      have le : (words k l).length ≤ 8 := by simp [words_len]; omega
      have km : (words k l).length + 1 ≤ maxLen := by unfold maxLen; omega
      have ex : 0 ≤ l := IL.out.a
      have ey : l < 18446744073709551616 := IL.out.b
      clear hi0 hz0 hz1 hz2
      go_wp2_with (at_builtin; go_loud (refine wpList_append_own _ rfl _ _ 55 rfl W.heap.size 88 i0 (.int .u32 0) 1 4 Try.underlying55 HI.out.1 HI.out.2.1 HI.out.2.2.1 HI.out.2.2.2 rfl (by decide) u3 _ ((words k l).map (Value.int .u32)) rfl (AT.out.own.alloc _) ⟨wr.heap.size, 0, none⟩ 1 1 [.int .u32 t] rfl rfl (cell_one_new _ _ _) one_u32 km (by omega) (by simp; omega) ?_); intro v' w1 hown' hgrow hnil)
      go_roundw
      case rel =>
        have L : words (k + 1) l = (words k l) ++ [t] := by rw [words_snoc k l, HT.out]; try rw [List.append_assoc]
        refine ⟨k + 1, by omega, by go_num, ⟨?_, (AT.out.below.alloc sz _).grown hgrow (by simp; omega) (fun j hj => (AT.out.own.lt j hj).1)⟩⟩
        rw [L, List.map_append, List.length_append]; exact hown'
      case measure => simp [intOf]; omega
    · obtain rfl : k = 4 := by omega
      have e4 : ((4 : Nat) : Int) = 4 := rfl
      rw [e4]
      clear e4
      go_wp2
      go_loopw [3, 8] (fun v i wr => ∃ k : Nat, k ≤ 4 ∧ i = .int .i64 k ∧ FromAt W wr v (words 4 l ++ words k h)) (fun _ i _ => 4 - (intOf i).toNat)
      case atStart => exact ⟨0, by omega, rfl, by simpa [words] using AT.out⟩
      case round =>
        obtain ⟨k, hk, rfl, AT0⟩ := hrel
        clear AT
        have AT := hide AT0
        clear AT0
        by_cases hg : k < 4
        · have e1 := append_words h IH.out k hg
          have sz := AT.out.below.size
          obtain ⟨t, ht⟩ : ∃ t, t = h / pw k % 65536 := ⟨_, rfl⟩
          rw [← ht] at e1
          have HT := hide ht
          clear ht
          have kb : 16 * (k : Int) < 64 := by omega
          obtain ⟨i0, hi0, hz0, hz1, hz2⟩ := info_parts info_u32
          have HI : Hid (Try.prog.info? 88 = some i0 ∧ i0.zero = some (.int .u32 0) ∧ i0.size = 1 ∧ i0.bytes = 4) := ⟨hi0, hz0, hz1, hz2⟩
          have le : (words 4 l ++ words k h).length ≤ 8 := by simp [words_len]; omega
          have km : (words 4 l ++ words k h).length + 1 ≤ maxLen := by unfold maxLen; omega
          have ex : 0 ≤ h := IH.out.a
          have ey : h < 18446744073709551616 := IH.out.b
          clear hi0 hz0 hz1 hz2
          go_wp2_with (at_builtin; go_loud (refine wpList_append_own _ rfl _ _ 55 rfl W.heap.size 88 i0 (.int .u32 0) 1 4 Try.underlying55 HI.out.1 HI.out.2.1 HI.out.2.2.1 HI.out.2.2.2 rfl (by decide) u3 _ ((words 4 l ++ words k h).map (Value.int .u32)) rfl (AT.out.own.alloc _) ⟨wr.heap.size, 0, none⟩ 1 1 [.int .u32 t] rfl rfl (cell_one_new _ _ _) one_u32 km (by omega) (by simp; omega) ?_); intro v' w1 hown' hgrow hnil)
          go_roundw
          case rel =>
            have L : words 4 l ++ words (k + 1) h = (words 4 l ++ words k h) ++ [t] := by rw [words_snoc k h, HT.out]; try rw [List.append_assoc]
            refine ⟨k + 1, by omega, by go_num, ⟨?_, (AT.out.below.alloc sz _).grown hgrow (by simp; omega) (fun j hj => (AT.out.own.lt j hj).1)⟩⟩
            rw [L, List.map_append, List.length_append]; exact hown'
          case measure => simp [intOf]; omega
        · obtain rfl : k = 4 := by omega
          have e4 : ((4 : Nat) : Int) = 4 := rfl
          rw [e4]
          clear e4
          have F := hide AT.out
          obtain ⟨LM, hn⟩ := Limbs.of_own F.out.own
          have LL : (words 4 l ++ words 4 h).length = 8 := by simp [words_len]
          obtain ⟨p, c, hv⟩ := LM.form
          have ho : Ok (words 4 l ++ words 4 h) := by
            intro x hx; rcases List.mem_append.1 hx with q | q
            · exact words_ok 4 l x q
            · exact words_ok 4 h x q
          have hvl : val (words 4 l ++ words 4 h) = Lb.ab z := by
            rw [val_append, words_val 4 l IL.out.a (by have := IL.out.b; simpa [pw] using this), words_val 4 h IH.out.a (by have := IH.out.b; simpa [pw] using this), words_len, HM.out]
            simp [pw]; omega
          have km := KM p c _ wr (by rw [← hv]; exact LM) ho (by omega) hvl
          rw [← hv] at km
          have KK := hide km
          have RR := hide (RB.out.later F.out.below (by omega))
          have BB := hide (BW.trans (F.out.below.mono BW.size))
          have lt2 := RR.out.lt
          clear LM hn LL hv ho hvl km KM AT F BW RB
          go_wp2_with fail
          refine KK.out.mono ?_
          rintro e w1 ⟨s', p', c', l', rfl, N', hb⟩
          have R2 := RR.out.later hb (by omega)
          have FF := hide (num_end N' (BB.out.trans (hb.mono BB.out.size)) R2.sh (by omega))
          obtain ⟨r0, r1, g0, g1, _, zz⟩ := R2
          clear N' hb KK
          go_wp2_with fail
          refine bodyPost_ret (by simp [results, Try.results44, go_sem, r0, r1, g0, g1, zz]; try rfl) rfl ?_
          exact FF.out _ _
set_option maxRecDepth 100000 in
set_option maxHeartbeats 4000000 in
theorem from_neg2 (a b h l z : Int) (jh : IsLo h) (jl : IsLo l) (hz : z = V a b) (hm : Lb.ab z = l + h * 18446744073709551616) (hn : (a < 0) = True) (ja : IsW (a, b)) (h0 q : Int) (eb : b = 0) (e6 : IntKind.u64.wrap 18446744073709551616 = l) (hl : (l == 0) = true) (e1 : IntKind.u64.wrap a = h0) (e3 : bits .xor .u64 IntKind.u64.max 0 = 18446744073709551615) (e4 : IntKind.u64.wrap (q + 1) = h) (e5 : bits .xor .u64 IntKind.u64.max h0 = q) (w : World) :
    Calls Try.prog 44 #[.agg #[.int .i64 a, .int .u64 b]] w (NumPost w z) := by
  have IL0 := hide jl
  have IH := hide jh
  have IL := hide jl
  have hneg : decide (z < 0) = true := by
    obtain ⟨⟨_, _⟩, _, _⟩ := ja; unfold V at hz; simp only [eq_iff_iff, iff_true, iff_false] at hn; simp; omega
  have KM : ∀ (p : Option Addr) (c : Nat) (o : List Int) (w' : World), Limbs w' (.slice p o.length c) o → Ok o → o.length ≤ 1000 → val o = Lb.ab z → Calls Try.prog 45 #[.bool true, .slice p o.length c] w' (NumPost w' z) := by
    intro p c o w' H1 H2 H3 H4
    have := make2_spec true p c o w' H1 H2 H3
    rwa [H4, mkZ_same z _ hneg.symm] at this
  have HM := hide hm
  clear hm hz hneg
  have na : a < 0 := by simpa using hn
  subst eb
  have e3' : bits .xor .u64 (if IntKind.u64.signed = true then -1 else IntKind.u64.max) 0 = 18446744073709551615 := e3
  have e5' : bits .xor .u64 (if IntKind.u64.signed = true then -1 else IntKind.u64.max) h0 = q := e5
  go_enter Try.func44, Try.ntmps44
  go_wp2
  go_quiet (fail)
  go_wp2
  refine abs_wp (fun W => RBox W (w.heap.size + 1) ∧ Below w.heap.size w W) ?_ ?_
  · refine ⟨⟨?_, ?_, ?_, ?_, ?_, ?_⟩, ?_⟩
    all_goals first | (go_grown; done) | (exact shape_top _ _ _ _ (by simp)) | (simp [go_sem]; done) | (simp; done) | (simp; omega) | (exact below_drewN (by go_grown) _)
  rintro W ⟨RB0, BW⟩
  have RB := hide RB0
  have lt := RB0.lt
  clear RB0 ja jh jl hn
  go_loopw [3, 7] (fun v i wr => ∃ k : Nat, k ≤ 4 ∧ i = .int .i64 k ∧ FromAt W wr v (words k l)) (fun _ i _ => 4 - (intOf i).toNat)
  case atStart => exact ⟨0, by omega, rfl, ⟨World.ownsRow_nil _ _ _ _, Below.refl _ _⟩⟩
  case round =>
    obtain ⟨k, hk, rfl, AT0⟩ := hrel
    have AT := hide AT0
    clear AT0
    by_cases hg : k < 4
    · have e1 := append_words l IL.out k hg
      have sz := AT.out.below.size
      obtain ⟨t, ht⟩ : ∃ t, t = l / pw k % 65536 := ⟨_, rfl⟩
      rw [← ht] at e1
      have HT := hide ht
      clear ht
      have kb : 16 * (k : Int) < 64 := by omega
      obtain ⟨i0, hi0, hz0, hz1, hz2⟩ := info_parts info_u32
      have HI : Hid (Try.prog.info? 88 = some i0 ∧ i0.zero = some (.int .u32 0) ∧ i0.size = 1 ∧ i0.bytes = 4) := ⟨hi0, hz0, hz1, hz2⟩
      have le : (words k l).length ≤ 8 := by simp [words_len]; omega
      have km : (words k l).length + 1 ≤ maxLen := by unfold maxLen; omega
      have ex : 0 ≤ l := IL.out.a
      have ey : l < 18446744073709551616 := IL.out.b
      clear hi0 hz0 hz1 hz2
      go_wp2_with (at_builtin; go_loud (refine wpList_append_own _ rfl _ _ 55 rfl W.heap.size 88 i0 (.int .u32 0) 1 4 Try.underlying55 HI.out.1 HI.out.2.1 HI.out.2.2.1 HI.out.2.2.2 rfl (by decide) u3 _ ((words k l).map (Value.int .u32)) rfl (AT.out.own.alloc _) ⟨wr.heap.size, 0, none⟩ 1 1 [.int .u32 t] rfl rfl (cell_one_new _ _ _) one_u32 km (by omega) (by simp; omega) ?_); intro v' w1 hown' hgrow hnil)
      go_roundw
      case rel =>
        have L : words (k + 1) l = (words k l) ++ [t] := by rw [words_snoc k l, HT.out]; try rw [List.append_assoc]
        refine ⟨k + 1, by omega, by go_num, ⟨?_, (AT.out.below.alloc sz _).grown hgrow (by simp; omega) (fun j hj => (AT.out.own.lt j hj).1)⟩⟩
        rw [L, List.map_append, List.length_append]; exact hown'
      case measure => simp [intOf]; omega
    · obtain rfl : k = 4 := by omega
      have e4 : ((4 : Nat) : Int) = 4 := rfl
      rw [e4]
      clear e4
      go_wp2
      go_loopw [3, 8] (fun v i wr => ∃ k : Nat, k ≤ 4 ∧ i = .int .i64 k ∧ FromAt W wr v (words 4 l ++ words k h)) (fun _ i _ => 4 - (intOf i).toNat)
      case atStart => exact ⟨0, by omega, rfl, by simpa [words] using AT.out⟩
      case round =>
        obtain ⟨k, hk, rfl, AT0⟩ := hrel
        clear AT
        have AT := hide AT0
        clear AT0
        by_cases hg : k < 4
        · have e1 := append_words h IH.out k hg
          have sz := AT.out.below.size
          obtain ⟨t, ht⟩ : ∃ t, t = h / pw k % 65536 := ⟨_, rfl⟩
          rw [← ht] at e1
          have HT := hide ht
          clear ht
          have kb : 16 * (k : Int) < 64 := by omega
          obtain ⟨i0, hi0, hz0, hz1, hz2⟩ := info_parts info_u32
          have HI : Hid (Try.prog.info? 88 = some i0 ∧ i0.zero = some (.int .u32 0) ∧ i0.size = 1 ∧ i0.bytes = 4) := ⟨hi0, hz0, hz1, hz2⟩
          have le : (words 4 l ++ words k h).length ≤ 8 := by simp [words_len]; omega
          have km : (words 4 l ++ words k h).length + 1 ≤ maxLen := by unfold maxLen; omega
          have ex : 0 ≤ h := IH.out.a
          have ey : h < 18446744073709551616 := IH.out.b
          clear hi0 hz0 hz1 hz2
          go_wp2_with (at_builtin; go_loud (refine wpList_append_own _ rfl _ _ 55 rfl W.heap.size 88 i0 (.int .u32 0) 1 4 Try.underlying55 HI.out.1 HI.out.2.1 HI.out.2.2.1 HI.out.2.2.2 rfl (by decide) u3 _ ((words 4 l ++ words k h).map (Value.int .u32)) rfl (AT.out.own.alloc _) ⟨wr.heap.size, 0, none⟩ 1 1 [.int .u32 t] rfl rfl (cell_one_new _ _ _) one_u32 km (by omega) (by simp; omega) ?_); intro v' w1 hown' hgrow hnil)
          go_roundw
          case rel =>
            have L : words 4 l ++ words (k + 1) h = (words 4 l ++ words k h) ++ [t] := by rw [words_snoc k h, HT.out]; try rw [List.append_assoc]
            refine ⟨k + 1, by omega, by go_num, ⟨?_, (AT.out.below.alloc sz _).grown hgrow (by simp; omega) (fun j hj => (AT.out.own.lt j hj).1)⟩⟩
            rw [L, List.map_append, List.length_append]; exact hown'
          case measure => simp [intOf]; omega
        · obtain rfl : k = 4 := by omega
          have e4 : ((4 : Nat) : Int) = 4 := rfl
          rw [e4]
          clear e4
          have F := hide AT.out
          obtain ⟨LM, hn⟩ := Limbs.of_own F.out.own
          have LL : (words 4 l ++ words 4 h).length = 8 := by simp [words_len]
          obtain ⟨p, c, hv⟩ := LM.form
          have ho : Ok (words 4 l ++ words 4 h) := by
            intro x hx; rcases List.mem_append.1 hx with q | q
            · exact words_ok 4 l x q
            · exact words_ok 4 h x q
          have hvl : val (words 4 l ++ words 4 h) = Lb.ab z := by
            rw [val_append, words_val 4 l IL.out.a (by have := IL.out.b; simpa [pw] using this), words_val 4 h IH.out.a (by have := IH.out.b; simpa [pw] using this), words_len, HM.out]
            simp [pw]; omega
          have km := KM p c _ wr (by rw [← hv]; exact LM) ho (by omega) hvl
          rw [← hv] at km
          have KK := hide km
          have RR := hide (RB.out.later F.out.below (by omega))
          have BB := hide (BW.trans (F.out.below.mono BW.size))
          have lt2 := RR.out.lt
          clear LM hn LL hv ho hvl km KM AT F BW RB
          go_wp2_with fail
          refine KK.out.mono ?_
          rintro e w1 ⟨s', p', c', l', rfl, N', hb⟩
          have R2 := RR.out.later hb (by omega)
          have FF := hide (num_end N' (BB.out.trans (hb.mono BB.out.size)) R2.sh (by omega))
          obtain ⟨r0, r1, g0, g1, _, zz⟩ := R2
          clear N' hb KK
          go_wp2_with fail
          refine bodyPost_ret (by simp [results, Try.results44, go_sem, r0, r1, g0, g1, zz]; try rfl) rfl ?_
          exact FF.out _ _
theorem from_spec (a b : Int) (ja : IsW (a, b)) (w : World) :
    Calls Try.prog 44 #[.agg #[.int .i64 a, .int .u64 b]] w (NumPost w (V a b)) := by
  have ia := ja.a
  have ib := ja.b
  obtain ⟨a1, a2⟩ := ia
  obtain ⟨b1, b2⟩ := ib
  have e1 : IntKind.u64.wrap a = u a := by rw [IntKind.wrap_u64]; rfl
  have iu := isLo_u a
  by_cases n : a < 0
  · have e5 := xor_u64 (u a) iu
    have e3 := xor_u64 b ja.b
    by_cases z : b = 0
    · subst z
      refine from_neg2 a 0 (-(u a) + 18446744073709551616) 0 (V a 0) ⟨?_, ?_⟩ isLo_0 rfl ?_ (by simp [n]) ja (u a) (-(u a) - 1 + 18446744073709551616) rfl (by decide) rfl e1 (by rw [e3]; rfl) (by rw [IntKind.wrap_u64]; unfold u; omega) e5 w
      all_goals (unfold u; (try unfold Lb.ab V); (try (rw [if_pos (by omega)])); omega)
    · refine from_neg1 a b (-(u a) - 1 + 18446744073709551616) (-b + 18446744073709551616) (V a b) ⟨?_, ?_⟩ ⟨by omega, by omega⟩ rfl ?_ (by simp [n]) ja (u a) (-b - 1 + 18446744073709551616) e1 e3 (by rw [IntKind.wrap_u64]; omega) (by simp; omega) e5 w
      all_goals (unfold u; (try unfold Lb.ab V); (try (rw [if_pos (by omega)])); omega)
  · refine from_pos a b (u a) b (V a b) iu ja.b rfl ?_ (by simp [n]) ja e1 rfl w
    unfold Lb.ab V u; rw [if_neg (by omega)]; omega
end Go.Proofs.Ythcgkpmlfbjagaa
