/- wire: Stream.keep. (gen_skeep.py) -/
import Derived.Test.YthaphijkfedihaaSk
namespace Go.Proofs.Ythaphijkfedihaa
set_option linter.unusedVariables false
set_option linter.unusedSimpArgs false
open Go.RowKit W
theorem Chg.mono_ {S S' : Nat → Prop} {a b : World} (h : Chg S a b) (f : ∀ k, S k → S' k) : Chg S' a b := ⟨h.os, h.tape, h.output, h.size, fun k hk q => h.block k hk (fun s => q (f k s))⟩
theorem ne_bytes {B g lim : Nat} {w : World} {v : Value} {t c : List UInt8} {lost : Int} (h : SkV B w g lim v t lost) {b o : Nat} (hp : 0 < c.length)
    (bc : ∀ j (hj : j < c.length), w.cell? ⟨b, o + j, none⟩ = some (.int .u8 ((c[j]'hj).toNat : Int))) : b ≠ g := by
  rintro rfl
  have := bc 0 hp
  rw [World.cell?, h.blk] at this
  rcases o with _ | _ | _ | _ | _ | o
  · simp at this
  · simp at this
  · obtain ⟨A, c0, rfl, _⟩ := own_form h.own
    simp at this
  · simp at this
  · simp at this
  · simp at this
theorem keep_mk {B g lim : Nat} {w w1 w9 : World} {v v9 : Value} {t t' : List UInt8} {lost : Int} {bm : Bool} (h : SkV B w g lim v t lost)
    (hb : w1.heap[g]? = some (.cells #[.pointer (some ⟨g, 0, none⟩), .int .i64 lim, v, .bool bm, .int .i64 lost] 65 (0, 0))) (c1 : Chg (· = g) w w1) (hbm : bm = decide (lim + 1 < t'.length)) (hg : w1.grownBy w9 v.ownBlock)
    (ho : w9.ownsRow B 5 1 v9 (t'.take (lim + 1)).length (rowB (t'.take (lim + 1)))) (hv : v9.ownBlock = v.ownBlock ∨ v9.ownBlock = some w1.heap.size) :
    KeepPost B g lim v t' lost w (.returned (.tuple #[])) (w9.setCell ⟨g, 2, none⟩ v9) := by
  have ne := h.apart
  have h9 : w9.heap[g]? = w1.heap[g]? := hg.block g (blk_lt hb) (fun e => ne e.symm)
  have ne9 : ∀ k, v9.ownBlock = some k → k ≠ g := by
    rintro k hk rfl
    obtain ⟨_, cs, hc⟩ := own_blk ho hk
    rw [h9, hb] at hc
    injection hc with hc
    injection hc with _ hc
    exact absurd hc (by decide)
  refine ⟨rfl, v9, ⟨?_, ?_, h.le⟩, ?_, ?_⟩
  · rw [hbm] at hb
    simp [World.setCell, Array.getElem?_modify, h9, hb]
  · exact chg_row ho (Chg.set (S := (· = g)) v9 rfl) (fun k hk => ne9 k hk)
  · refine Chg.trans (Chg.trans (S := Sg g v) (c1.trans (Chg.refl _ _) (fun _ _ q => q) |>.mono_ (fun k q => .inl q)) (Chg.grown (S := Sg g v) hg (fun k q => .inr q)) (fun _ _ q => q)) (Chg.set (S := Sg g v) v9 (.inl rfl)) (fun _ _ q => q)
  · rcases hv with e | e
    · exact .inl e
    · refine .inr (fun k hk => ?_)
      rw [e] at hk
      injection hk with hk
      have := c1.size
      omega
theorem row_cells {w w' : World} {b o : Nat} {c : List UInt8} (r : Nat) (bc : ∀ j (hj : j < c.length), w.cell? ⟨b, o + j, none⟩ = some (.int .u8 ((c[j]'hj).toNat : Int))) (e : w'.heap[b]? = w.heap[b]?) (j : Nat) (u : Value)
    (hu : (rowB (c.take r))[j]? = some u) : w'.cell? (Addr.add ⟨b, o, none⟩ j) = some u := by
  rw [rowB, List.getElem?_map, List.getElem?_take] at hu
  split at hu
  · rw [Option.map_eq_some_iff] at hu
    obtain ⟨x, hx, rfl⟩ := hu
    obtain ⟨hj, rfl⟩ := List.getElem?_eq_some_iff.1 hx
    rw [Go.WideShapes.add_plain, ← bc j hj, World.cell?, World.cell?, e]
  · cases hu
theorem take_cut {t c : List UInt8} {k : Nat} (h : k - (t.take k).length < c.length) : t.take k ++ c.take (k - (t.take k).length) = (t ++ c).take k ∧ k < (t ++ c).length := by
  rw [List.length_take] at *
  rw [List.take_append, List.length_append]
  by_cases q : t.length ≤ k
  · rw [Nat.min_eq_right q] at *
    exact ⟨rfl, by omega⟩
  · rw [Nat.min_eq_left (by omega)] at *
    rw [Nat.sub_self, show k - t.length = 0 by omega]
    exact ⟨rfl, by omega⟩
theorem take_fit {t c : List UInt8} {k : Nat} (h : ¬ k - (t.take k).length < c.length) : t.take k ++ c = (t ++ c).take k ∧ (k < t.length ↔ k < (t ++ c).length) := by
  rw [List.length_take] at *
  rw [List.take_append, List.length_append]
  by_cases q : t.length ≤ k
  · rw [Nat.min_eq_right q] at *
    exact ⟨by rw [List.take_of_length_le (l := c) (by omega)], by omega⟩
  · rw [Nat.min_eq_left (by omega)] at *
    have z : c = [] := List.eq_nil_of_length_eq_zero (by omega)
    subst z
    exact ⟨by simp, by simp⟩
set_option maxRecDepth 100000 in
set_option maxHeartbeats 8000000 in
theorem keep_cut (B g lim : Nat) (v : Value) (t c : List UInt8) (lost : Int) (a : Option Addr) (cap : Nat) (w : World) (h : SkV B w g lim v t lost) (hl : lim ≤ 1024) (hB : B ≤ w.heap.size) (hc : c.length ≤ 4000000000000) (hcap : c.length ≤ cap) (ib : IsBytes w a c)
    (big : lim + 1 - (t.take (lim + 1)).length < c.length) : Calls Try.prog 31 #[.pointer (some ⟨g, 0, none⟩), .slice a c.length cap] w (KeepPost B g lim v (t ++ c) lost w) := by
  obtain ⟨TC1, TC2⟩ := take_cut big
  have T1 := hide TC1
  have T2 := hide TC2
  obtain ⟨A, cap0, rfl, hc0, hn0⟩ := own_form h.own
  obtain ⟨c0, c1, c2, c3, c4, fz, lt⟩ := h.cell
  have f2 := fz 2
  have f3 := fz 3
  obtain ⟨b, o, rfl, bl, bc⟩ := ib.resolve_left (by intro e; rw [e] at big; simp at big)
  have BC := hide bc
  have BL := hide bl
  obtain ⟨n, hn⟩ : ∃ n, n = (t.take (lim + 1)).length := ⟨_, rfl⟩
  have nl : n ≤ lim + 1 := by rw [hn, List.length_take]; omega
  obtain ⟨r, hr⟩ : ∃ r, r = lim + 1 - n := ⟨_, rfl⟩
  obtain ⟨m, hm⟩ : ∃ m, m = c.length := ⟨_, rfl⟩
  have NN := hide hn
  have RR := hide hr
  have MM := hide hm
  have rm : r < m := by rw [hr, hm, hn]; exact big
  have sl : ∀ v, (Instr.slice 35 (.slice (some ⟨b, o, none⟩) m cap) none (some (.int .i64 (r : Int))) (some (.int .i64 (r : Int)))).run Try.prog v = .ok (.slice (some ⟨b, o, none⟩) r r) v := by
    have := (bytes_upto (w := w) (a := some ⟨b, o, none⟩) (l := c) (.inr ⟨b, o, rfl, bl, bc⟩) cap r (by omega) hcap).1
    rw [← hm] at this; exact this
  rw [← hm] at hc hcap ⊢
  rw [← hn] at c2 hc0 hn0 h ⊢
  have PK := hide h
  have e1 : IntKind.i64.wrap ((lim : Int) + 1) = (lim : Int) + 1 := by rw [IntKind.wrap_i64]; omega
  have e2 : IntKind.i64.wrap ((lim : Int) + 1 - (n : Int)) = (r : Int) := by rw [IntKind.wrap_i64]; omega
  have rl : r ≤ 1025 := by omega
  have HB := hide hB
  obtain ⟨i0, hi0, hz0, hz1, hz2⟩ := info_parts info_u8
  have HI : Hid (Try.prog.info? 5 = some i0 ∧ i0.zero = some (.int .u8 0) ∧ i0.size = 1 ∧ i0.bytes = 1) := ⟨hi0, hz0, hz1, hz2⟩
  have NEB : Hid (b ≠ g) := ne_bytes h (by omega) bc
  clear hi0 hz0 hz1 hz2 TC1 TC2 h big ib bc hn hr hm hB fz c0 c4
  have O1 : Hid (∀ W, Chg (· = g) w W → World.ownsRow W B 5 1 (.slice A n cap0) n (rowB (t.take (lim + 1)))) := by
    intro W cw
    have := chg_row PK.out.own cw (fun k hk e => PK.out.apart (by rw [hk, e]))
    rw [← NN.out] at this
    exact this
  have W1 : ∀ q, Hid (Chg (· = g) w ((w.drewN q).setCell ⟨g, 3, none⟩ (.bool true))) := fun q => (Chg.of_below (below_drewN (Below.refl _ _) q)).trans (Chg.set (S := (· = g)) _ rfl) (fun _ _ q => q)
  have H1 : ∀ q, Hid (((w.drewN q).setCell ⟨g, 3, none⟩ (.bool true)).heap[g]? = some (.cells #[.pointer (some ⟨g, 0, none⟩), .int .i64 lim, .slice A n cap0, .bool true, .int .i64 lost] 65 (0, 0))) := by
    intro q
    have hb := PK.out.blk
    show _ = _
    simp [World.setCell, Array.getElem?_modify, World.drewN, hb]
  go_enter Try.func31, Try.ntmps31
  go_wp2_with fail
  go_quiet (fail)
  go_wp2_with (
    at_builtin
    refine wpList_append_own_at _ rfl _ _ 35 rfl B 5 i0 (.int .u8 0) 1 1 Try.underlying35 HI.out.1 HI.out.2.1 HI.out.2.2.1 HI.out.2.2.2 ?a1 ?a2 (.slice A n cap0) n (rowB (t.take (lim + 1))) ?a3 ?a4 ⟨b, o, none⟩ r r (rowB (c.take r)) ?a5 ?a6 ?a7 ?a8 ?a9 ?b1 ?b2 ?_
    case a1 => rfl
    case a2 => decide
    case a3 => rfl
    case a4 => exact O1.out _ (W1 _).out
    case a5 => rfl
    case a6 => rw [rowB_len, Nat.mul_one]; rw [List.length_take]; have := MM.out; omega
    case a7 =>
      exact row_cells r BC.out ((W1 _).out.block b BL.out NEB.out)
    case a8 => exact rowB_one _
    case a9 => unfold maxLen; omega
    case b1 => omega
    case b2 => (have := HB.out; simpa using this)
    intro v9 w9 hown9 hgrow9 hnil9 hv9
    have KM := hide (keep_mk (t' := t ++ c) PK.out (H1 _).out (W1 _).out (by rw [decide_eq_true T2.out]) hgrow9 (by rw [← T1.out, List.length_append, rowB_app, ← NN.out, List.length_take, Nat.min_eq_left (by have := RR.out; have := MM.out; omega), ← RR.out]; exact hown9) hv9)
    obtain ⟨A9, c9, rfl, _, _⟩ := own_form hown9
    have G9 : w9.heap[g]? = _ := (hgrow9.block g (blk_lt (H1 _).out) PK.out.apart.symm).trans (H1 _).out
    have p1 : w9.cell? ⟨g, 2, none⟩ = some (.slice A n cap0) := by simp [World.cell?, G9]
    have p2 : w9.frozen? ⟨g, 2, none⟩ = false := by simp [World.frozen?, G9]
    clear hown9 hgrow9 hnil9 hv9 G9)
  refine bodyPost_ret (by simp [results, Try.results31, go_sem]; try rfl) rfl ?_
  exact KM.out
theorem row_all {B g lim : Nat} {w : World} {v : Value} {t c : List UInt8} {lost : Int} {ad : Addr} (h : SkV B w g lim v t lost) (ib : IsBytes w (some ad) c) (W : World) (cw : Chg (· = g) w W) (j : Nat) (u : Value) (hu : (rowB c)[j]? = some u) : W.cell? (ad.add j) = some u := by
  rcases ib with rfl | ⟨b, o, e, bl, bc⟩
  · simp [rowB] at hu
  · injection e with e
    subst e
    by_cases z : 0 < c.length
    · exact row_cells (w := w) c.length bc (cw.block b bl (ne_bytes h z bc)) j u (by rw [List.take_length]; exact hu)
    · rw [List.eq_nil_of_length_eq_zero (l := c) (by omega)] at hu
      simp [rowB] at hu
set_option maxRecDepth 100000 in
set_option maxHeartbeats 8000000 in
theorem keep_fit (B g lim : Nat) (v : Value) (t c : List UInt8) (lost : Int) (ad : Addr) (w : World) (h : SkV B w g lim v t lost) (hl : lim ≤ 1024) (hB : B ≤ w.heap.size) (hc : c.length ≤ 4000000000000) (ib : IsBytes w (some ad) c)
    (big : ¬ lim + 1 - (t.take (lim + 1)).length < c.length) : Calls Try.prog 31 #[.pointer (some ⟨g, 0, none⟩), .slice (some ad) c.length c.length] w (KeepPost B g lim v (t ++ c) lost w) := by
  have RA := fun W (cw : Chg (· = g) w W) => row_all h ib W cw
  obtain ⟨TC1, TC2⟩ := take_fit big
  have T1 := hide TC1
  have T2 := hide TC2
  obtain ⟨A, cap0, rfl, hc0, hn0⟩ := own_form h.own
  obtain ⟨c0, c1, c2, c3, c4, fz, lt⟩ := h.cell
  have f2 := fz 2
  obtain ⟨n, hn⟩ : ∃ n, n = (t.take (lim + 1)).length := ⟨_, rfl⟩
  have nl : n ≤ lim + 1 := by rw [hn, List.length_take]; omega
  obtain ⟨r, hr⟩ : ∃ r, r = lim + 1 - n := ⟨_, rfl⟩
  obtain ⟨m, hm⟩ : ∃ m, m = c.length := ⟨_, rfl⟩
  have NN := hide hn
  have MM := hide hm
  have rm : ¬ r < m := by rw [hr, hm, hn]; exact big
  rw [← hm]
  rw [← hn] at c2 hc0 hn0 h ⊢
  have PK := hide h
  have mr : m ≤ 1025 := by omega
  have e1 : IntKind.i64.wrap ((lim : Int) + 1) = (lim : Int) + 1 := by rw [IntKind.wrap_i64]; omega
  have e2 : IntKind.i64.wrap ((lim : Int) + 1 - (n : Int)) = (r : Int) := by rw [IntKind.wrap_i64]; omega
  have rl : r ≤ 1025 := by omega
  have HB := hide hB
  obtain ⟨i0, hi0, hz0, hz1, hz2⟩ := info_parts info_u8
  have HI : Hid (Try.prog.info? 5 = some i0 ∧ i0.zero = some (.int .u8 0) ∧ i0.size = 1 ∧ i0.bytes = 1) := ⟨hi0, hz0, hz1, hz2⟩
  have O1 : Hid (∀ W, Chg (· = g) w W → World.ownsRow W B 5 1 (.slice A n cap0) n (rowB (t.take (lim + 1)))) := by
    intro W cw
    have := chg_row PK.out.own cw (fun k hk e => PK.out.apart (by rw [hk, e]))
    rw [← NN.out] at this
    exact this
  have W1 : ∀ q, Hid (Chg (· = g) w (w.drewN q)) := fun q => Chg.of_below (below_drewN (Below.refl _ _) q)
  have H1 : ∀ q, Hid ((w.drewN q).heap[g]? = some (.cells #[.pointer (some ⟨g, 0, none⟩), .int .i64 lim, .slice A n cap0, .bool (decide (lim + 1 < t.length)), .int .i64 lost] 65 (0, 0))) := fun q => PK.out.blk
  have DD : Hid (decide (lim + 1 < t.length) = decide (lim + 1 < (t ++ c).length)) := by show _ = _; simp only [T2.out]
  have RA := hide RA
  clear ib
  clear hi0 hz0 hz1 hz2 TC1 TC2 h big hn hr hm hB fz c0 c4
  go_enter Try.func31, Try.ntmps31
  go_wp2_with fail
  go_quiet (fail)
  go_wp2_with (
    at_builtin
    refine wpList_append_own_at _ rfl _ _ 35 rfl B 5 i0 (.int .u8 0) 1 1 Try.underlying35 HI.out.1 HI.out.2.1 HI.out.2.2.1 HI.out.2.2.2 ?a1 ?a2 (.slice A n cap0) n (rowB (t.take (lim + 1))) ?a3 ?a4 ad m m (rowB c) ?a5 ?a6 ?a7 ?a8 ?a9 ?b1 ?b2 ?_
    case a1 => rfl
    case a2 => decide
    case a3 => rfl
    case a4 => exact O1.out _ (W1 _).out
    case a5 => rfl
    case a6 => rw [rowB_len, Nat.mul_one]; exact MM.out.symm
    case a7 =>
      exact RA.out _ (W1 _).out
    case a8 => exact rowB_one _
    case a9 => unfold maxLen; omega
    case b1 => omega
    case b2 => (have := HB.out; simpa using this)
    intro v9 w9 hown9 hgrow9 hnil9 hv9
    have KM := hide (keep_mk (t' := t ++ c) PK.out (H1 _).out (W1 _).out DD.out hgrow9 (by rw [← T1.out, List.length_append, rowB_app, ← NN.out, ← MM.out]; exact hown9) hv9)
    obtain ⟨A9, c9, rfl, _, _⟩ := own_form hown9
    have G9 : w9.heap[g]? = _ := (hgrow9.block g (blk_lt (H1 _).out) PK.out.apart.symm).trans (H1 _).out
    have p1 : w9.cell? ⟨g, 2, none⟩ = some (.slice A n cap0) := by simp [World.cell?, G9]
    have p2 : w9.frozen? ⟨g, 2, none⟩ = false := by simp [World.frozen?, G9]
    clear hown9 hgrow9 hnil9 hv9 G9)
  refine bodyPost_ret (by simp [results, Try.results31, go_sem]; try rfl) rfl ?_
  exact KM.out
set_option maxRecDepth 100000 in
set_option maxHeartbeats 8000000 in
theorem keep_none (B g lim : Nat) (v : Value) (t c : List UInt8) (lost : Int) (w : World) (h : SkV B w g lim v t lost) (hl : lim ≤ 1024) (hB : B ≤ w.heap.size) (hc : c.length ≤ 4000000000000) (ce : c = [])
    (big : ¬ lim + 1 - (t.take (lim + 1)).length < c.length) : Calls Try.prog 31 #[.pointer (some ⟨g, 0, none⟩), .slice none 0 0] w (KeepPost B g lim v (t ++ c) lost w) := by
  obtain ⟨TC1, TC2⟩ := take_fit big
  have T1 := hide TC1
  have T2 := hide TC2
  obtain ⟨A, cap0, rfl, hc0, hn0⟩ := own_form h.own
  obtain ⟨c0, c1, c2, c3, c4, fz, lt⟩ := h.cell
  have f2 := fz 2
  obtain ⟨n, hn⟩ : ∃ n, n = (t.take (lim + 1)).length := ⟨_, rfl⟩
  have nl : n ≤ lim + 1 := by rw [hn, List.length_take]; omega
  obtain ⟨r, hr⟩ : ∃ r, r = lim + 1 - n := ⟨_, rfl⟩
  obtain ⟨m, hm⟩ : ∃ m, m = c.length := ⟨_, rfl⟩
  have NN := hide hn
  subst ce
  have MM := hide hm
  have rm : ¬ r < 0 := by omega
  rw [← hn] at c2 hc0 hn0 h ⊢
  have PK := hide h
  have e1 : IntKind.i64.wrap ((lim : Int) + 1) = (lim : Int) + 1 := by rw [IntKind.wrap_i64]; omega
  have e2 : IntKind.i64.wrap ((lim : Int) + 1 - (n : Int)) = (r : Int) := by rw [IntKind.wrap_i64]; omega
  have rl : r ≤ 1025 := by omega
  have HB := hide hB
  obtain ⟨i0, hi0, hz0, hz1, hz2⟩ := info_parts info_u8
  have HI : Hid (Try.prog.info? 5 = some i0 ∧ i0.zero = some (.int .u8 0) ∧ i0.size = 1 ∧ i0.bytes = 1) := ⟨hi0, hz0, hz1, hz2⟩
  have O1 : Hid (∀ W, Chg (· = g) w W → World.ownsRow W B 5 1 (.slice A n cap0) n (rowB (t.take (lim + 1)))) := by
    intro W cw
    have := chg_row PK.out.own cw (fun k hk e => PK.out.apart (by rw [hk, e]))
    rw [← NN.out] at this
    exact this
  have W1 : ∀ q, Hid (Chg (· = g) w (w.drewN q)) := fun q => Chg.of_below (below_drewN (Below.refl _ _) q)
  have H1 : ∀ q, Hid ((w.drewN q).heap[g]? = some (.cells #[.pointer (some ⟨g, 0, none⟩), .int .i64 lim, .slice A n cap0, .bool (decide (lim + 1 < t.length)), .int .i64 lost] 65 (0, 0))) := fun q => PK.out.blk
  have DD : Hid (decide (lim + 1 < t.length) = decide (lim + 1 < (t ++ []).length)) := by show _ = _; simp only [T2.out]
  clear hi0 hz0 hz1 hz2 TC1 TC2 h big hn hr hm hB fz c0 c4
  go_enter Try.func31, Try.ntmps31
  go_wp2_with fail
  go_quiet (fail)
  go_wp2_with (
    at_builtin
    refine wpList_append_own_none rfl _ _ 35 rfl B 5 i0 1 Try.underlying35 HI.out.1 (.slice A n cap0) n (rowB (t.take (lim + 1))) rfl (O1.out _ (W1 _).out) rfl ?_)
  refine bodyPost_ret (by simp [results, Try.results31, go_sem]; try rfl) rfl ?_
  exact keep_mk (t' := t ++ []) PK.out (H1 _).out (W1 _).out DD.out (World.grownBy.refl _ _) (by rw [List.append_nil, ← NN.out]; exact O1.out _ (W1 _).out) (.inl rfl)
theorem keep_spec (B g lim : Nat) (v : Value) (t c : List UInt8) (lost : Int) (a : Option Addr) (w : World) (h : SkV B w g lim v t lost) (hl : lim ≤ 1024) (hB : B ≤ w.heap.size) (hc : c.length ≤ 4000000000000) (ib : IsBytes w a c) :
    Calls Try.prog 31 #[.pointer (some ⟨g, 0, none⟩), .slice a c.length c.length] w (KeepPost B g lim v (t ++ c) lost w) := by
  by_cases big : lim + 1 - (t.take (lim + 1)).length < c.length
  · exact keep_cut B g lim v t c lost a c.length w h hl hB hc (Nat.le_refl _) ib big
  cases a with
  | some ad => exact keep_fit B g lim v t c lost ad w h hl hB hc ib big
  | none =>
    rcases ib with rfl | ⟨b, o, e, _⟩
    · exact keep_none B g lim v t [] lost w h hl hB hc rfl big
    · cases e
end Go.Proofs.Ythaphijkfedihaa
