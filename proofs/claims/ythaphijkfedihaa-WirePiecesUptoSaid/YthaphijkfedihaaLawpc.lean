/- WirePieces: the law's walk. (gen_lawpc.py) -/
import Derived.Test.YthaphijkfedihaaS3
import Derived.Test.YthaphijkfedihaaPieces
import Derived.Deep.DeepCutAuto
namespace Go.Proofs.Ythaphijkfedihaa
set_option linter.unusedVariables false
set_option linter.unusedSimpArgs false
open Go.RowKit W
theorem txts_of_lists2 (xs : List (List UInt8)) : ∃ ps : List ByteArray, ps.map lst = xs := by
  induction xs with
  | nil => exact ⟨[], rfl⟩
  | cons x r ih =>
    obtain ⟨ps, h⟩ := ih
    exact ⟨⟨x.toArray⟩ :: ps, by rw [List.map_cons, h]; simp [lst]⟩
theorem SkV.base {B B' : Nat} {w : World} {g lim : Nat} {v : Value} {t : List UInt8} {n : Int} (k : SkV B w g lim v t n) (h : B' ≤ B) : SkV B' w g lim v t n := ⟨k.blk, own_base k.own h, Nat.le_trans h k.le⟩
/-- l[:e] of a slice. -/
theorem bytes_head {w : World} {a : Option Addr} {l : List UInt8} (h : IsBytes w a l) (c e : Nat) (he : e ≤ l.length) (hc : l.length ≤ c) :
    (∀ v, (Instr.slice 35 (.slice a l.length c) none (some (.int .i64 (e : Int))) none).run Try.prog v = .ok (.slice a e c) v) ∧ IsBytes w a (l.take e) := by
  refine ⟨fun v => ?_, (bytes_upto h c e he hc).2⟩
  rw [run_slice_h (P := Try.prog) (w := v) 35 a l.length c (by kernel_rfl) .i64 (e : Int) (by omega) (by omega), size_b]
  simp [Result.andThen, sliced, add0]
/-- l[k:k+1] of a slice. -/
theorem bytes_one {w : World} {a : Option Addr} {l : List UInt8} (h : IsBytes w a l) (c k : Nat) (hk : k < l.length) (hc : l.length ≤ c) :
    ∃ a2, (∀ v, (Instr.slice 35 (.slice a l.length c) (some (.int .i64 (k : Int))) (some (.int .i64 ((k : Int) + 1))) none).run Try.prog v = .ok (.slice a2 1 (c - k)) v) ∧ IsBytes w a2 [l[k]] ∧ a2 ≠ none := by
  rcases h with rfl | ⟨g, o, rfl, lt, h⟩
  · simp at hk
  · refine ⟨some ⟨g, o + k, none⟩, fun v => ?_, .inr ⟨g, o + k, rfl, lt, fun j hj => ?_⟩, by simp⟩
    · rw [run_slice_lh (P := Try.prog) (w := v) 35 (some ⟨g, o, none⟩) l.length c (by kernel_rfl) .i64 .i64 (k : Int) ((k : Int) + 1) (by omega) (by omega) (by omega), size_b]
      have e1 : ((k : Int) + 1).toNat = k + 1 := by omega
      have e2 : ¬ c = k := by omega
      simp [Result.andThen, sliced, e1, e2, Addr.add]
    · obtain rfl : j = 0 := by simpa using hj
      exact h k hk
def PcS (B g1 g2 g3 lim : Nat) (w : World) (l : List UInt8) (k : Nat) (wr : World) : Prop := S3 B g1 g2 g3 lim w (lastL [] l) (lostL lim (headsL [] l)) (lastL [] l) (lostL lim (headsL [] l)) (lastL [] (l.take k)) (lostL lim (headsL [] (l.take k))) wr
def OutIn (b1 bm : Nat) (w : World) (v : Value) (ps : List ByteArray) : Prop := OutT b1 w v ps ∧ ∀ k, v.ownBlock = some k → k < bm
/-- A round's state. -/
structure Pc (B g1 g2 g3 lim bL bM bN : Nat) (w : World) (l : List UInt8) (vL vM : Value) (ps : List ByteArray) (k : Nat) (vn : Value) (qs : List ByteArray) (wr : World) : Prop where
  s3 : PcS B g1 g2 g3 lim w l k wr
  ol : OutIn B bL wr vL ps
  om : OutIn bL bN wr vM ps
  on : OutT bN wr vn qs
  tell : qs.map lst = tellL lim (headsL [] (l.take k))
  sz : bN ≤ wr.heap.size
  few : qs.length ≤ k
theorem sameP {b b' : Nat} {w : World} {a a' : Option Addr} {c c' : Nat} {ps : List ByteArray} (x : OutT b w (.slice a ps.length c) ps) (y : OutT b' w (.slice a' ps.length c') ps) (hn : ps.length ≤ 140737488355328) :
    Calls Try.prog 19 #[.slice a ps.length c, .slice a' ps.length c'] w fun e w' => e = .returned (.bool true) ∧ Below w.heap.size w w' := by
  obtain ⟨_, _, e, ix⟩ := x.is
  injection e with e1 _ e3
  subst e1 e3
  obtain ⟨_, _, e, iy⟩ := y.is
  injection e with e1 _ e3
  subst e1 e3
  exact same5_true _ _ _ _ ps w ix iy hn
theorem take_one {l : List UInt8} {k : Nat} (h : k < l.length) (lim : Nat) : lastL (lastL [] (l.take k)) [l[k]] = lastL [] (l.take (k + 1)) ∧ lostL lim (headsL [] (l.take k)) + lostL lim (headsL (lastL [] (l.take k)) [l[k]]) = lostL lim (headsL [] (l.take (k + 1))) ∧
    tellL lim (headsL [] (l.take k)) ++ tellL lim (headsL (lastL [] (l.take k)) [l[k]]) = tellL lim (headsL [] (l.take (k + 1))) := by
  rw [List.take_succ_eq_append_getElem h]
  exact ⟨(last_app _ _ _).symm, by rw [heads_app, lost_app], by rw [heads_app, tell_app]⟩
set_option maxRecDepth 100000 in
set_option maxHeartbeats 16000000 in
theorem pieces_mid (lim : Nat) (h1 : 1 ≤ lim) (h2 : lim ≤ 1024) (a : Option Addr) (c : Nat) (l : List UInt8) (at_ : Int) (w : World) (ib : IsBytes w a l) (hc : l.length ≤ c) (hn : a = none → l.length = 0 ∧ c = 0) (hl : l.length ≤ 1048576) (hm0 : 0 ≤ at_) (hm1 : at_ ≤ l.length) :
    Calls Try.prog 6 #[.int .i64 (lim : Int), .slice a l.length c, .int .i64 at_] w fun e w' => e = .returned (.bool true) ∧ Below w.heap.size w w' := by
  have IB := hide ib
  have HN := hide hn
  have a1 : ¬ (lim : Int) < 1 := by omega
  have a2 : ¬ (1024 : Int) < (lim : Int) := by omega
  obtain ⟨n, hnn⟩ : ∃ n, n = l.length := ⟨_, rfl⟩
  have NN := hide hnn
  obtain ⟨m, rfl⟩ := Int.eq_ofNat_of_zero_le hm0
  have hm : m ≤ n := by omega
  have b0 : ¬ ((m : Int) < 0) := by omega
  have b9 : ¬ ((n : Int) < (m : Int)) := by omega
  clear hm0 hm1
  rw [← hnn] at hc hl ⊢
  clear ib hn hnn
  go_enter Try.func6, Try.ntmps6
  go_wp2_with fail
  refine (news_ok lim h1 h2 _).mono ?_
  rintro e w1 ⟨g1, rfl, k1, b1⟩
  go_wp2_with fail
  refine (news_ok lim h1 h2 _).mono ?_
  rintro e w2 ⟨g2, rfl, k2, b2⟩
  go_wp2_with fail
  refine (news_ok lim h1 h2 _).mono ?_
  rintro e w3 ⟨g3, rfl, k3, b3⟩
  have q1 := b1.size
  have q2 := b2.size
  have q3 := b3.size
  have l1 := blk_lt k1.blk
  have l2 := blk_lt k2.blk
  have l3 := k2.le
  have l4 := k3.le
  have S := hide (show S3 w.heap.size g1 g2 g3 lim w [] 0 [] 0 [] 0 w3 from ⟨⟨_, _, _, (k1.later b2).later b3, (k2.base q1).later b3, k3.base (Nat.le_trans q1 q2), (fun k hk => by cases hk), (fun k hk => by cases hk), (fun k hk => by cases hk)⟩, ⟨by omega, by omega, by omega⟩, (b1.trans (b2.mono q1)).trans (b3.mono (Nat.le_trans q1 q2)), Nat.le_trans q1 (Nat.le_trans q2 q3), rfl⟩)
  clear k1 k2 k3 b1 b2 b3 q1 q2 q3 l1 l2 l3 l4
  go_wp2_with fail
  refine (alive5 _).mono ?_
  rintro e w4 ⟨rfl, b4⟩
  have S4 := hide (S.out.later b4)
  clear S b4
  obtain ⟨L1, hL1⟩ := txts_of_lists2 (tellL lim (headsL [] l))
  obtain ⟨M1, hM1⟩ := txts_of_lists2 (tellL lim (headsL [] (l.take m)))
  obtain ⟨M2, hM2⟩ := txts_of_lists2 (tellL lim (headsL (lastL [] (l.take m)) (l.drop m)))
  have z1 : L1.length ≤ n := by have := congrArg List.length hL1; rw [List.length_map] at this; have := tell_len lim [] l; have := NN.out; omega
  have z2 : M1.length ≤ n := by have := congrArg List.length hM1; rw [List.length_map] at this; have := tell_len lim [] (l.take m); rw [List.length_take] at this; have := NN.out; omega
  have z3 : M2.length ≤ n := by have := congrArg List.length hM2; rw [List.length_map] at this; have := tell_len lim (lastL [] (l.take m)) (l.drop m); rw [List.length_drop] at this; have := NN.out; omega
  have b1 := lost_le lim (headsL [] (l.take m))
  have b2 := heads_len [] (l.take m)
  have hmn : m ≤ l.length := by rw [← NN.out]; exact hm
  have lt1 : (l.take m).length = m := by rw [List.length_take]; omega
  have lt2 : (l.drop m).length = n - m := by rw [List.length_drop, ← NN.out]
  obtain ⟨s1, ib1⟩ := bytes_head IB.out c m hmn (by rw [← NN.out]; exact hc)
  obtain ⟨a3, s2, ib2, n2⟩ := bytes_from IB.out c m hmn (by rw [← NN.out]; exact hc)
  rw [← NN.out] at s1 s2
  have F1 := feed1 l a c L1 hL1 S4.out h2 (by omega) (by rw [← NN.out]; omega) (by rw [← NN.out]; exact hc) HN.out IB.out
  have F2 := fun (t1 : List UInt8) (n1 : Int) (W : World) (s : S3 w.heap.size g1 g2 g3 lim w t1 n1 [] 0 [] 0 W) => feed2 (l.take m) a c M1 hM1 s h2 (by omega) (by omega) (by omega) (fun e => by have := HN.out e; rw [lt1]; omega) ib1
  have F3 := fun (t1 : List UInt8) (n1 : Int) (W : World) (s : S3 w.heap.size g1 g2 g3 lim w t1 n1 (lastL [] (l.take m)) (0 + lostL lim (headsL [] (l.take m))) [] 0 W) => feed2 (l.drop m) a3 (c - m) M2 hM2 s h2 (by omega) (by rw [lt1] at b2; rw [lt2]; omega) (by rw [lt2]; omega) (fun e => by have := HN.out (n2 e); rw [lt2]; omega) ib2
  rw [← NN.out] at F1
  rw [lt1] at F2
  rw [lt2] at F3
  have HL := hide (show L1.map lst = (M1 ++ M2).map lst by rw [List.map_append, hL1, hM1, hM2, ← tell_app, ← heads_app, List.take_append_drop])
  have EL := hide (txts_eq HL.out.symm)
  have EM : Hid (lostL lim (headsL [] (l.take m)) + lostL lim (headsL (lastL [] (l.take m)) (l.drop m)) = lostL lim (headsL [] l) ∧ lastL (lastL [] (l.take m)) (l.drop m) = lastL [] l) := ⟨by rw [← lost_app, ← heads_app, List.take_append_drop], by rw [← last_app, List.take_append_drop]⟩
  have HL1 := hide hL1
  clear hM1 hM2 hL1 b1 b2 hmn lt1 lt2 ib1 ib2 n2
  go_wp2_with fail
  refine F1.mono ?_
  rintro e w5 ⟨aL, cL, rfl, oL, S5, -, sz5⟩
  clear F1
  have OL := hide (show OutIn w.heap.size w5.heap.size w5 (.slice aL L1.length cL) L1 from ⟨own_base oL S4.out.le, oL.lt⟩)
  clear oL
  go_wp2_with fail
  refine (F2 _ _ _ S5).mono ?_
  rintro e w6 ⟨aM, cM, rfl, oM, S6, K6, sz6⟩
  have OL6 := hide (show OutIn w.heap.size w5.heap.size w6 (.slice aL L1.length cL) L1 from ⟨K6 _ _ _ OL.out.1, OL.out.2⟩)
  clear F2 S5 OL K6
  go_wp2_with fail
  refine (F3 _ _ _ S6).mono ?_
  rintro e w7 ⟨aR, cR, rfl, oR, S7, K7, sz7⟩
  have OL7 := hide (show OutIn w.heap.size w5.heap.size w7 (.slice aL L1.length cL) L1 from ⟨K7 _ _ _ OL6.out.1, OL6.out.2⟩)
  have oM7 := K7 _ _ _ oM
  have s57 : w5.heap.size ≤ w7.heap.size := Nat.le_trans sz6 sz7
  have s45 : w.heap.size ≤ w5.heap.size := Nat.le_trans S4.out.le sz5
  clear F3 S6 OL6 K7 oM S4 s1 s2
  go_wp2_with (
    at_builtin
    refine wpList_append_rows rfl _ _ rfl w5.heap.size _ (.slice aM M1.length cM) M1 rfl oM7 aR cR M2 rfl oR (by omega) s57 ?_
    intro v8 w8 o8 g8
    have S8 := hide (S7.app oM7 s45 g8)
    have OL8 := hide (show OutIn w.heap.size w5.heap.size w8 (.slice aL L1.length cL) L1 from ⟨OL7.out.1.app OL7.out.2 oM7 g8, OL7.out.2⟩)
    rw [EL.out] at o8
    have OM8 := hide (show OutIn w5.heap.size w8.heap.size w8 v8 L1 from ⟨o8, o8.lt⟩)
    have s58 : w5.heap.size ≤ w8.heap.size := Nat.le_trans s57 g8.size
    obtain ⟨aM8, cM8, rfl, _⟩ := o8.is
    clear o8 g8)
  have P0 := hide (show Pc w.heap.size g1 g2 g3 lim w5.heap.size w8.heap.size w8.heap.size w l (.slice aL L1.length cL) (.slice aM8 L1.length cM8) L1 0 (.slice none 0 0) [] w8 from ⟨(by
    have q := S8.out
    rw [Int.zero_add, Int.zero_add, EM.out.1, EM.out.2] at q
    exact q), OL8.out, OM8.out, ⟨rfl, .inl ⟨rfl, rfl⟩⟩, rfl, Nat.le_refl _, Nat.le_refl _⟩)
  have LE5 : Hid (w5.heap.size ≤ w8.heap.size) := s58
  have BN : Hid (w.heap.size ≤ w8.heap.size) := Nat.le_trans s45 s58
  generalize w8.heap.size = bN at *
  clear S8 OL8 OM8 S7 OL7 oM7 oR s57 s58 s45 sz5 sz6 sz7 EM EL HL
  go_loopw [15, 16] (fun vn iv wr => ∃ (k : Nat) (qs : List ByteArray), k ≤ n ∧ iv = .int .i64 (k : Int) ∧ Hid (Pc w.heap.size g1 g2 g3 lim w5.heap.size bN bN w l (.slice aL L1.length cL) (.slice aM8 L1.length cM8) L1 k vn qs wr)) (fun _ iv _ => n - (intOf iv).toNat)
  case atStart => exact ⟨0, [], Nat.zero_le _, rfl, P0.out⟩
  case round =>
    obtain ⟨k, qs, hk, rfl, pc⟩ := hrel
    by_cases hlt : k < n
    · have hkl : k < l.length := by rw [← NN.out]; exact hlt
      obtain ⟨a4, s4, ib4, ne4⟩ := bytes_one IB.out c k hkl (by rw [← NN.out]; exact hc)
      rw [← NN.out] at s4
      obtain ⟨R, hR⟩ := txts_of_lists2 (tellL lim (headsL (lastL [] (l.take k)) [l[k]]))
      have zR : R.length ≤ 1 := by have := congrArg List.length hR; rw [List.length_map] at this; have q := tell_len lim (lastL [] (l.take k)) [l[k]]; simp at q; omega
      have y1 := lost_le lim (headsL [] (l.take k))
      have y2 := heads_len [] (l.take k)
      rw [List.length_take] at y2
      have F := feed3 [l[k]] a4 (c - k) R hR pc.out.s3 h2 y1.1 (by simp; omega) (by simp; omega) (fun e => absurd e ne4) ib4
      rw [show ([l[k]] : List UInt8).length = 1 from rfl] at F
      obtain ⟨t1, t2, t3⟩ := take_one hkl lim
      have T3 := hide t3
      have HR := hide hR
      rw [t1, t2] at F
      have w1' : IntKind.i64.wrap ((k : Int) + 1) = (k : Int) + 1 := by rw [IntKind.wrap_i64]; omega
      have fq := pc.out.few
      clear ib4 ne4 hR y1 y2 t1 t2 t3
      go_wp2_with fail
      refine F.mono ?_
      rintro e wf ⟨aR', cR', rfl, oR', S9, K9, sz9⟩
      have oN9 := K9 _ _ _ pc.out.on
      have OL9 := hide (show OutIn w.heap.size w5.heap.size wf (.slice aL L1.length cL) L1 from ⟨K9 _ _ _ pc.out.ol.1, pc.out.ol.2⟩)
      have OM9 := hide (show OutIn w5.heap.size bN wf (.slice aM8 L1.length cM8) L1 from ⟨K9 _ _ _ pc.out.om.1, pc.out.om.2⟩)
      have bz : bN ≤ wf.heap.size := Nat.le_trans pc.out.sz sz9
      have S9' := hide S9
      have L5 : Hid (w5.heap.size ≤ bN) := by show _ ≤ _; exact LE5.out
      clear F s4 K9 S9
      go_wp2_with (
        at_builtin
        refine wpList_append_rows rfl _ _ rfl bN _ u15 qs rfl oN9 aR' cR' R rfl oR' (by omega) bz ?_
        intro v9 w9 o9 g9
        have N9 := hide (show Pc w.heap.size g1 g2 g3 lim w5.heap.size bN bN w l (.slice aL L1.length cL) (.slice aM8 L1.length cM8) L1 (k + 1) v9 (qs ++ R) w9 from ⟨S9'.out.app oN9 BN.out g9, ⟨OL9.out.1.app (fun j hj => Nat.lt_of_lt_of_le (OL9.out.2 j hj) L5.out) oN9 g9, OL9.out.2⟩, ⟨OM9.out.1.app OM9.out.2 oN9 g9, OM9.out.2⟩, o9, (by rw [List.map_append, pc.out.tell, HR.out, T3.out]), Nat.le_trans bz g9.size, by rw [List.length_append]; omega⟩)
        clear o9 g9)
      go_roundw
      case rel => exact ⟨k + 1, qs ++ R, by omega, by go_num, N9.out⟩
      case measure => simp [intOf]; omega
    · obtain rfl : k = n := by omega
      have TK : l.take k = l := List.take_of_length_le (by rw [← NN.out]; exact Nat.le_refl _)
      obtain rfl : qs = L1 := txts_eq (by rw [pc.out.tell, TK, HL1.out])
      have SZ := hide (show S3 w.heap.size g1 g2 g3 lim w (lastL [] l) (lostL lim (headsL [] l)) (lastL [] l) (lostL lim (headsL [] l)) (lastL [] l) (lostL lim (headsL [] l)) wr from (by have := pc.out.s3; unfold PcS at this; rw [TK] at this; exact this))
      obtain ⟨aN, cN, rfl, _⟩ := pc.out.on.is
      have o1 := hide pc.out.ol.1
      have o2 := hide pc.out.om.1
      have o3 := hide pc.out.on
      obtain ⟨x0, hx0⟩ : ∃ x0 : ByteArray, lst x0 = (lastL [] l).take (lim + 1) := ⟨⟨((lastL [] l).take (lim + 1)).toArray⟩, by simp [lst]⟩
      have zq : qs.length ≤ 140737488355328 := by omega
      clear TK pc
      go_wp2_with fail
      refine (sameP o1.out o2.out zq).mono ?_
      rintro e wA ⟨rfl, bA⟩
      have o1' := hide (o1.out.later bA)
      have o3' := hide (o3.out.later bA)
      have SA := hide (SZ.out.later bA)
      clear bA o1 o2 o3 SZ
      go_wp2_with fail
      refine (sameP o1'.out o3'.out zq).mono ?_
      rintro e wB ⟨rfl, bB⟩
      have SB := SA.out.later bB
      have BL := hide SB.below
      have E1 := end1 SB x0 hx0
      have E2 := end1 SB.rot x0 hx0
      have E3 := end1 SB.rot.rot x0 hx0
      have G1 := lost1 SB
      have G2 := lost1 SB.rot
      have G3 := lost1 SB.rot.rot
      clear bB o1' o3' SA SB hx0 zq
      go_wp2_with (first
        | (go_at_call 23; (first | (with_reducible refine Calls.mono E1 ?_) | (with_reducible refine Calls.mono E2 ?_) | (with_reducible refine Calls.mono E3 ?_)); rintro e vE ⟨rfl, rfl⟩)
        | (go_at_call 22; (first | (with_reducible refine Calls.mono G1 ?_) | (with_reducible refine Calls.mono G2 ?_) | (with_reducible refine Calls.mono G3 ?_)); rintro e vL ⟨rfl, rfl⟩))
      go_returns
      exact ⟨rfl, BL.out⟩
set_option maxRecDepth 100000 in
set_option maxHeartbeats 16000000 in
theorem pieces_low (lim : Nat) (h1 : 1 ≤ lim) (h2 : lim ≤ 1024) (a : Option Addr) (c : Nat) (l : List UInt8) (at_ : Int) (w : World) (ib : IsBytes w a l) (hc : l.length ≤ c) (hn : a = none → l.length = 0 ∧ c = 0) (hl : l.length ≤ 1048576) (hm0 : at_ < 0) :
    Calls Try.prog 6 #[.int .i64 (lim : Int), .slice a l.length c, .int .i64 at_] w fun e w' => e = .returned (.bool true) ∧ Below w.heap.size w w' := by
  have IB := hide ib
  have HN := hide hn
  have a1 : ¬ (lim : Int) < 1 := by omega
  have a2 : ¬ (1024 : Int) < (lim : Int) := by omega
  obtain ⟨n, hnn⟩ : ∃ n, n = l.length := ⟨_, rfl⟩
  have NN := hide hnn
  obtain ⟨m, hmm⟩ : ∃ m, m = n / 2 := ⟨_, rfl⟩
  have hm : m ≤ n := by omega
  have d1 : (Int.tdiv (n : Int) 2) = (m : Int) := by rw [hmm, Int.natCast_ediv]; exact (Int.tdiv_eq_ediv_of_nonneg (by omega))
  have d2 : IntKind.i64.wrap (m : Int) = (m : Int) := by rw [IntKind.wrap_i64]; omega
  clear hmm
  rw [← hnn] at hc hl ⊢
  clear ib hn hnn
  go_enter Try.func6, Try.ntmps6
  go_wp2_with fail
  refine (news_ok lim h1 h2 _).mono ?_
  rintro e w1 ⟨g1, rfl, k1, b1⟩
  go_wp2_with fail
  refine (news_ok lim h1 h2 _).mono ?_
  rintro e w2 ⟨g2, rfl, k2, b2⟩
  go_wp2_with fail
  refine (news_ok lim h1 h2 _).mono ?_
  rintro e w3 ⟨g3, rfl, k3, b3⟩
  have q1 := b1.size
  have q2 := b2.size
  have q3 := b3.size
  have l1 := blk_lt k1.blk
  have l2 := blk_lt k2.blk
  have l3 := k2.le
  have l4 := k3.le
  have S := hide (show S3 w.heap.size g1 g2 g3 lim w [] 0 [] 0 [] 0 w3 from ⟨⟨_, _, _, (k1.later b2).later b3, (k2.base q1).later b3, k3.base (Nat.le_trans q1 q2), (fun k hk => by cases hk), (fun k hk => by cases hk), (fun k hk => by cases hk)⟩, ⟨by omega, by omega, by omega⟩, (b1.trans (b2.mono q1)).trans (b3.mono (Nat.le_trans q1 q2)), Nat.le_trans q1 (Nat.le_trans q2 q3), rfl⟩)
  clear k1 k2 k3 b1 b2 b3 q1 q2 q3 l1 l2 l3 l4
  go_wp2_with fail
  refine (alive5 _).mono ?_
  rintro e w4 ⟨rfl, b4⟩
  have S4 := hide (S.out.later b4)
  clear S b4
  obtain ⟨L1, hL1⟩ := txts_of_lists2 (tellL lim (headsL [] l))
  obtain ⟨M1, hM1⟩ := txts_of_lists2 (tellL lim (headsL [] (l.take m)))
  obtain ⟨M2, hM2⟩ := txts_of_lists2 (tellL lim (headsL (lastL [] (l.take m)) (l.drop m)))
  have z1 : L1.length ≤ n := by have := congrArg List.length hL1; rw [List.length_map] at this; have := tell_len lim [] l; have := NN.out; omega
  have z2 : M1.length ≤ n := by have := congrArg List.length hM1; rw [List.length_map] at this; have := tell_len lim [] (l.take m); rw [List.length_take] at this; have := NN.out; omega
  have z3 : M2.length ≤ n := by have := congrArg List.length hM2; rw [List.length_map] at this; have := tell_len lim (lastL [] (l.take m)) (l.drop m); rw [List.length_drop] at this; have := NN.out; omega
  have b1 := lost_le lim (headsL [] (l.take m))
  have b2 := heads_len [] (l.take m)
  have hmn : m ≤ l.length := by rw [← NN.out]; exact hm
  have lt1 : (l.take m).length = m := by rw [List.length_take]; omega
  have lt2 : (l.drop m).length = n - m := by rw [List.length_drop, ← NN.out]
  obtain ⟨s1, ib1⟩ := bytes_head IB.out c m hmn (by rw [← NN.out]; exact hc)
  obtain ⟨a3, s2, ib2, n2⟩ := bytes_from IB.out c m hmn (by rw [← NN.out]; exact hc)
  rw [← NN.out] at s1 s2
  have F1 := feed1 l a c L1 hL1 S4.out h2 (by omega) (by rw [← NN.out]; omega) (by rw [← NN.out]; exact hc) HN.out IB.out
  have F2 := fun (t1 : List UInt8) (n1 : Int) (W : World) (s : S3 w.heap.size g1 g2 g3 lim w t1 n1 [] 0 [] 0 W) => feed2 (l.take m) a c M1 hM1 s h2 (by omega) (by omega) (by omega) (fun e => by have := HN.out e; rw [lt1]; omega) ib1
  have F3 := fun (t1 : List UInt8) (n1 : Int) (W : World) (s : S3 w.heap.size g1 g2 g3 lim w t1 n1 (lastL [] (l.take m)) (0 + lostL lim (headsL [] (l.take m))) [] 0 W) => feed2 (l.drop m) a3 (c - m) M2 hM2 s h2 (by omega) (by rw [lt1] at b2; rw [lt2]; omega) (by rw [lt2]; omega) (fun e => by have := HN.out (n2 e); rw [lt2]; omega) ib2
  rw [← NN.out] at F1
  rw [lt1] at F2
  rw [lt2] at F3
  have HL := hide (show L1.map lst = (M1 ++ M2).map lst by rw [List.map_append, hL1, hM1, hM2, ← tell_app, ← heads_app, List.take_append_drop])
  have EL := hide (txts_eq HL.out.symm)
  have EM : Hid (lostL lim (headsL [] (l.take m)) + lostL lim (headsL (lastL [] (l.take m)) (l.drop m)) = lostL lim (headsL [] l) ∧ lastL (lastL [] (l.take m)) (l.drop m) = lastL [] l) := ⟨by rw [← lost_app, ← heads_app, List.take_append_drop], by rw [← last_app, List.take_append_drop]⟩
  have HL1 := hide hL1
  clear hM1 hM2 hL1 b1 b2 hmn lt1 lt2 ib1 ib2 n2
  go_wp2_with fail
  refine F1.mono ?_
  rintro e w5 ⟨aL, cL, rfl, oL, S5, -, sz5⟩
  clear F1
  have OL := hide (show OutIn w.heap.size w5.heap.size w5 (.slice aL L1.length cL) L1 from ⟨own_base oL S4.out.le, oL.lt⟩)
  clear oL
  go_wp2_with fail
  refine (F2 _ _ _ S5).mono ?_
  rintro e w6 ⟨aM, cM, rfl, oM, S6, K6, sz6⟩
  have OL6 := hide (show OutIn w.heap.size w5.heap.size w6 (.slice aL L1.length cL) L1 from ⟨K6 _ _ _ OL.out.1, OL.out.2⟩)
  clear F2 S5 OL K6
  go_wp2_with fail
  refine (F3 _ _ _ S6).mono ?_
  rintro e w7 ⟨aR, cR, rfl, oR, S7, K7, sz7⟩
  have OL7 := hide (show OutIn w.heap.size w5.heap.size w7 (.slice aL L1.length cL) L1 from ⟨K7 _ _ _ OL6.out.1, OL6.out.2⟩)
  have oM7 := K7 _ _ _ oM
  have s57 : w5.heap.size ≤ w7.heap.size := Nat.le_trans sz6 sz7
  have s45 : w.heap.size ≤ w5.heap.size := Nat.le_trans S4.out.le sz5
  clear F3 S6 OL6 K7 oM S4 s1 s2
  go_wp2_with (
    at_builtin
    refine wpList_append_rows rfl _ _ rfl w5.heap.size _ (.slice aM M1.length cM) M1 rfl oM7 aR cR M2 rfl oR (by omega) s57 ?_
    intro v8 w8 o8 g8
    have S8 := hide (S7.app oM7 s45 g8)
    have OL8 := hide (show OutIn w.heap.size w5.heap.size w8 (.slice aL L1.length cL) L1 from ⟨OL7.out.1.app OL7.out.2 oM7 g8, OL7.out.2⟩)
    rw [EL.out] at o8
    have OM8 := hide (show OutIn w5.heap.size w8.heap.size w8 v8 L1 from ⟨o8, o8.lt⟩)
    have s58 : w5.heap.size ≤ w8.heap.size := Nat.le_trans s57 g8.size
    obtain ⟨aM8, cM8, rfl, _⟩ := o8.is
    clear o8 g8)
  have P0 := hide (show Pc w.heap.size g1 g2 g3 lim w5.heap.size w8.heap.size w8.heap.size w l (.slice aL L1.length cL) (.slice aM8 L1.length cM8) L1 0 (.slice none 0 0) [] w8 from ⟨(by
    have q := S8.out
    rw [Int.zero_add, Int.zero_add, EM.out.1, EM.out.2] at q
    exact q), OL8.out, OM8.out, ⟨rfl, .inl ⟨rfl, rfl⟩⟩, rfl, Nat.le_refl _, Nat.le_refl _⟩)
  have LE5 : Hid (w5.heap.size ≤ w8.heap.size) := s58
  have BN : Hid (w.heap.size ≤ w8.heap.size) := Nat.le_trans s45 s58
  generalize w8.heap.size = bN at *
  clear S8 OL8 OM8 S7 OL7 oM7 oR s57 s58 s45 sz5 sz6 sz7 EM EL HL
  go_loopw [15, 16] (fun vn iv wr => ∃ (k : Nat) (qs : List ByteArray), k ≤ n ∧ iv = .int .i64 (k : Int) ∧ Hid (Pc w.heap.size g1 g2 g3 lim w5.heap.size bN bN w l (.slice aL L1.length cL) (.slice aM8 L1.length cM8) L1 k vn qs wr)) (fun _ iv _ => n - (intOf iv).toNat)
  case atStart => exact ⟨0, [], Nat.zero_le _, rfl, P0.out⟩
  case round =>
    obtain ⟨k, qs, hk, rfl, pc⟩ := hrel
    by_cases hlt : k < n
    · have hkl : k < l.length := by rw [← NN.out]; exact hlt
      obtain ⟨a4, s4, ib4, ne4⟩ := bytes_one IB.out c k hkl (by rw [← NN.out]; exact hc)
      rw [← NN.out] at s4
      obtain ⟨R, hR⟩ := txts_of_lists2 (tellL lim (headsL (lastL [] (l.take k)) [l[k]]))
      have zR : R.length ≤ 1 := by have := congrArg List.length hR; rw [List.length_map] at this; have q := tell_len lim (lastL [] (l.take k)) [l[k]]; simp at q; omega
      have y1 := lost_le lim (headsL [] (l.take k))
      have y2 := heads_len [] (l.take k)
      rw [List.length_take] at y2
      have F := feed3 [l[k]] a4 (c - k) R hR pc.out.s3 h2 y1.1 (by simp; omega) (by simp; omega) (fun e => absurd e ne4) ib4
      rw [show ([l[k]] : List UInt8).length = 1 from rfl] at F
      obtain ⟨t1, t2, t3⟩ := take_one hkl lim
      have T3 := hide t3
      have HR := hide hR
      rw [t1, t2] at F
      have w1' : IntKind.i64.wrap ((k : Int) + 1) = (k : Int) + 1 := by rw [IntKind.wrap_i64]; omega
      have fq := pc.out.few
      clear ib4 ne4 hR y1 y2 t1 t2 t3
      go_wp2_with fail
      refine F.mono ?_
      rintro e wf ⟨aR', cR', rfl, oR', S9, K9, sz9⟩
      have oN9 := K9 _ _ _ pc.out.on
      have OL9 := hide (show OutIn w.heap.size w5.heap.size wf (.slice aL L1.length cL) L1 from ⟨K9 _ _ _ pc.out.ol.1, pc.out.ol.2⟩)
      have OM9 := hide (show OutIn w5.heap.size bN wf (.slice aM8 L1.length cM8) L1 from ⟨K9 _ _ _ pc.out.om.1, pc.out.om.2⟩)
      have bz : bN ≤ wf.heap.size := Nat.le_trans pc.out.sz sz9
      have S9' := hide S9
      have L5 : Hid (w5.heap.size ≤ bN) := by show _ ≤ _; exact LE5.out
      clear F s4 K9 S9
      go_wp2_with (
        at_builtin
        refine wpList_append_rows rfl _ _ rfl bN _ u15 qs rfl oN9 aR' cR' R rfl oR' (by omega) bz ?_
        intro v9 w9 o9 g9
        have N9 := hide (show Pc w.heap.size g1 g2 g3 lim w5.heap.size bN bN w l (.slice aL L1.length cL) (.slice aM8 L1.length cM8) L1 (k + 1) v9 (qs ++ R) w9 from ⟨S9'.out.app oN9 BN.out g9, ⟨OL9.out.1.app (fun j hj => Nat.lt_of_lt_of_le (OL9.out.2 j hj) L5.out) oN9 g9, OL9.out.2⟩, ⟨OM9.out.1.app OM9.out.2 oN9 g9, OM9.out.2⟩, o9, (by rw [List.map_append, pc.out.tell, HR.out, T3.out]), Nat.le_trans bz g9.size, by rw [List.length_append]; omega⟩)
        clear o9 g9)
      go_roundw
      case rel => exact ⟨k + 1, qs ++ R, by omega, by go_num, N9.out⟩
      case measure => simp [intOf]; omega
    · obtain rfl : k = n := by omega
      have TK : l.take k = l := List.take_of_length_le (by rw [← NN.out]; exact Nat.le_refl _)
      obtain rfl : qs = L1 := txts_eq (by rw [pc.out.tell, TK, HL1.out])
      have SZ := hide (show S3 w.heap.size g1 g2 g3 lim w (lastL [] l) (lostL lim (headsL [] l)) (lastL [] l) (lostL lim (headsL [] l)) (lastL [] l) (lostL lim (headsL [] l)) wr from (by have := pc.out.s3; unfold PcS at this; rw [TK] at this; exact this))
      obtain ⟨aN, cN, rfl, _⟩ := pc.out.on.is
      have o1 := hide pc.out.ol.1
      have o2 := hide pc.out.om.1
      have o3 := hide pc.out.on
      obtain ⟨x0, hx0⟩ : ∃ x0 : ByteArray, lst x0 = (lastL [] l).take (lim + 1) := ⟨⟨((lastL [] l).take (lim + 1)).toArray⟩, by simp [lst]⟩
      have zq : qs.length ≤ 140737488355328 := by omega
      clear TK pc
      go_wp2_with fail
      refine (sameP o1.out o2.out zq).mono ?_
      rintro e wA ⟨rfl, bA⟩
      have o1' := hide (o1.out.later bA)
      have o3' := hide (o3.out.later bA)
      have SA := hide (SZ.out.later bA)
      clear bA o1 o2 o3 SZ
      go_wp2_with fail
      refine (sameP o1'.out o3'.out zq).mono ?_
      rintro e wB ⟨rfl, bB⟩
      have SB := SA.out.later bB
      have BL := hide SB.below
      have E1 := end1 SB x0 hx0
      have E2 := end1 SB.rot x0 hx0
      have E3 := end1 SB.rot.rot x0 hx0
      have G1 := lost1 SB
      have G2 := lost1 SB.rot
      have G3 := lost1 SB.rot.rot
      clear bB o1' o3' SA SB hx0 zq
      go_wp2_with (first
        | (go_at_call 23; (first | (with_reducible refine Calls.mono E1 ?_) | (with_reducible refine Calls.mono E2 ?_) | (with_reducible refine Calls.mono E3 ?_)); rintro e vE ⟨rfl, rfl⟩)
        | (go_at_call 22; (first | (with_reducible refine Calls.mono G1 ?_) | (with_reducible refine Calls.mono G2 ?_) | (with_reducible refine Calls.mono G3 ?_)); rintro e vL ⟨rfl, rfl⟩))
      go_returns
      exact ⟨rfl, BL.out⟩
set_option maxRecDepth 100000 in
set_option maxHeartbeats 16000000 in
theorem pieces_high (lim : Nat) (h1 : 1 ≤ lim) (h2 : lim ≤ 1024) (a : Option Addr) (c : Nat) (l : List UInt8) (at_ : Int) (w : World) (ib : IsBytes w a l) (hc : l.length ≤ c) (hn : a = none → l.length = 0 ∧ c = 0) (hl : l.length ≤ 1048576) (hm0 : (l.length : Int) < at_) :
    Calls Try.prog 6 #[.int .i64 (lim : Int), .slice a l.length c, .int .i64 at_] w fun e w' => e = .returned (.bool true) ∧ Below w.heap.size w w' := by
  have IB := hide ib
  have HN := hide hn
  have a1 : ¬ (lim : Int) < 1 := by omega
  have a2 : ¬ (1024 : Int) < (lim : Int) := by omega
  obtain ⟨n, hnn⟩ : ∃ n, n = l.length := ⟨_, rfl⟩
  have NN := hide hnn
  obtain ⟨m, hmm⟩ : ∃ m, m = n / 2 := ⟨_, rfl⟩
  have hm : m ≤ n := by omega
  have d1 : (Int.tdiv (n : Int) 2) = (m : Int) := by rw [hmm, Int.natCast_ediv]; exact (Int.tdiv_eq_ediv_of_nonneg (by omega))
  have d2 : IntKind.i64.wrap (m : Int) = (m : Int) := by rw [IntKind.wrap_i64]; omega
  clear hmm
  have b0 : ¬ (at_ < 0) := by omega
  have b9 : (n : Int) < at_ := by omega
  clear hm0
  rw [← hnn] at hc hl ⊢
  clear ib hn hnn
  go_enter Try.func6, Try.ntmps6
  go_wp2_with fail
  refine (news_ok lim h1 h2 _).mono ?_
  rintro e w1 ⟨g1, rfl, k1, b1⟩
  go_wp2_with fail
  refine (news_ok lim h1 h2 _).mono ?_
  rintro e w2 ⟨g2, rfl, k2, b2⟩
  go_wp2_with fail
  refine (news_ok lim h1 h2 _).mono ?_
  rintro e w3 ⟨g3, rfl, k3, b3⟩
  have q1 := b1.size
  have q2 := b2.size
  have q3 := b3.size
  have l1 := blk_lt k1.blk
  have l2 := blk_lt k2.blk
  have l3 := k2.le
  have l4 := k3.le
  have S := hide (show S3 w.heap.size g1 g2 g3 lim w [] 0 [] 0 [] 0 w3 from ⟨⟨_, _, _, (k1.later b2).later b3, (k2.base q1).later b3, k3.base (Nat.le_trans q1 q2), (fun k hk => by cases hk), (fun k hk => by cases hk), (fun k hk => by cases hk)⟩, ⟨by omega, by omega, by omega⟩, (b1.trans (b2.mono q1)).trans (b3.mono (Nat.le_trans q1 q2)), Nat.le_trans q1 (Nat.le_trans q2 q3), rfl⟩)
  clear k1 k2 k3 b1 b2 b3 q1 q2 q3 l1 l2 l3 l4
  go_wp2_with fail
  refine (alive5 _).mono ?_
  rintro e w4 ⟨rfl, b4⟩
  have S4 := hide (S.out.later b4)
  clear S b4
  obtain ⟨L1, hL1⟩ := txts_of_lists2 (tellL lim (headsL [] l))
  obtain ⟨M1, hM1⟩ := txts_of_lists2 (tellL lim (headsL [] (l.take m)))
  obtain ⟨M2, hM2⟩ := txts_of_lists2 (tellL lim (headsL (lastL [] (l.take m)) (l.drop m)))
  have z1 : L1.length ≤ n := by have := congrArg List.length hL1; rw [List.length_map] at this; have := tell_len lim [] l; have := NN.out; omega
  have z2 : M1.length ≤ n := by have := congrArg List.length hM1; rw [List.length_map] at this; have := tell_len lim [] (l.take m); rw [List.length_take] at this; have := NN.out; omega
  have z3 : M2.length ≤ n := by have := congrArg List.length hM2; rw [List.length_map] at this; have := tell_len lim (lastL [] (l.take m)) (l.drop m); rw [List.length_drop] at this; have := NN.out; omega
  have b1 := lost_le lim (headsL [] (l.take m))
  have b2 := heads_len [] (l.take m)
  have hmn : m ≤ l.length := by rw [← NN.out]; exact hm
  have lt1 : (l.take m).length = m := by rw [List.length_take]; omega
  have lt2 : (l.drop m).length = n - m := by rw [List.length_drop, ← NN.out]
  obtain ⟨s1, ib1⟩ := bytes_head IB.out c m hmn (by rw [← NN.out]; exact hc)
  obtain ⟨a3, s2, ib2, n2⟩ := bytes_from IB.out c m hmn (by rw [← NN.out]; exact hc)
  rw [← NN.out] at s1 s2
  have F1 := feed1 l a c L1 hL1 S4.out h2 (by omega) (by rw [← NN.out]; omega) (by rw [← NN.out]; exact hc) HN.out IB.out
  have F2 := fun (t1 : List UInt8) (n1 : Int) (W : World) (s : S3 w.heap.size g1 g2 g3 lim w t1 n1 [] 0 [] 0 W) => feed2 (l.take m) a c M1 hM1 s h2 (by omega) (by omega) (by omega) (fun e => by have := HN.out e; rw [lt1]; omega) ib1
  have F3 := fun (t1 : List UInt8) (n1 : Int) (W : World) (s : S3 w.heap.size g1 g2 g3 lim w t1 n1 (lastL [] (l.take m)) (0 + lostL lim (headsL [] (l.take m))) [] 0 W) => feed2 (l.drop m) a3 (c - m) M2 hM2 s h2 (by omega) (by rw [lt1] at b2; rw [lt2]; omega) (by rw [lt2]; omega) (fun e => by have := HN.out (n2 e); rw [lt2]; omega) ib2
  rw [← NN.out] at F1
  rw [lt1] at F2
  rw [lt2] at F3
  have HL := hide (show L1.map lst = (M1 ++ M2).map lst by rw [List.map_append, hL1, hM1, hM2, ← tell_app, ← heads_app, List.take_append_drop])
  have EL := hide (txts_eq HL.out.symm)
  have EM : Hid (lostL lim (headsL [] (l.take m)) + lostL lim (headsL (lastL [] (l.take m)) (l.drop m)) = lostL lim (headsL [] l) ∧ lastL (lastL [] (l.take m)) (l.drop m) = lastL [] l) := ⟨by rw [← lost_app, ← heads_app, List.take_append_drop], by rw [← last_app, List.take_append_drop]⟩
  have HL1 := hide hL1
  clear hM1 hM2 hL1 b1 b2 hmn lt1 lt2 ib1 ib2 n2
  go_wp2_with fail
  refine F1.mono ?_
  rintro e w5 ⟨aL, cL, rfl, oL, S5, -, sz5⟩
  clear F1
  have OL := hide (show OutIn w.heap.size w5.heap.size w5 (.slice aL L1.length cL) L1 from ⟨own_base oL S4.out.le, oL.lt⟩)
  clear oL
  go_wp2_with fail
  refine (F2 _ _ _ S5).mono ?_
  rintro e w6 ⟨aM, cM, rfl, oM, S6, K6, sz6⟩
  have OL6 := hide (show OutIn w.heap.size w5.heap.size w6 (.slice aL L1.length cL) L1 from ⟨K6 _ _ _ OL.out.1, OL.out.2⟩)
  clear F2 S5 OL K6
  go_wp2_with fail
  refine (F3 _ _ _ S6).mono ?_
  rintro e w7 ⟨aR, cR, rfl, oR, S7, K7, sz7⟩
  have OL7 := hide (show OutIn w.heap.size w5.heap.size w7 (.slice aL L1.length cL) L1 from ⟨K7 _ _ _ OL6.out.1, OL6.out.2⟩)
  have oM7 := K7 _ _ _ oM
  have s57 : w5.heap.size ≤ w7.heap.size := Nat.le_trans sz6 sz7
  have s45 : w.heap.size ≤ w5.heap.size := Nat.le_trans S4.out.le sz5
  clear F3 S6 OL6 K7 oM S4 s1 s2
  go_wp2_with (
    at_builtin
    refine wpList_append_rows rfl _ _ rfl w5.heap.size _ (.slice aM M1.length cM) M1 rfl oM7 aR cR M2 rfl oR (by omega) s57 ?_
    intro v8 w8 o8 g8
    have S8 := hide (S7.app oM7 s45 g8)
    have OL8 := hide (show OutIn w.heap.size w5.heap.size w8 (.slice aL L1.length cL) L1 from ⟨OL7.out.1.app OL7.out.2 oM7 g8, OL7.out.2⟩)
    rw [EL.out] at o8
    have OM8 := hide (show OutIn w5.heap.size w8.heap.size w8 v8 L1 from ⟨o8, o8.lt⟩)
    have s58 : w5.heap.size ≤ w8.heap.size := Nat.le_trans s57 g8.size
    obtain ⟨aM8, cM8, rfl, _⟩ := o8.is
    clear o8 g8)
  have P0 := hide (show Pc w.heap.size g1 g2 g3 lim w5.heap.size w8.heap.size w8.heap.size w l (.slice aL L1.length cL) (.slice aM8 L1.length cM8) L1 0 (.slice none 0 0) [] w8 from ⟨(by
    have q := S8.out
    rw [Int.zero_add, Int.zero_add, EM.out.1, EM.out.2] at q
    exact q), OL8.out, OM8.out, ⟨rfl, .inl ⟨rfl, rfl⟩⟩, rfl, Nat.le_refl _, Nat.le_refl _⟩)
  have LE5 : Hid (w5.heap.size ≤ w8.heap.size) := s58
  have BN : Hid (w.heap.size ≤ w8.heap.size) := Nat.le_trans s45 s58
  generalize w8.heap.size = bN at *
  clear S8 OL8 OM8 S7 OL7 oM7 oR s57 s58 s45 sz5 sz6 sz7 EM EL HL
  go_loopw [15, 16] (fun vn iv wr => ∃ (k : Nat) (qs : List ByteArray), k ≤ n ∧ iv = .int .i64 (k : Int) ∧ Hid (Pc w.heap.size g1 g2 g3 lim w5.heap.size bN bN w l (.slice aL L1.length cL) (.slice aM8 L1.length cM8) L1 k vn qs wr)) (fun _ iv _ => n - (intOf iv).toNat)
  case atStart => exact ⟨0, [], Nat.zero_le _, rfl, P0.out⟩
  case round =>
    obtain ⟨k, qs, hk, rfl, pc⟩ := hrel
    by_cases hlt : k < n
    · have hkl : k < l.length := by rw [← NN.out]; exact hlt
      obtain ⟨a4, s4, ib4, ne4⟩ := bytes_one IB.out c k hkl (by rw [← NN.out]; exact hc)
      rw [← NN.out] at s4
      obtain ⟨R, hR⟩ := txts_of_lists2 (tellL lim (headsL (lastL [] (l.take k)) [l[k]]))
      have zR : R.length ≤ 1 := by have := congrArg List.length hR; rw [List.length_map] at this; have q := tell_len lim (lastL [] (l.take k)) [l[k]]; simp at q; omega
      have y1 := lost_le lim (headsL [] (l.take k))
      have y2 := heads_len [] (l.take k)
      rw [List.length_take] at y2
      have F := feed3 [l[k]] a4 (c - k) R hR pc.out.s3 h2 y1.1 (by simp; omega) (by simp; omega) (fun e => absurd e ne4) ib4
      rw [show ([l[k]] : List UInt8).length = 1 from rfl] at F
      obtain ⟨t1, t2, t3⟩ := take_one hkl lim
      have T3 := hide t3
      have HR := hide hR
      rw [t1, t2] at F
      have w1' : IntKind.i64.wrap ((k : Int) + 1) = (k : Int) + 1 := by rw [IntKind.wrap_i64]; omega
      have fq := pc.out.few
      clear ib4 ne4 hR y1 y2 t1 t2 t3
      go_wp2_with fail
      refine F.mono ?_
      rintro e wf ⟨aR', cR', rfl, oR', S9, K9, sz9⟩
      have oN9 := K9 _ _ _ pc.out.on
      have OL9 := hide (show OutIn w.heap.size w5.heap.size wf (.slice aL L1.length cL) L1 from ⟨K9 _ _ _ pc.out.ol.1, pc.out.ol.2⟩)
      have OM9 := hide (show OutIn w5.heap.size bN wf (.slice aM8 L1.length cM8) L1 from ⟨K9 _ _ _ pc.out.om.1, pc.out.om.2⟩)
      have bz : bN ≤ wf.heap.size := Nat.le_trans pc.out.sz sz9
      have S9' := hide S9
      have L5 : Hid (w5.heap.size ≤ bN) := by show _ ≤ _; exact LE5.out
      clear F s4 K9 S9
      go_wp2_with (
        at_builtin
        refine wpList_append_rows rfl _ _ rfl bN _ u15 qs rfl oN9 aR' cR' R rfl oR' (by omega) bz ?_
        intro v9 w9 o9 g9
        have N9 := hide (show Pc w.heap.size g1 g2 g3 lim w5.heap.size bN bN w l (.slice aL L1.length cL) (.slice aM8 L1.length cM8) L1 (k + 1) v9 (qs ++ R) w9 from ⟨S9'.out.app oN9 BN.out g9, ⟨OL9.out.1.app (fun j hj => Nat.lt_of_lt_of_le (OL9.out.2 j hj) L5.out) oN9 g9, OL9.out.2⟩, ⟨OM9.out.1.app OM9.out.2 oN9 g9, OM9.out.2⟩, o9, (by rw [List.map_append, pc.out.tell, HR.out, T3.out]), Nat.le_trans bz g9.size, by rw [List.length_append]; omega⟩)
        clear o9 g9)
      go_roundw
      case rel => exact ⟨k + 1, qs ++ R, by omega, by go_num, N9.out⟩
      case measure => simp [intOf]; omega
    · obtain rfl : k = n := by omega
      have TK : l.take k = l := List.take_of_length_le (by rw [← NN.out]; exact Nat.le_refl _)
      obtain rfl : qs = L1 := txts_eq (by rw [pc.out.tell, TK, HL1.out])
      have SZ := hide (show S3 w.heap.size g1 g2 g3 lim w (lastL [] l) (lostL lim (headsL [] l)) (lastL [] l) (lostL lim (headsL [] l)) (lastL [] l) (lostL lim (headsL [] l)) wr from (by have := pc.out.s3; unfold PcS at this; rw [TK] at this; exact this))
      obtain ⟨aN, cN, rfl, _⟩ := pc.out.on.is
      have o1 := hide pc.out.ol.1
      have o2 := hide pc.out.om.1
      have o3 := hide pc.out.on
      obtain ⟨x0, hx0⟩ : ∃ x0 : ByteArray, lst x0 = (lastL [] l).take (lim + 1) := ⟨⟨((lastL [] l).take (lim + 1)).toArray⟩, by simp [lst]⟩
      have zq : qs.length ≤ 140737488355328 := by omega
      clear TK pc
      go_wp2_with fail
      refine (sameP o1.out o2.out zq).mono ?_
      rintro e wA ⟨rfl, bA⟩
      have o1' := hide (o1.out.later bA)
      have o3' := hide (o3.out.later bA)
      have SA := hide (SZ.out.later bA)
      clear bA o1 o2 o3 SZ
      go_wp2_with fail
      refine (sameP o1'.out o3'.out zq).mono ?_
      rintro e wB ⟨rfl, bB⟩
      have SB := SA.out.later bB
      have BL := hide SB.below
      have E1 := end1 SB x0 hx0
      have E2 := end1 SB.rot x0 hx0
      have E3 := end1 SB.rot.rot x0 hx0
      have G1 := lost1 SB
      have G2 := lost1 SB.rot
      have G3 := lost1 SB.rot.rot
      clear bB o1' o3' SA SB hx0 zq
      go_wp2_with (first
        | (go_at_call 23; (first | (with_reducible refine Calls.mono E1 ?_) | (with_reducible refine Calls.mono E2 ?_) | (with_reducible refine Calls.mono E3 ?_)); rintro e vE ⟨rfl, rfl⟩)
        | (go_at_call 22; (first | (with_reducible refine Calls.mono G1 ?_) | (with_reducible refine Calls.mono G2 ?_) | (with_reducible refine Calls.mono G3 ?_)); rintro e vL ⟨rfl, rfl⟩))
      go_returns
      exact ⟨rfl, BL.out⟩
set_option maxRecDepth 100000 in
set_option maxHeartbeats 4000000 in
theorem pieces_bad (n : Int) (hn : n < 1 ∨ 1024 < n) (a : Option Addr) (m c : Nat) (at_ : Int) (w : World) :
    Calls Try.prog 6 #[.int .i64 n, .slice a m c, .int .i64 at_] w fun e w' => e = .returned (.bool true) ∧ Below w.heap.size w w' := by
  have k1 := fun w => news_bad n hn w
  by_cases h : n < 1
  · clear hn
    go_enter Try.func6, Try.ntmps6
    go_wp2_with (first | (go_at_call 17; refine (k1 _).mono ?_; rintro e w1 ⟨rfl, rfl⟩) | (go_at_call 10; refine (alive5 _).mono ?_; rintro e w3 ⟨rfl, b3⟩))
    go_returns
    exact ⟨rfl, b3⟩
  · have h2 : 1024 < n := by omega
    clear hn
    go_enter Try.func6, Try.ntmps6
    go_wp2_with (first | (go_at_call 17; refine (k1 _).mono ?_; rintro e w1 ⟨rfl, rfl⟩) | (go_at_call 10; refine (alive5 _).mono ?_; rintro e w3 ⟨rfl, b3⟩))
    go_returns
    exact ⟨rfl, b3⟩
theorem law_WirePieces (n : Int) (a : Option Addr) (c : Nat) (l : List UInt8) (at_ : Int) (wf : (Lit.int .i64 n).wf = true) (hl : l.length ≤ 1048576) (hc : l.length ≤ c) (hn : a = none → l.length = 0 ∧ c = 0) (wf2 : (Lit.int .i64 at_).wf = true) (w : World) (ib : IsBytes w a l) :
    Calls Try.prog 6 #[.int .i64 n, .slice a l.length c, .int .i64 at_] w fun e w' => e = .returned (.bool true) ∧ Below w.heap.size w w' := by
  by_cases h : n < 1 ∨ 1024 < n
  · exact pieces_bad n h a _ c at_ w
  · obtain ⟨k, rfl⟩ := Int.eq_ofNat_of_zero_le (show 0 ≤ n by omega)
    by_cases h1 : at_ < 0
    · exact pieces_low k (by omega) (by omega) a c l at_ w ib hc hn hl h1
    by_cases h2 : (l.length : Int) < at_
    · exact pieces_high k (by omega) (by omega) a c l at_ w ib hc hn hl h2
    · exact pieces_mid k (by omega) (by omega) a c l at_ w ib hc hn hl (by omega) (by omega)
end Go.Proofs.Ythaphijkfedihaa
