/- sink: SinkFrames. -/
import Derived.Test.YtbahhlgcebgfeaaDoorSnk24
import Derived.Laws.MakeOwn
import Derived.Laws.OwnMore
namespace Go.Proofs.YtbahhlgcebgfeaaDoor
set_option linter.unusedVariables false
set_option linter.unusedSimpArgs false
open Go.RowKit W
theorem info_bool : (Tryd.prog.info? 4).map (fun i => (i.zero, i.size, i.bytes)) = some (some (.bool false), 1, 1) := by kernel_rfl
abbrev noMarks (n : Nat) : List Bool := List.replicate (n + 1) false
theorem made_marks (n : Nat) : madeCells #[.bool false] (n + 1) = rowT (noMarks n) := by
  apply Array.toList_inj.1
  rw [toList_madeCells_one, rowT, List.map_replicate]
theorem make_marks (n : Nat) (hn : n ≤ 1048576) (v : World) : (Instr.makeSlice 51 (.int .i64 ((n : Int) + 1)) (.int .i64 ((n : Int) + 1))).run Tryd.prog v = .ok (.slice (some ⟨v.heap.size, 0, none⟩) (n + 1) (n + 1)) (v.alloc (.cells (rowT (noMarks n)) 4)) := by
  obtain ⟨i0, hi0, hz0, hz1, hz2⟩ := info_parts info_bool
  have := run_make (P := Tryd.prog) v 51 4 i0 (.bool false) Tryd.underlying51 hi0 hz0 .i64 .i64 ((n : Int) + 1) ((n : Int) + 1) (by omega) (by omega) (by rw [hz2]; omega) (by omega)
  rw [hz1] at this
  rw [this]
  have e : ((n : Int) + 1).toNat = n + 1 := by omega
  rw [e, Nat.mul_one, show (Value.bool false).cells = #[.bool false] from rfl, made_marks]
theorem chn_cons {W : List Int} {L : List (List UInt8)} {C : List CE} {cs : List (List UInt8 × Bool)} (hC : C.map (fun y : CE => y.2) = cs) {i t T : Nat} (hi : i < C.length) (h : Chn W L (cs.drop i) t T) : ∃ k1, Pth W C[i].2.2 L k1 (L.length - t) t C[i].2.1 ∧ k1 ≤ L.length ∧ Chn W L (cs.drop (i + 1)) k1 T := by
  have hi2 : i < cs.length := by rw [← hC, List.length_map]; exact hi
  rw [← List.getElem_cons_drop hi2] at h
  have e : cs[i] = C[i].2 := by subst hC; rw [List.getElem_map]
  rw [e] at h
  exact h
theorem chn_end {W : List Int} {L : List (List UInt8)} {C : List CE} {cs : List (List UInt8 × Bool)} (hC : C.map (fun y : CE => y.2) = cs) {i t T : Nat} (hi : i = C.length) (h : Chn W L (cs.drop i) t T) : T = t := by
  rw [List.drop_eq_nil_of_le (by rw [← hC, List.length_map]; omega)] at h
  exact h
set_option maxRecDepth 100000 in
set_option maxHeartbeats 8000000 in
theorem sink_frames {w : World} {ea : Addr} (ef : w.cell? ⟨0, 0, none⟩ = some (EV ea)) {a : Option Addr} {c : Nat} {P : List Ch} (hp : IsCh w a P) (hn : a = none → P.length = 0 ∧ c = 0) (sp : P.length ≤ 1048576) {la : Option Addr} {lc : Nat} {L : List (List UInt8)} (hl : IsPieces w la L) (sl : L.length ≤ 1048576) (sb : ∀ b ∈ L, b.length ≤ 1048576) :
    Calls Tryd.prog 5 #[.slice a P.length c, .slice la L.length lc] w fun e w' => e = .returned (.bool true) ∧ Below w.heap.size w w' := by
  have kp := played_tl ef (c := c) (lc := lc) hp hn sp hl sl sb
  have ch := chn_all P L
  have fa := (nm_all P L L.length).fa
  have bd := pl_bd P L sb L.length
  obtain ⟨S, hS⟩ : ∃ S, S = plS P L L.length := ⟨_, rfl⟩
  rw [← hS] at kp ch fa bd
  have hw : S.wh.length ≤ 1048576 := Nat.le_trans bd.w sl
  have hc : S.cs.length ≤ 1048576 := Nat.le_trans bd.c sl
  have FA := hide fa
  obtain ⟨T, hT, ch, he⟩ := ch
  have CH := hide ch
  have HE := hide he
  have HL := hide hl
  obtain ⟨np, hnp⟩ : ∃ np, np = P.length := ⟨_, rfl⟩
  obtain ⟨nl, hnl⟩ : ∃ nl, nl = L.length := ⟨_, rfl⟩
  rw [← hnl] at sl hT ⊢
  rw [← hnp] at sp ⊢
  rw [← hnp, ← hnl] at kp
  have KP := hide kp
  have NL := hide hnl
  obtain ⟨nc, hnc⟩ : ∃ nc, nc = S.cs.length := ⟨_, rfl⟩
  obtain ⟨nw, hnw⟩ : ∃ nw, nw = S.wh.length := ⟨_, rfl⟩
  obtain ⟨no, hno⟩ : ∃ no, no = S.lo.length := ⟨_, rfl⟩
  rw [← hnc] at hc
  rw [← hnw] at hw
  have NC := hide hnc
  have NW := hide hnw
  have NO := hide hno
  clear kp ch he fa bd hS ef hp hn hl sb hnp hnl hnc hnw hno
  go_enter Tryd.func5, Tryd.ntmps5
  go_upto_region 2 with (go_at_call 17; go_loud (refine Calls.mono KP.out ?_); go_loud (rintro e w1 ⟨a1, c1, aw, cw, al, cl, C, rfl, hC, RP, b1⟩); go_loud (have lC : C.length = nc := NC.out.symm ▸ hC ▸ (List.length_map _).symm); go_loud (rw [lC, ← NW.out, ← NO.out]); have RP := hide RP; have HC := hide hC; have B1 := hide b1; have LC := hide lC; clear hC b1 KP lC)
  refine abs_wp (fun X => Hid (Tl w.heap.size X (.slice a1 C.length c1) (.slice aw S.wh.length cw) (.slice al S.lo.length cl) C S.wh S.lo) ∧ Hid (Below w.heap.size w X) ∧ X.heap[w1.heap.size]? = some (.cells #[.slice a1 nc c1, .slice aw nw cw, .slice al no cl, .int .i64 S.n] 38 (0, 0))) ⟨hide (RP.out.later (ba _ _)), hide (B1.out.trans ((ba _ _).mono B1.out.size)), heap_alloc_new w1 _⟩ ?_
  rintro W1 ⟨R1, B2, D1⟩
  have lD := blk_lt D1
  obtain ⟨d, hd⟩ : ∃ d, d = w1.heap.size := ⟨_, rfl⟩
  rw [← hd] at D1 lD ⊢
  clear RP B1 hd
  have HL1 := hide (HL.out.later B2.out)
  have DF : Hid (∀ Y, Below W1.heap.size W1 Y → Y.cell? ⟨d, 0, none⟩ = some (.slice a1 nc c1) ∧ Y.cell? ⟨d, 1, none⟩ = some (.slice aw nw cw) ∧ Y.cell? ⟨d, 2, none⟩ = some (.slice al no cl) ∧ Y.cell? ⟨d, 3, none⟩ = some (.int .i64 S.n) ∧ d < Y.heap.size) := fun Y b => by
    have := sc4 ((b.block d lD).trans D1)
    exact ⟨this.1, this.2.1, this.2.2.1, this.2.2.2, Nat.lt_of_lt_of_le lD b.size⟩
  clear D1 lD
  have s0 : IntKind.i64.wrap ((nl : Int) + 1) = (nl : Int) + 1 := by rw [IntKind.wrap_i64]; omega
  have mk := make_marks nl sl
  go_upto_region 5 with (fail)
  refine abs_wp (fun X => Hid (Below W1.heap.size W1 X) ∧ Hid (MB X W1.heap.size (noMarks nl))) ⟨hide (ba _ _), hide (heap_alloc_new W1 _)⟩ ?_
  rintro W2 ⟨B3, M2⟩
  obtain ⟨g1, hg1⟩ : ∃ g1, g1 = W1.heap.size := ⟨_, rfl⟩
  rw [← hg1] at M2 ⊢
  have G1 : Hid (W1.heap.size ≤ g1) := hide (Nat.le_of_eq hg1.symm)
  clear hg1
  obtain ⟨z0, z1, z2⟩ := M2.out.cell 0 (by simp)
  have M3 := hide (M2.out.set 0)
  have B4 := hide (below_set B3.out 0 (.bool true) G1.out)
  have LM : Hid (((noMarks nl).set 0 true).length = nl + 1) := hide (by simp)
  have TM : Hid (((noMarks nl).set 0 true)[0]? = some true) := hide (by simp)
  go_upto_region 6 with (fail)
  generalize W2.setCell ⟨g1, 0, none⟩ (.bool true) = W3 at M3 B4 ⊢
  generalize (noMarks nl).set 0 true = Bs0 at M3 LM TM
  clear z0 z1 z2 B3 M2
  go_wp2_with fail
  go_loopw [7, 8] (fun av iv wr => ∃ (i gb : Nat) (Bs : List Bool) (t : Nat), i ≤ nc ∧ iv = .int .i64 i ∧ av = .slice (some ⟨gb, 0, none⟩) (nl + 1) (nl + 1) ∧ Hid (Below W1.heap.size W1 wr) ∧ Hid (W1.heap.size ≤ gb) ∧ Hid (MB wr gb Bs) ∧ Hid (Bs.length = nl + 1) ∧ Hid (Bs[t]? = some true) ∧ Hid (t ≤ nl ∧ Chn S.wh L (S.cs.drop i) t T)) (fun _ iv _ => nc - (intOf iv).toNat)
  case atStart => exact ⟨0, g1, Bs0, 0, by omega, rfl, rfl, B4, G1, M3, LM, TM, hide ⟨by omega, CH.out⟩⟩
  case round =>
    clear B4 G1 M3 LM TM
    obtain ⟨i, gb, Bs, t, hi, rfl, rfl, BR, GB, MR, LR, TR, CR⟩ := hrel
    obtain ⟨d0, d1, d2, d3, lD⟩ := DF.out _ BR.out
    by_cases hlt : i < nc
    · have hlt' : (i : Int) < (nc : Int) := by omega
      have i0 : (0 : Int) ≤ (i : Int) := by omega
      have s1 : IntKind.i64.wrap ((i : Int) + 1) = (i : Int) + 1 := by rw [IntKind.wrap_i64]; omega
      have hiC : i < C.length := by rw [LC.out]; exact hlt
      obtain ⟨k1, cp, ck, cr⟩ := chn_cons HC.out hiC CR.out.2
      have CP := hide cp
      have CK : k1 ≤ nl := by rw [NL.out]; exact ck
      have CQ := hide cr
      clear cp ck cr
      have RP := (R1.out.later BR.out).as_rep
      obtain ⟨gc, oc, rfl, ltc, cc⟩ := RP.co.resolve_left (fun e => by rw [e] at hiC; simp at hiC)
      obtain ⟨q0, q1⟩ := cc i hiC
      have fx : i + 1 < nc → C[i].2.2 = true := fun h => by
        have h1 := FA.out i (by rw [← NC.out]; exact h)
        have h2 : (C.map (fun y : CE => y.2))[i]'(by rw [List.length_map]; exact hiC) = C[i].2 := by rw [List.getElem_map]
        rw [← h2, ← h1]
        have h3 := HC.out
        congr 1
        congr 1
      have FX := hide fx
      obtain ⟨fl, hfl⟩ : ∃ fl, fl = C[i].2.2 := ⟨_, rfl⟩
      rw [← hfl] at q1 FX
      clear cc q0 fx RP hfl
      have PRE : Hid (i + 1 < nc ∧ fl = true ∨ ¬ i + 1 < nc) := by
        by_cases h : i + 1 < nc
        · exact .inl ⟨h, FX.out h⟩
        · exact .inr h
      have mk2 := mk
      rcases PRE.out with ⟨hb, rfl⟩ | hb
      · have hb' : (i : Int) + 1 < (nc : Int) := by omega
        go_upto_region 12 with (fail)
        refine abs_wp (fun X => Hid (Below W1.heap.size W1 X) ∧ Hid (MB X gb Bs) ∧ Hid (MB X wr.heap.size (noMarks nl))) ⟨hide (BR.out.trans ((ba wr _).mono BR.out.size)), hide (((ba wr _).block gb (blk_lt MR.out)).trans MR.out), hide (heap_alloc_new wr _)⟩ ?_
        rintro W4 ⟨B5, M4, N4⟩
        have lgb := blk_lt MR.out
        obtain ⟨g2, hg2⟩ : ∃ g2, g2 = wr.heap.size := ⟨_, rfl⟩
        rw [← hg2] at N4 ⊢
        have G2 := hide (show gb ≠ g2 ∧ W1.heap.size ≤ g2 from ⟨by omega, by have := BR.out.size; omega⟩)
        clear hg2 d0 d1 d2 d3 lD q1 ltc lgb
        go_wp2_with fail
        have LN : Hid ((noMarks nl).length = nl + 1) := hide (by simp)
        generalize noMarks nl = Bn at N4 LN
        go_loopw [10] (fun kv w5 => ∃ (k : Nat) (Bs2 : List Bool), k ≤ nl + 1 ∧ kv = .int .i64 k ∧ Hid (Below W1.heap.size W1 w5) ∧ Hid (MB w5 gb Bs) ∧ Hid (MB w5 g2 Bs2) ∧ Hid (Bs2.length = nl + 1) ∧ Hid (t < k → Bs2[k1]? = some true)) (fun kv _ => nl + 1 - (intOf kv).toNat)
        case atStart => exact ⟨0, Bn, by omega, rfl, B5, M4, N4, LN, fun h => absurd h (Nat.not_lt_zero _)⟩
        case round =>
          clear B5 M4 N4 LN
          obtain ⟨k, Bs2, hk, rfl, B5, M4, N4, LN, KT⟩ := hrel
          by_cases hkl : k ≤ nl
          · have hkl' : (k : Int) ≤ (nl : Int) := by omega
            have hkl2 : (k : Int) < (nl : Int) + 1 := by omega
            have hk0 : (0 : Int) ≤ (k : Int) := by omega
            have hkb : k < Bs.length := by rw [LR.out]; omega
            obtain ⟨z0, _, z2⟩ := M4.out.cell k hkb
            obtain ⟨bk, hbk⟩ : ∃ bk, bk = Bs[k] := ⟨_, rfl⟩
            rw [← hbk] at z0
            have BK := hide hbk
            clear hbk
            cases bk
            · have KT2 : Hid (t < k + 1 → Bs2[k1]? = some true) := fun h => by
                by_cases e : t = k
                · have := TR.out
                  rw [e, List.getElem?_eq_getElem hkb, ← BK.out] at this
                  cases this
                · exact KT.out (by omega)
              clear BK hkb
              go_wp2_with fail
              go_roundw
              case rel => exact ⟨k + 1, Bs2, by omega, by go_num, B5, M4, N4, LN, KT2⟩
              case measure => simp [intOf]; omega
            · obtain ⟨d0, d1, d2, d3, lD⟩ := DF.out _ B5.out
              have KE := hide (ends_spec B5.out (lc := lc) HL1.out (by rw [← NL.out]; exact sl) (R1.out.later B5.out) (by rw [← NW.out]; unfold maxLen; omega) S.n hiC (by rw [LC.out]; unfold maxLen; omega) (k := k) (by rw [← NL.out]; exact hkl) G2.out.2 N4.out (by rw [LN.out, ← NL.out]))
              rw [← NL.out, ← NW.out, ← NO.out, LC.out] at KE
              clear BK hkb
              go_wp2_with (go_at_call 18; go_loud (refine Calls.mono KE.out ?_); go_loud (rintro e w6 ⟨rfl, Bs3, EN⟩); have EN := hide EN; clear KE d0 d1 d2 d3 lD)
              have B6 : Hid (Below W1.heap.size W1 w6) := hide (B5.out.trans (EN.out.ch.below (B := W1.heap.size) (fun q e => by have := G2.out.2; omega) B5.out.size))
              have M6 : Hid (MB w6 gb Bs) := hide ((EN.out.ch.block gb (blk_lt M4.out) G2.out.1).trans M4.out)
              have KT2 : Hid (t < k + 1 → Bs3[k1]? = some true) := fun h => by
                by_cases e : t = k
                · refine EN.out.got k1 ?_
                  have := CP.out
                  rw [← NL.out, e] at this
                  exact this
                · exact EN.out.up k1 (KT.out (by omega))
              have L6 : Hid (Bs3.length = nl + 1) := hide (EN.out.len.trans LN.out)
              go_roundw
              case rel => exact ⟨k + 1, Bs3, by omega, by go_num, B6, M6, hide EN.out.mb, L6, KT2⟩
              case measure => simp [intOf]; omega
          · have hkl' : ¬ (k : Int) ≤ (nl : Int) := by omega
            have KT3 : Hid (Bs2[k1]? = some true) := hide (KT.out (by have := CR.out.1; omega))
            go_wp2_with fail
            go_roundw
            case rel => exact ⟨i + 1, g2, Bs2, k1, by omega, by go_num, rfl, B5, hide G2.out.2, N4, LN, KT3, hide ⟨CK, CQ.out⟩⟩
            case measure => simp [intOf]; omega
      · have hb' : ¬ (i : Int) + 1 < (nc : Int) := by omega
        go_upto_region 12 with (fail)
        refine abs_wp (fun X => Hid (Below W1.heap.size W1 X) ∧ Hid (MB X gb Bs) ∧ Hid (MB X wr.heap.size (noMarks nl))) ⟨hide (BR.out.trans ((ba wr _).mono BR.out.size)), hide (((ba wr _).block gb (blk_lt MR.out)).trans MR.out), hide (heap_alloc_new wr _)⟩ ?_
        rintro W4 ⟨B5, M4, N4⟩
        have lgb := blk_lt MR.out
        obtain ⟨g2, hg2⟩ : ∃ g2, g2 = wr.heap.size := ⟨_, rfl⟩
        rw [← hg2] at N4 ⊢
        have G2 := hide (show gb ≠ g2 ∧ W1.heap.size ≤ g2 from ⟨by omega, by have := BR.out.size; omega⟩)
        clear hg2 d0 d1 d2 d3 lD q1 ltc lgb
        go_wp2_with fail
        have LN : Hid ((noMarks nl).length = nl + 1) := hide (by simp)
        generalize noMarks nl = Bn at N4 LN
        go_loopw [10] (fun kv w5 => ∃ (k : Nat) (Bs2 : List Bool), k ≤ nl + 1 ∧ kv = .int .i64 k ∧ Hid (Below W1.heap.size W1 w5) ∧ Hid (MB w5 gb Bs) ∧ Hid (MB w5 g2 Bs2) ∧ Hid (Bs2.length = nl + 1) ∧ Hid (t < k → Bs2[k1]? = some true)) (fun kv _ => nl + 1 - (intOf kv).toNat)
        case atStart => exact ⟨0, Bn, by omega, rfl, B5, M4, N4, LN, fun h => absurd h (Nat.not_lt_zero _)⟩
        case round =>
          clear B5 M4 N4 LN
          obtain ⟨k, Bs2, hk, rfl, B5, M4, N4, LN, KT⟩ := hrel
          by_cases hkl : k ≤ nl
          · have hkl' : (k : Int) ≤ (nl : Int) := by omega
            have hkl2 : (k : Int) < (nl : Int) + 1 := by omega
            have hk0 : (0 : Int) ≤ (k : Int) := by omega
            have hkb : k < Bs.length := by rw [LR.out]; omega
            obtain ⟨z0, _, z2⟩ := M4.out.cell k hkb
            obtain ⟨bk, hbk⟩ : ∃ bk, bk = Bs[k] := ⟨_, rfl⟩
            rw [← hbk] at z0
            have BK := hide hbk
            clear hbk
            cases bk
            · have KT2 : Hid (t < k + 1 → Bs2[k1]? = some true) := fun h => by
                by_cases e : t = k
                · have := TR.out
                  rw [e, List.getElem?_eq_getElem hkb, ← BK.out] at this
                  cases this
                · exact KT.out (by omega)
              clear BK hkb
              go_wp2_with fail
              go_roundw
              case rel => exact ⟨k + 1, Bs2, by omega, by go_num, B5, M4, N4, LN, KT2⟩
              case measure => simp [intOf]; omega
            · obtain ⟨d0, d1, d2, d3, lD⟩ := DF.out _ B5.out
              have KE := hide (ends_spec B5.out (lc := lc) HL1.out (by rw [← NL.out]; exact sl) (R1.out.later B5.out) (by rw [← NW.out]; unfold maxLen; omega) S.n hiC (by rw [LC.out]; unfold maxLen; omega) (k := k) (by rw [← NL.out]; exact hkl) G2.out.2 N4.out (by rw [LN.out, ← NL.out]))
              rw [← NL.out, ← NW.out, ← NO.out, LC.out] at KE
              clear BK hkb
              go_wp2_with (go_at_call 18; go_loud (refine Calls.mono KE.out ?_); go_loud (rintro e w6 ⟨rfl, Bs3, EN⟩); have EN := hide EN; clear KE d0 d1 d2 d3 lD)
              have B6 : Hid (Below W1.heap.size W1 w6) := hide (B5.out.trans (EN.out.ch.below (B := W1.heap.size) (fun q e => by have := G2.out.2; omega) B5.out.size))
              have M6 : Hid (MB w6 gb Bs) := hide ((EN.out.ch.block gb (blk_lt M4.out) G2.out.1).trans M4.out)
              have KT2 : Hid (t < k + 1 → Bs3[k1]? = some true) := fun h => by
                by_cases e : t = k
                · refine EN.out.got k1 ?_
                  have := CP.out
                  rw [← NL.out, e] at this
                  exact this
                · exact EN.out.up k1 (KT.out (by omega))
              have L6 : Hid (Bs3.length = nl + 1) := hide (EN.out.len.trans LN.out)
              go_roundw
              case rel => exact ⟨k + 1, Bs3, by omega, by go_num, B6, M6, hide EN.out.mb, L6, KT2⟩
              case measure => simp [intOf]; omega
          · have hkl' : ¬ (k : Int) ≤ (nl : Int) := by omega
            have KT3 : Hid (Bs2[k1]? = some true) := hide (KT.out (by have := CR.out.1; omega))
            go_wp2_with fail
            go_roundw
            case rel => exact ⟨i + 1, g2, Bs2, k1, by omega, by go_num, rfl, B5, hide G2.out.2, N4, LN, KT3, hide ⟨CK, CQ.out⟩⟩
            case measure => simp [intOf]; omega
    · obtain rfl : i = nc := by omega
      have hlt' : ¬ (i : Int) < (i : Int) := by omega
      have TT : Hid (T = t) := hide (chn_end HC.out LC.out.symm CR.out.2)
      go_wp2_with fail
      clear d0 d1 d2 d3 lD hlt'
      go_loopw [11] (fun kv w5 => ∃ k : Nat, t ≤ k ∧ k ≤ nl ∧ kv = .int .i64 k ∧ w5 = wr) (fun kv _ => (intOf kv).toNat)
      case atStart => exact ⟨nl, CR.out.1, by omega, rfl, rfl⟩
      case round =>
        obtain ⟨k, hk1, hk2, rfl, rfl⟩ := hrel
        have hk0 : (0 : Int) ≤ (k : Int) := by omega
        have hk3 : (k : Int) < (nl : Int) + 1 := by omega
        have hkb : k < Bs.length := by rw [LR.out]; omega
        obtain ⟨z0, _, z2⟩ := MR.out.cell k hkb
        obtain ⟨bk, hbk⟩ : ∃ bk, bk = Bs[k] := ⟨_, rfl⟩
        rw [← hbk] at z0
        have BK := hide hbk
        have FB := hide (B2.out.trans (BR.out.mono B2.out.size))
        clear hbk
        cases bk
        · have hne : t ≠ k := fun e => by
            have := TR.out
            rw [e, List.getElem?_eq_getElem hkb, ← BK.out] at this
            cases this
          obtain ⟨j, rfl⟩ : ∃ j, k = j + 1 := ⟨k - 1, by omega⟩
          obtain ⟨gl, ol, lb, cl2, rfl, ltl, x1, x2, _, x4⟩ := pieces_len HL1.out j (by rw [← NL.out]; omega)
          have e0 : L.getD j [] = [] := HE.out j (by rw [TT.out]; omega) (by rw [← NL.out]; omega)
          rw [e0] at x1
          have y1 := (BR.out.cell (p := ⟨gl, ol + j, none⟩) ltl).trans x1
          have lt2 := Nat.lt_of_lt_of_le ltl BR.out.size
          have s1 : IntKind.i64.wrap (((j + 1 : Nat) : Int) - 1) = (j : Int) := by rw [IntKind.wrap_i64]; omega
          have s2 : (((j + 1 : Nat) : Int) == 0) = false := by rw [beq_eq_false_iff_ne]; omega
          have s3 : (0 : Int) ≤ (j : Int) := by omega
          have s4 : (j : Int) < (nl : Int) := by omega
          have s5 : IntKind.i64.wrap ((j : Int) + 1 - 1) = (j : Int) := by rw [IntKind.wrap_i64]; omega
          have s6 : ((j : Int) + 1 == 0) = false := by rw [beq_eq_false_iff_ne]; omega
          clear BK hkb x1 x2 x4 e0 ltl
          go_wp2_with fail
          go_roundw
          case rel => exact ⟨j, by omega, by omega, by first | rfl | go_num, by first | rfl | trivial⟩
          case measure => simp [intOf] <;> omega
        · clear BK hkb
          go_wp2_with fail
          go_returns
          exact ⟨rfl, FB.out⟩
end Go.Proofs.YtbahhlgcebgfeaaDoor
