/- sink: SinkNamed. -/
import Derived.Test.YtbahhlgcebgfeaaDoorSnk17
namespace Go.Proofs.YtbahhlgcebgfeaaDoor
set_option linter.unusedVariables false
set_option linter.unusedSimpArgs false
open Go.RowKit W
theorem pieces_len {w : World} {a : Option Addr} {ls : List (List UInt8)} (h : IsPieces w a ls) (j : Nat) (hj : j < ls.length) : ∃ g o ab cb, a = some ⟨g, o, none⟩ ∧ g < w.heap.size ∧ w.cell? ⟨g, o + j, none⟩ = some (.slice ab (ls.getD j []).length cb) ∧ (ls.getD j []).length ≤ cb ∧ (ab = none → (ls.getD j []).length = 0 ∧ cb = 0) ∧ IsBytes w ab (ls.getD j []) := by
  obtain ⟨g, o, rfl, lt, h⟩ := h.resolve_left (fun e => by rw [e] at hj; simp at hj)
  obtain ⟨ab, cb, x1, x2, x3, x4⟩ := h j hj
  rw [show ls[j] = ls.getD j [] by simp [hj]] at x1 x2 x3 x4
  exact ⟨g, o, ab, cb, rfl, lt, x1, x2, x3, x4⟩
set_option maxRecDepth 100000 in
set_option maxHeartbeats 8000000 in
theorem sink_named {w : World} {ea : Addr} (ef : w.cell? ⟨0, 0, none⟩ = some (EV ea)) {a : Option Addr} {c : Nat} {P : List Ch} (hp : IsCh w a P) (hn : a = none → P.length = 0 ∧ c = 0) (sp : P.length ≤ 1048576) {la : Option Addr} {lc : Nat} {L : List (List UInt8)} (hl : IsPieces w la L) (sl : L.length ≤ 1048576) (sb : ∀ b ∈ L, b.length ≤ 1048576) :
    Calls Tryd.prog 6 #[.slice a P.length c, .slice la L.length lc] w fun e w' => e = .returned (.bool true) ∧ Below w.heap.size w w' := by
  have kp := played_spec ef (c := c) (lc := lc) hp hn sp hl sl sb
  have nm := nm_all P L L.length
  have bd := pl_bd P L sb L.length
  obtain ⟨S, hS⟩ : ∃ S, S = plS P L L.length := ⟨_, rfl⟩
  rw [← hS] at kp nm bd
  have hw : S.wh.length ≤ 1048576 := Nat.le_trans bd.w sl
  have ho : S.lo.length ≤ 1048576 := Nat.le_trans bd.o sl
  have hc : S.cs.length ≤ 1048576 := Nat.le_trans bd.c sl
  have hcl := nm.cs
  have NM := hide nm
  have HL := hide hl
  have hsum := nm.sum
  obtain ⟨np, hnp⟩ : ∃ np, np = P.length := ⟨_, rfl⟩
  obtain ⟨nl, hnl⟩ : ∃ nl, nl = L.length := ⟨_, rfl⟩
  rw [← hnl] at sl hsum hcl ⊢
  rw [← hnp] at sp ⊢
  rw [← hnp, ← hnl] at kp
  have KP := hide kp
  have NL := hide hnl
  have NP := hide hnp
  obtain ⟨nw, hnw⟩ : ∃ nw, nw = S.wh.length := ⟨_, rfl⟩
  obtain ⟨no, hno⟩ : ∃ no, no = S.lo.length := ⟨_, rfl⟩
  obtain ⟨nc, hnc⟩ : ∃ nc, nc = S.cs.length := ⟨_, rfl⟩
  rw [← hnw] at hw hsum
  rw [← hno] at ho hsum
  rw [← hnc] at hc hcl
  have NW := hide hnw
  have NO := hide hno
  have NC := hide hnc
  clear kp nm bd hS ef hp hn hl sb hnp hnl hnw hno hnc
  go_enter Tryd.func6, Tryd.ntmps6
  go_upto_region 2 with (go_at_call 17; go_loud (refine Calls.mono KP.out ?_); go_loud (rintro e w1 ⟨a1, c1, aw, cw, al, cl, C, rfl, hC, RP, b1⟩); go_loud (have lC : C.length = nc := NC.out.symm ▸ hC ▸ (List.length_map _).symm); go_loud (rw [lC, ← NW.out, ← NO.out]); have RP := hide RP; have HC := hide hC; have B1 := hide b1; have LC := hide lC; clear hC b1 KP lC)
  refine abs_wp (fun X => Hid (Rep X a1 aw al C S.wh S.lo) ∧ Hid (Below w.heap.size w X) ∧ X.heap[w1.heap.size]? = some (.cells #[.slice a1 nc c1, .slice aw nw cw, .slice al no cl, .int .i64 S.n] 38 (0, 0))) ⟨hide (RP.out.later (ba _ _)), hide (B1.out.trans ((ba _ _).mono B1.out.size)), heap_alloc_new w1 _⟩ ?_
  rintro W1 ⟨R1, B2, D1⟩
  have lD := blk_lt D1
  obtain ⟨d, hd⟩ : ∃ d, d = w1.heap.size := ⟨_, rfl⟩
  rw [← hd] at D1 lD ⊢
  clear RP B1 hd
  have HL1 := hide (HL.out.later B2.out)
  have DF : Hid (∀ Y, Below W1.heap.size W1 Y → Y.cell? ⟨d, 0, none⟩ = some (.slice a1 nc c1) ∧ Y.cell? ⟨d, 1, none⟩ = some (.slice aw nw cw) ∧ Y.cell? ⟨d, 2, none⟩ = some (.slice al no cl) ∧ d < Y.heap.size) := fun Y b => by
    have := sc4 ((b.block d lD).trans D1)
    exact ⟨this.1, this.2.1, this.2.2.1, Nat.lt_of_lt_of_le lD b.size⟩
  clear D1
  obtain ⟨d0, d1, d2, lD⟩ := DF.out _ (Below.refl _ _)
  have w0 : IntKind.i64.wrap ((nw : Int) + (no : Int)) = (nl : Int) := by rw [IntKind.wrap_i64]; omega
  have w9 : ¬ (nl : Int) < (nc : Int) := by omega
  go_wp2_with fail
  clear d0 d1 d2 lD w0 w9 hsum
  go_loopw [7] (fun i wr => ∃ k : Nat, k ≤ nl ∧ i = .int .i64 k ∧ Hid (Below W1.heap.size W1 wr)) (fun i _ => nl - (intOf i).toNat)
  case atStart => exact ⟨0, by omega, rfl, hide (Below.refl _ _)⟩
  case round =>
    obtain ⟨k, hk, rfl, BR⟩ := hrel
    obtain ⟨d0, d1, d2, lD⟩ := DF.out _ BR.out
    by_cases hlt : k < nl
    · have hlt' : (k : Int) < (nl : Int) := by omega
      obtain ⟨gl, ol, ab, cb, rfl, ltl, x1, x2, _, _⟩ := pieces_len HL1.out k (by rw [← NL.out]; exact hlt)
      have y1 := (BR.out.cell (p := ⟨gl, ol + k, none⟩) ltl).trans x1
      have lt2 := Nat.lt_of_lt_of_le ltl BR.out.size
      have hx := NM.out.ex k (by rw [← NL.out]; exact hlt)
      have he := NM.out.em k (by rw [← NL.out]; exact hlt)
      have KW : ∀ m, CalcN 19 #[.slice aw nw cw, .int .i64 k] (wr.drewN m) (.bool (decide ((k : Int) ∈ S.wh))) := fun m => by
        rw [NW.out]
        exact has_is (R1.out.wh.later (BR.out.trans ((bel_drewN (Below.refl _ _) m).mono BR.out.size))) (by rw [← NW.out]; unfold maxLen; omega) k
      have KO : ∀ m, CalcN 19 #[.slice al no cl, .int .i64 k] (wr.drewN m) (.bool (decide ((k : Int) ∈ S.lo))) := fun m => by
        rw [NO.out]
        exact has_is (R1.out.lo.later (BR.out.trans ((bel_drewN (Below.refl _ _) m).mono BR.out.size))) (by rw [← NO.out]; unfold maxLen; omega) k
      have he2 : (L.getD k []).length = 0 → (k : Int) ∉ S.lo := fun e => he (List.eq_nil_of_length_eq_zero e)
      clear he
      generalize (L.getD k []).length = lk at he2 x1 x2 y1
      by_cases m : (k : Int) ∈ S.lo
      · have KW2 : ∀ m, CalcN 19 #[.slice aw nw cw, .int .i64 k] (wr.drewN m) (.bool false) := fun m2 => by
          have := KW m2
          rw [decide_eq_false (fun q => hx.1 q m)] at this
          exact this
        have KO2 : ∀ m, CalcN 19 #[.slice al no cl, .int .i64 k] (wr.drewN m) (.bool true) := fun m2 => by
          have := KO m2
          rw [decide_eq_true m] at this
          exact this
        have lk0 : ((lk : Int) == 0) = false := by
          rw [beq_eq_false_iff_ne]
          intro e
          exact he2 (by omega) m
        clear KW KO hx he2 m x1 x2 ltl
        go_wp2_with fail
        go_quiet (first | with_reducible exact still18 (KW2 _) | with_reducible exact still18 (KO2 _))
        have B2 := hide (bel_drewN BR.out nq)
        go_wp2_with fail
        go_roundw
        case rel => exact ⟨k + 1, by omega, by go_num, B2⟩
        case measure => simp [intOf]; omega
      · have KW2 : ∀ m, CalcN 19 #[.slice aw nw cw, .int .i64 k] (wr.drewN m) (.bool true) := fun m2 => by
          have := KW m2
          rw [decide_eq_true (hx.2 m)] at this
          exact this
        have KO2 : ∀ m, CalcN 19 #[.slice al no cl, .int .i64 k] (wr.drewN m) (.bool false) := fun m2 => by
          have := KO m2
          rw [decide_eq_false m] at this
          exact this
        clear KW KO hx he2 m x1 x2 ltl
        by_cases z : lk = 0
        · have lk0 : ((lk : Int) == 0) = true := by rw [beq_iff_eq]; omega
          go_wp2_with fail
          go_quiet (first | with_reducible exact still18 (KW2 _) | with_reducible exact still18 (KO2 _))
          have B2 := hide (bel_drewN BR.out nq)
          go_wp2_with fail
          go_roundw
          case rel => exact ⟨k + 1, by omega, by go_num, B2⟩
          case measure => simp [intOf]; omega
        · have lk0 : ((lk : Int) == 0) = false := by rw [beq_eq_false_iff_ne]; omega
          go_wp2_with fail
          go_quiet (first | with_reducible exact still18 (KW2 _) | with_reducible exact still18 (KO2 _))
          have B2 := hide (bel_drewN BR.out nq)
          go_wp2_with fail
          go_roundw
          case rel => exact ⟨k + 1, by omega, by go_num, B2⟩
          case measure => simp [intOf]; omega
    · obtain rfl : k = nl := by omega
      have hlt' : ¬ (k : Int) < (k : Int) := by omega
      go_wp2_with fail
      clear d0 d1 d2 lD hlt'
      go_loopw [8] (fun i wr => ∃ j : Nat, (j = 0 ∨ j < nw) ∧ i = .int .i64 ((j : Int) + 1) ∧ Hid (Below W1.heap.size W1 wr)) (fun i _ => nw - (intOf i).toNat)
      case atStart => exact ⟨0, by omega, rfl, BR⟩
      case round =>
        clear BR
        obtain ⟨j, hj, rfl, BR⟩ := hrel
        obtain ⟨d0, d1, d2, lD⟩ := DF.out _ BR.out
        by_cases hlt : j + 1 < nw
        · have hlt' : (j : Int) + 1 < (nw : Int) := by omega
          obtain ⟨gw, ow, rfl, LW⟩ := R1.out.wh.resolve_left (fun e => by have := NW.out; rw [e] at this; simp at this; omega)
          have hl1 : j + 1 < S.wh.length := by rw [← NW.out]; exact hlt
          have e0 := (BR.out.cell (p := ⟨gw, ow + j, none⟩) LW.lt).trans (LW.cell j (by omega))
          have e1 := (BR.out.cell (p := ⟨gw, ow + (j + 1), none⟩) LW.lt).trans (LW.cell (j + 1) hl1)
          have ltg := Nat.lt_of_lt_of_le LW.lt BR.out.size
          have cmp := pw_at NM.out.rw j hl1
          generalize S.wh[j] = x0 at e0 cmp
          generalize S.wh[j + 1] = x1 at e1 cmp
          have s1 : IntKind.i64.wrap ((j : Int) + 1 - 1) = (j : Int) := by rw [IntKind.wrap_i64]; omega
          have s3 : (0 : Int) ≤ (j : Int) := by omega
          have s4 : (j : Int) < (nw : Int) := by omega
          have s5 : (0 : Int) ≤ (j : Int) + 1 := by omega
          have s6 : ((j : Int) + 1).toNat = j + 1 := by omega
          have cmp2 : ¬ x1 ≤ x0 := by omega
          clear LW hl1
          go_wp2_with fail
          go_quiet (fail)
          have B2 := hide (bel_drewN BR.out nq)
          go_wp2_with fail
          go_roundw
          case rel => exact ⟨j + 1, .inr hlt, by go_num, B2⟩
          case measure => simp [intOf]; omega
        · have hlt' : ¬ (j : Int) + 1 < (nw : Int) := by omega
          go_wp2_with fail
          clear d0 d1 d2 lD hlt' hj hlt
          go_loopw [9] (fun i wr => ∃ j : Nat, (j = 0 ∨ j < no) ∧ i = .int .i64 ((j : Int) + 1) ∧ Hid (Below W1.heap.size W1 wr)) (fun i _ => no - (intOf i).toNat)
          case atStart => exact ⟨0, by omega, rfl, BR⟩
          case round =>
            clear BR
            obtain ⟨j, hj, rfl, BR⟩ := hrel
            obtain ⟨d0, d1, d2, lD⟩ := DF.out _ BR.out
            by_cases hlt : j + 1 < no
            · have hlt' : (j : Int) + 1 < (no : Int) := by omega
              obtain ⟨gl2, ol2, rfl, LW⟩ := R1.out.lo.resolve_left (fun e => by have := NO.out; rw [e] at this; simp at this; omega)
              have hl1 : j + 1 < S.lo.length := by rw [← NO.out]; exact hlt
              have e0 := (BR.out.cell (p := ⟨gl2, ol2 + j, none⟩) LW.lt).trans (LW.cell j (by omega))
              have e1 := (BR.out.cell (p := ⟨gl2, ol2 + (j + 1), none⟩) LW.lt).trans (LW.cell (j + 1) hl1)
              have ltg := Nat.lt_of_lt_of_le LW.lt BR.out.size
              have cmp := pw_at NM.out.rl j hl1
              generalize S.lo[j] = x0 at e0 cmp
              generalize S.lo[j + 1] = x1 at e1 cmp
              have s1 : IntKind.i64.wrap ((j : Int) + 1 - 1) = (j : Int) := by rw [IntKind.wrap_i64]; omega
              have s3 : (0 : Int) ≤ (j : Int) := by omega
              have s4 : (j : Int) < (no : Int) := by omega
              have s5 : (0 : Int) ≤ (j : Int) + 1 := by omega
              have s6 : ((j : Int) + 1).toNat = j + 1 := by omega
              have cmp2 : ¬ x1 ≤ x0 := by omega
              clear LW hl1
              go_wp2_with fail
              go_quiet (fail)
              have B2 := hide (bel_drewN BR.out nq)
              go_wp2_with fail
              go_roundw
              case rel => exact ⟨j + 1, .inr hlt, by go_num, B2⟩
              case measure => simp [intOf]; omega
            · have hlt' : ¬ (j : Int) + 1 < (no : Int) := by omega
              go_wp2_with fail
              clear d0 d1 d2 lD hlt' hj hlt
              go_loopw [10] (fun i wr => ∃ j : Nat, (j = 0 ∨ j < nc) ∧ i = .int .i64 (j : Int) ∧ Hid (Below W1.heap.size W1 wr)) (fun i _ => nc - (intOf i).toNat)
              case atStart => exact ⟨0, by omega, rfl, BR⟩
              case round =>
                clear BR
                obtain ⟨j, hj, rfl, BR⟩ := hrel
                obtain ⟨d0, d1, d2, lD⟩ := DF.out _ BR.out
                have s5 : IntKind.i64.wrap ((j : Int) + 1) = (j : Int) + 1 := by rw [IntKind.wrap_i64]; omega
                by_cases hlt : j + 1 < nc
                · have hlt' : (j : Int) + 1 < (nc : Int) := by omega
                  have hlC : j < C.length := by rw [LC.out]; omega
                  obtain ⟨gc, oc, rfl, ltc, cc⟩ := R1.out.co.resolve_left (fun e => by rw [e] at hlC; simp at hlC)
                  have e1 := (BR.out.cell (p := ⟨gc, oc + j * 2 + 1, none⟩) ltc).trans (cc j hlC).2
                  have ltg := Nat.lt_of_lt_of_le ltc BR.out.size
                  have hf : C[j].2.2 = true := by
                    have h1 := NM.out.fa j (by rw [← NC.out]; exact hlt)
                    have h2 : (C.map (fun y : CE => y.2))[j]'(by rw [List.length_map]; exact hlC) = C[j].2 := by rw [List.getElem_map]
                    rw [← h2]
                    have h3 := HC.out
                    rw [← h1]
                    congr 1
                    congr 1
                  rw [hf] at e1
                  have s4 : (j : Int) < (nc : Int) := by omega
                  have s3 : (0 : Int) ≤ (j : Int) := by omega
                  clear cc hlC hf
                  go_wp2_with fail
                  go_roundw
                  case rel => exact ⟨j + 1, .inr hlt, by go_num, BR⟩
                  case measure => simp [intOf]; omega
                · have hlt' : ¬ (j : Int) + 1 < (nc : Int) := by omega
                  go_wp2_with fail
                  go_returns
                  exact ⟨rfl, B2.out.trans (BR.out.mono B2.out.size)⟩
end Go.Proofs.YtbahhlgcebgfeaaDoor
