/- sink: played. -/
import Derived.Test.YtbahhlgcebgfeaaDoorSnk13
import Derived.Test.YtbahhlgcebgfeaaDoorSnk14
import Derived.Test.YtbahhlgcebgfeaaDoorPieces
namespace Go.Proofs.YtbahhlgcebgfeaaDoor
set_option linter.unusedVariables false
set_option linter.unusedSimpArgs false
open Go.RowKit W
theorem IsPieces.later {w w' : World} {a : Option Addr} {ls : List (List UInt8)} (h : IsPieces w a ls) (b : Below w.heap.size w w') : IsPieces w' a ls := by
  rcases h with h | ⟨g, o, rfl, lt, h⟩
  · exact .inl h
  · refine .inr ⟨g, o, rfl, Nat.lt_of_lt_of_le lt b.size, fun i hi => ?_⟩
    obtain ⟨a, c, h1, h2, h3, h4⟩ := h i hi
    exact ⟨a, c, (b.cell (p := ⟨g, o + i, none⟩) lt).trans h1, h2, h3, h4.later b⟩
/-- The sink behind k frames whose numbers are their places. -/
def plS (P : List Ch) (L : List (List UInt8)) : Nat → SS
  | 0 => ss0 P
  | k + 1 => frS (plS P L k) k (L.getD k [])
theorem pl_last (P : List Ch) (L : List (List UInt8)) (k : Nat) : (plS P L k).hd = true → (plS P L k).last < (k : Int) := by
  induction k with
  | zero => intro h; simp [plS] at h
  | succ k ih =>
    intro _
    have hn : ¬ ((plS P L k).hd = true ∧ ((k : Nat) : Int) ≤ (plS P L k).last) := fun q => by have := ih q.1; omega
    have := (frs_hd (plS P L k) k (L.getD k []) hn).2
    rw [plS, this]; omega
theorem pl_no (P : List Ch) (L : List (List UInt8)) (k : Nat) : ¬ ((plS P L k).hd = true ∧ ((k : Nat) : Int) ≤ (plS P L k).last) := fun q => by have := pl_last P L k q.1; omega
theorem pl_e (P : List Ch) (L : List (List UInt8)) (k : Nat) : frE (plS P L k) k = 0 := by unfold frE; rw [if_neg (pl_no P L k)]
theorem pl_bd (P : List Ch) (L : List (List UInt8)) (sb : ∀ b ∈ L, b.length ≤ 1048576) (k : Nat) : Bd (plS P L k) (67108928 * (k : Int)) (1048576 * k) k := by
  induction k with
  | zero => exact Bd.new P
  | succ k ih =>
    have hb : (L.getD k []).length ≤ 1048576 := by
      rw [List.getD_eq_getElem?_getD]
      cases e : L[k]? with
      | none => simp
      | some b => exact sb b (List.mem_of_getElem? e)
    have b2 := ih.fr k (L.getD k [])
    exact ⟨b2.n0, Int.le_trans b2.n (by omega), fun x hx => Nat.le_trans (b2.b x hx) (by omega), b2.c, b2.w, b2.o⟩
theorem pl_sm (P : List Ch) (L : List (List UInt8)) (sb : ∀ b ∈ L, b.length ≤ 1048576) (k l : Nat) (hk : k ≤ 1048576) (hl : l ≤ 1048576) : SmS (plS P L k) l :=
  (pl_bd P L sb k).sm (by omega) (by omega) (by omega)
theorem scf4 {w : World} {g e : Nat} {a b c d : Value} (h : w.heap[g]? = some (.cells #[a, b, c, d] e (0, 0))) : (w.cell? ⟨g, 0, none⟩ = some a ∧ w.cell? ⟨g, 1, none⟩ = some b ∧ w.cell? ⟨g, 2, none⟩ = some c ∧ w.cell? ⟨g, 3, none⟩ = some d) ∧ w.frozen? ⟨g, 0, none⟩ = false ∧ w.frozen? ⟨g, 1, none⟩ = false ∧ w.frozen? ⟨g, 2, none⟩ = false ∧ w.frozen? ⟨g, 3, none⟩ = false := by
  refine ⟨sc4 h, ?_, ?_, ?_, ?_⟩ <;> simp [World.frozen?, h]
theorem set4 {w : World} {g e : Nat} {a b c d : Value} (h : w.heap[g]? = some (.cells #[a, b, c, d] e (0, 0))) (a' b' c' d' : Value) : ((((w.setCell ⟨g, 0, none⟩ a').setCell ⟨g, 1, none⟩ b').setCell ⟨g, 2, none⟩ c').setCell ⟨g, 3, none⟩ d').heap[g]? = some (.cells #[a', b', c', d'] e (0, 0)) := by
  simp [World.setCell, Array.getElem?_modify, h]
theorem boxz (w : World) (v1 v2 v3 v4 : Value) : Below w.heap.size w (w.alloc (.cells #[v1, v2, v3, v4] 38)) := ba w _
theorem Aw.report_tl {B : Nat} {w X : World} {g : Nat} {S : SS} (h : Aw B w X g S) (sm : SmS S 0) :
    Calls Tryd.prog 15 #[.pointer (some ⟨g, 0, none⟩)] X fun e w' => ∃ a c aw cw al cl C, e = .returned (.agg #[.slice a C.length c, .slice aw S.wh.length cw, .slice al S.lo.length cl, .int .i64 S.n]) ∧ C.map (fun y : CE => y.2) = S.cs ∧ Tl X.heap.size w' (.slice a C.length c) (.slice aw S.wh.length cw) (.slice al S.lo.length cl) C S.wh S.lo ∧ Below X.heap.size X w' ∧ Aw B w w' g S := by
  obtain ⟨M, s, m⟩ := h.sk
  refine Calls.mono (report_spec s sm) ?_
  rintro e w' ⟨cv, wv, lv, C, rfl, t, d, b⟩
  obtain ⟨a, c, aw, cw, al, cl, rfl, rfl, rfl, r⟩ := t.rep
  exact ⟨a, c, aw, cw, al, cl, C, rfl, d, t, b, h.next b⟩
theorem row_low {w : World} {B B' e sz n : Nat} {v : Value} {xs : List Value} (o : w.ownsRow B e sz v n xs) (h : B' ≤ B) : w.ownsRow B' e sz v n xs := by
  refine ⟨o.1, o.2.imp id ?_⟩
  rintro ⟨g, cap, cur, e, hb, r⟩
  exact ⟨g, cap, cur, e, Nat.le_trans h hb, r⟩
theorem Tl.lower {B B' : Nat} {w : World} {cv wv lv : Value} {C : List CE} {wh lo : List Int} (h : Tl B w cv wv lv C wh lo) (l : B' ≤ B) : Tl B' w cv wv lv C wh lo :=
  ⟨row_low h.oc l, fun x hx => row_low (h.ob x hx) l, h.ap, row_low h.ow l, row_low h.ol l, h.aw⟩
theorem Tl.as_rep {B : Nat} {w : World} {a aw al : Option Addr} {n nw nl c cw cl : Nat} {C : List CE} {wh lo : List Int} (h : Tl B w (.slice a n c) (.slice aw nw cw) (.slice al nl cl) C wh lo) : Rep w a aw al C wh lo := by
  obtain ⟨a6, c6, aw6, cw6, al6, cl6, e1, e2, e3, r⟩ := h.rep
  injection e1 with e1 _ _
  injection e2 with e2 _ _
  injection e3 with e3 _ _
  subst e1 e2 e3
  exact r
theorem Tl.box {B : Nat} {w : World} {cv wv lv : Value} {C : List CE} {wh lo : List Int} (h : Tl B w cv wv lv C wh lo) {d : Nat} (hd : d < B) (i : Nat) (v : Value) : Tl B (w.setCell ⟨d, i, none⟩ v) cv wv lv C wh lo :=
  h.chg (Chg.set (S := (· = d)) v rfl) (fun k q e => by have := (h.old q).1; omega)
theorem below_set {w X : World} {g : Nat} (h : Below g w X) (i : Nat) (v : Value) {j : Nat} (l : g ≤ j) : Below g w (X.setCell ⟨j, i, none⟩ v) :=
  ⟨h.os, h.tape, h.output, by simpa using h.size, fun k hk => (Below.heap_setCell X ⟨j, i, none⟩ v k (by simp only; omega)).trans (h.block k hk)⟩
set_option maxRecDepth 100000 in
set_option maxHeartbeats 4000000 in
theorem played_tl {w : World} {ea : Addr} (ef : w.cell? ⟨0, 0, none⟩ = some (EV ea)) {a : Option Addr} {c : Nat} {P : List Ch} (hp : IsCh w a P) (hn : a = none → P.length = 0 ∧ c = 0) (sp : P.length ≤ 1048576) {la : Option Addr} {lc : Nat} {L : List (List UInt8)} (hl : IsPieces w la L) (sl : L.length ≤ 1048576) (sb : ∀ b ∈ L, b.length ≤ 1048576) :
    Calls Tryd.prog 17 #[.slice a P.length c, .slice la L.length lc] w fun e w' => ∃ a c aw cw al cl C, e = .returned (.tuple #[.agg #[.slice a C.length c, .slice aw (plS P L L.length).wh.length cw, .slice al (plS P L L.length).lo.length cl, .int .i64 (plS P L L.length).n], .bool true]) ∧ C.map (fun y : CE => y.2) = (plS P L L.length).cs ∧ Tl w.heap.size w' (.slice a C.length c) (.slice aw (plS P L L.length).wh.length cw) (.slice al (plS P L L.length).lo.length cl) C (plS P L L.length).wh (plS P L L.length).lo ∧ Below w.heap.size w w' := by
  have EF := hide ef
  have KN := fun (X : World) (b : Below w.heap.size w X) => new_spec (c := c) (hp.chg (Chg.of_below (S := fun _ => False) b) (fun _ _ q => q)) hn (Nat.le_trans sp (by omega))
  have HL := hide hl
  have SB := hide sb
  obtain ⟨np, hnp⟩ : ∃ np, np = P.length := ⟨_, rfl⟩
  rw [← hnp] at KN ⊢
  obtain ⟨nl, hnl⟩ : ∃ nl, nl = L.length := ⟨_, rfl⟩
  rw [← hnl] at sl ⊢
  have NL := hide hnl
  clear ef hp hn sp hl sb hnp hnl
  go_enter Tryd.func17, Tryd.ntmps17
  go_upto_region 1 with (fail)
  refine abs_wp (fun X => Hid (Below w.heap.size w X) ∧ X.heap[w.heap.size]? = some (.cells #[.slice none 0 0, .slice none 0 0, .slice none 0 0, .int .i64 0] 38 (0, 0)) ∧ w.heap.size < X.heap.size) ⟨hide (ba w _), heap_alloc_new w _, by simp⟩ ?_
  rintro W0 ⟨B0, D0, L0⟩
  have EF0 := hide ((B0.out.cell (p := ⟨0, 0, none⟩) (cellb_lt EF.out)).trans EF.out)
  have HL0 := hide (HL.out.later B0.out)
  go_wp2_with (go_at_call 10; refine Calls.mono (KN _ B0.out) ?_; rintro e w2 ⟨g, M, rfl, s2, m2, b2⟩; have A2 := hide (aw_new0 s2 m2 b2); clear s2 m2 b2 KN)
  go_loopw [7] (fun i wr => ∃ k : Nat, k ≤ nl ∧ i = .int .i64 k ∧ Hid (Aw W0.heap.size W0 wr g (plS P L k))) (fun i _ => nl - (intOf i).toNat)
  case atStart => exact ⟨0, by omega, rfl, A2⟩
  case round =>
    obtain ⟨k, hk, rfl, AK⟩ := hrel
    clear A2
    by_cases hlt : k < nl
    · have hkl : k < L.length := by rw [← NL.out]; exact hlt
      obtain ⟨gl, ol, rfl, ltl, hcl⟩ := HL0.out.resolve_left (fun e => by rw [e] at hkl; simp at hkl)
      obtain ⟨ab, cb, x1, x2, x3, x4⟩ := hcl k hkl
      have y1 := (AK.out.be.cell (p := ⟨gl, ol + k, none⟩) ltl).trans x1
      have hbl : L[k].length ≤ 1048576 := SB.out _ (List.getElem_mem hkl)
      have SM := hide (pl_sm P L SB.out k L[k].length (by omega) hbl)
      have KF := AK.out.frame_old EF0.out SM.out x4 x2 k
      rw [pl_e, show L[k] = L.getD k [] by simp [hkl]] at KF
      rw [show L[k] = L.getD k [] by simp [hkl]] at y1
      have KF' : ∀ (e : Ending) (w' : World), e = .returned (.int .i64 0) ∧ Aw W0.heap.size W0 w' g (frS (plS P L k) k (L.getD k [])) → e = .returned (.int .i64 0) ∧ Hid (Aw W0.heap.size W0 w' g (plS P L (k + 1))) := fun e w' q => ⟨q.1, hide q.2⟩
      have KF := hide (KF.mono KF')
      clear SM x1 x2 x3 x4 hbl hcl KF'
      generalize (L.getD k []).length = lk at KF y1
      have hlt' : (k : Int) < (nl : Int) := by omega
      have lt2 := Nat.lt_of_lt_of_le ltl AK.out.be.size
      clear AK
      go_wp2_with (go_at_call 12; refine Calls.mono KF.out ?_; rintro e w4 ⟨rfl, A4⟩; clear KF)
      go_roundw
      case rel => exact ⟨k + 1, by omega, by go_num, A4⟩
      case measure => simp [intOf]; omega
    · obtain rfl : k = nl := by omega
      have SM := hide (pl_sm P L SB.out k 0 (by omega) (by omega))
      have hlt' : ¬ (k : Int) < (k : Int) := by omega
      have EF9 := EF0
      go_wp2_with (first
        | (go_at_call 15; refine Calls.mono (AK.out.report_tl SM.out) ?_; rintro e w5 ⟨a5, c5, aw5, cw5, al5, cl5, C, rfl, hC, RP, b5, A5⟩; have LW := hide (Nat.lt_of_lt_of_le L0 AK.out.be.size); have RP := hide RP; have HC := hide hC; have A5 := hide A5; clear hC b5 AK)
        | (go_at_call 16; refine Calls.mono (awake_is ((A5.out.be.cell (p := ⟨0, 0, none⟩) (cellb_lt EF0.out)).trans EF0.out)) ?_; rintro e w3 ⟨rfl, k3⟩; have A3 := hide (A5.out.next k3); have RP3 := hide (RP.out.later k3); have S4 := hide (set4 ((A3.out.be.block _ L0).trans D0)); obtain ⟨⟨d0, d1, d2, d3⟩, f0, f1, f2, f3⟩ := scf4 ((A3.out.be.block _ L0).trans D0); have dl := Nat.lt_of_lt_of_le L0 A3.out.be.size; clear k3 RP A5 D0 L0))
      have T9 := hide ((((RP3.out.box LW.out 0 (.slice a5 C.length c5)).box LW.out 1 (.slice aw5 (plS P L k).wh.length cw5)).box LW.out 2 (.slice al5 (plS P L k).lo.length cl5)).box LW.out 3 (.int .i64 (plS P L k).n))
      have B9 := hide (below_set (below_set (below_set (below_set (B0.out.trans (A3.out.be.mono B0.out.size)) 0 (.slice a5 C.length c5) (Nat.le_refl w.heap.size)) 1 (.slice aw5 (plS P L k).wh.length cw5) (Nat.le_refl w.heap.size)) 2 (.slice al5 (plS P L k).lo.length cl5) (Nat.le_refl w.heap.size)) 3 (.int .i64 (plS P L k).n) (Nat.le_refl w.heap.size))
      have S9 := S4.out (.slice a5 C.length c5) (.slice aw5 (plS P L k).wh.length cw5) (.slice al5 (plS P L k).lo.length cl5) (.int .i64 (plS P L k).n)
      generalize (((w3.setCell ⟨w.heap.size, 0, none⟩ (.slice a5 C.length c5)).setCell ⟨w.heap.size, 1, none⟩ (.slice aw5 (plS P L k).wh.length cw5)).setCell ⟨w.heap.size, 2, none⟩ (.slice al5 (plS P L k).lo.length cl5)).setCell ⟨w.heap.size, 3, none⟩ (.int .i64 (plS P L k).n) = W9 at T9 B9 S9 ⊢
      clear d0 d1 d2 d3 f0 f1 f2 f3 S4
      obtain ⟨d0, d1, d2, d3⟩ := sc4 S9
      have l9 := blk_lt S9
      clear S9
      refine bodyPost_ret (by simp [results, Tryd.results17, go_sem, d0, d1, d2, d3]; try rfl) rfl ?_
      exact ⟨_, _, _, _, _, _, _, rfl, HC.out, T9.out.lower (Nat.le_of_lt LW.out), B9.out⟩
theorem played_spec {w : World} {ea : Addr} (ef : w.cell? ⟨0, 0, none⟩ = some (EV ea)) {a : Option Addr} {c : Nat} {P : List Ch} (hp : IsCh w a P) (hn : a = none → P.length = 0 ∧ c = 0) (sp : P.length ≤ 1048576) {la : Option Addr} {lc : Nat} {L : List (List UInt8)} (hl : IsPieces w la L) (sl : L.length ≤ 1048576) (sb : ∀ b ∈ L, b.length ≤ 1048576) :
    Calls Tryd.prog 17 #[.slice a P.length c, .slice la L.length lc] w fun e w' => ∃ a c aw cw al cl C, e = .returned (.tuple #[.agg #[.slice a C.length c, .slice aw (plS P L L.length).wh.length cw, .slice al (plS P L L.length).lo.length cl, .int .i64 (plS P L L.length).n], .bool true]) ∧ C.map (fun y : CE => y.2) = (plS P L L.length).cs ∧ Rep w' a aw al C (plS P L L.length).wh (plS P L L.length).lo ∧ Below w.heap.size w w' := by
  refine Calls.mono (played_tl ef hp hn sp hl sl sb) ?_
  rintro e w' ⟨a, c, aw, cw, al, cl, C, rfl, hC, t, b⟩
  exact ⟨a, c, aw, cw, al, cl, C, rfl, hC, t.as_rep, b⟩
end Go.Proofs.YtbahhlgcebgfeaaDoor
