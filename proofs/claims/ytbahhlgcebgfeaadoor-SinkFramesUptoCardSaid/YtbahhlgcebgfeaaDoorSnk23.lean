/- sink: ends. -/
import Derived.Test.YtbahhlgcebgfeaaDoorSnk18
import Derived.Laws.Concat
namespace Go.Proofs.YtbahhlgcebgfeaaDoor
set_option linter.unusedVariables false
set_option linter.unusedSimpArgs false
open Go.RowKit W
/-- From the frame j on, m frames being left, with these bytes: t is where the next connection may begin. -/
def Pth (W : List Int) (fl : Bool) (L : List (List UInt8)) (t : Nat) : Nat → Nat → List UInt8 → Prop
  | 0, j, rest => rest = [] ∧ t = j
  | m + 1, j, rest => (rest = [] ∧ t = j) ∨ (L.getD j [] = [] ∧ Pth W fl L t m (j + 1) rest) ∨ (L.getD j [] ≠ [] ∧ (j : Int) ∉ W ∧ fl = true ∧ rest.length < (L.getD j []).length ∧ (L.getD j []).take rest.length = rest ∧ t = j + 1) ∨ (L.getD j [] ≠ [] ∧ (j : Int) ∈ W ∧ (L.getD j []).length ≤ rest.length ∧ rest.take (L.getD j []).length = L.getD j [] ∧ Pth W fl L t m (j + 1) (rest.drop (L.getD j []).length))
def tx (l : List UInt8) : ByteArray := ⟨l.toArray⟩
theorem tx_size (l : List UInt8) : (tx l).size = l.length := by simp [tx, ByteArray.size]
theorem tx_inj {a b : List UInt8} (h : tx a = tx b) : a = b := by
  unfold tx at h
  injection h with h
  simpa using h
theorem tx_take (l : List UInt8) (n : Nat) : (tx l).extract 0 n = tx (l.take n) := by
  apply ByteArray.ext
  simp [tx, ByteArray.data_extract]
theorem tx_drop (l : List UInt8) (n : Nat) : (tx l).extract n (tx l).size = tx (l.drop n) := by
  apply ByteArray.ext
  rw [tx_size]
  simp [tx, ByteArray.data_extract, List.extract_eq_take_drop, List.take_of_length_le]
theorem IsBytes.take {w : World} {a : Option Addr} {l : List UInt8} (h : IsBytes w a l) (e : Nat) : IsBytes w a (l.take e) := by
  rcases h with rfl | ⟨g, o, rfl, lt, h⟩
  · exact .inl (by simp)
  · refine .inr ⟨g, o, rfl, lt, fun j hj => ?_⟩
    rw [List.length_take] at hj
    rw [h j (by omega), List.getElem_take]
def rowT (Bs : List Bool) : Array Value := (Bs.map Value.bool).toArray
/-- The marks' block. -/
def MB (w : World) (gb : Nat) (Bs : List Bool) : Prop := w.heap[gb]? = some (.cells (rowT Bs) 4 (0, 0))
theorem MB.cell {w : World} {gb : Nat} {Bs : List Bool} (h : MB w gb Bs) (j : Nat) (hj : j < Bs.length) : w.cell? ⟨gb, j, none⟩ = some (.bool Bs[j]) ∧ w.frozen? ⟨gb, j, none⟩ = false ∧ gb < w.heap.size := by
  refine ⟨?_, ?_, blk_lt h⟩
  · unfold MB at h; simp [World.cell?, h, rowT, hj]
  · unfold MB at h; simp [World.frozen?, h]
theorem MB.set {w : World} {gb : Nat} {Bs : List Bool} (h : MB w gb Bs) (j : Nat) : MB (w.setCell ⟨gb, j, none⟩ (.bool true)) gb (Bs.set j true) := by
  unfold MB at h ⊢
  simp [World.setCell, Array.getElem?_modify, h, rowT]
theorem set_keeps {Bs : List Bool} {j t : Nat} (h : Bs[t]? = some true) : (Bs.set j true)[t]? = some true := by
  by_cases e : j = t
  · subst e
    obtain ⟨q, _⟩ := List.getElem?_eq_some_iff.1 h
    simp [q]
  · rw [List.getElem?_set_ne e]; exact h
theorem set_this {Bs : List Bool} {j : Nat} (h : j < Bs.length) : (Bs.set j true)[j]? = some true := by simp [h]
/-- What ends comes to. -/
structure EnP (W : List Int) (fl : Bool) (L : List (List UInt8)) (m k : Nat) (rest : List UInt8) (Bs : List Bool) (gb : Nat) (w : World) (Bs' : List Bool) (w' : World) : Prop where
  mb : MB w' gb Bs'
  len : Bs'.length = Bs.length
  up : ∀ t : Nat, Bs[t]? = some true → Bs'[t]? = some true
  got : ∀ t, Pth W fl L t m k rest → Bs'[t]? = some true
  ch : Chg (· = gb) w w'
/-- In its midst. -/
structure EnI (W : List Int) (fl : Bool) (L : List (List UInt8)) (m k : Nat) (rest : List UInt8) (Bs : List Bool) (gb : Nat) (w : World) (m' j : Nat) (r : List UInt8) (Bs' : List Bool) (w' : World) : Prop where
  mb : MB w' gb Bs'
  len : Bs'.length = Bs.length
  up : ∀ t : Nat, Bs[t]? = some true → Bs'[t]? = some true
  got : ∀ t, Pth W fl L t m k rest → Bs'[t]? = some true ∨ Pth W fl L t m' j r
  ch : Chg (· = gb) w w'
section
variable {W : List Int} {fl : Bool} {L : List (List UInt8)} {m k : Nat} {rest : List UInt8} {Bs : List Bool} {gb : Nat} {w : World} {m' j : Nat} {r : List UInt8} {Bs' : List Bool} {w' w2 : World}
theorem EnI.start (h : MB w gb Bs) : EnI W fl L m k rest Bs gb w m k rest Bs w := ⟨h, rfl, fun _ q => q, fun _ q => .inr q, Chg.refl _ _⟩
theorem EnI.mark (h : EnI W fl L m k rest Bs gb w m' j r Bs' w') (t : Nat) : EnI W fl L m k rest Bs gb w m' j r (Bs'.set t true) (w'.setCell ⟨gb, t, none⟩ (.bool true)) :=
  ⟨h.mb.set t, by rw [List.length_set]; exact h.len, fun t q => set_keeps (h.up t q), fun t q => (h.got t q).imp set_keeps id, h.ch.trans (Chg.set (S := (· = gb)) _ rfl) (fun _ _ q => q)⟩
theorem EnI.later (h : EnI W fl L m k rest Bs gb w m' j r Bs' w') (b : Below w'.heap.size w' w2) : EnI W fl L m k rest Bs gb w m' j r Bs' w2 :=
  ⟨(b.block gb (blk_lt h.mb)).trans h.mb, h.len, h.up, h.got, h.ch.trans (Chg.of_below (S := (· = gb)) b) (fun _ _ q => q)⟩
theorem EnI.step {m2 j2 : Nat} {r2 : List UInt8} (h : EnI W fl L m k rest Bs gb w m' j r Bs' w') (f : ∀ t, Pth W fl L t m' j r → Bs'[t]? = some true ∨ Pth W fl L t m2 j2 r2) : EnI W fl L m k rest Bs gb w m2 j2 r2 Bs' w' :=
  ⟨h.mb, h.len, h.up, fun t q => by
    rcases h.got t q with q | q
    · exact .inl q
    · exact f t q, h.ch⟩
theorem EnI.done (h : EnI W fl L m k rest Bs gb w m' j r Bs' w') (f : ∀ t, Pth W fl L t m' j r → Bs'[t]? = some true) : EnP W fl L m k rest Bs gb w Bs' w' :=
  ⟨h.mb, h.len, h.up, fun t q => by
    rcases h.got t q with q | q
    · exact q
    · exact f t q, h.ch⟩
end
theorem EnP.later {W : List Int} {fl : Bool} {L : List (List UInt8)} {m k : Nat} {rest : List UInt8} {Bs : List Bool} {gb : Nat} {w w2 : World} {Bs' : List Bool} {w' : World} (h : EnP W fl L m k rest Bs gb w Bs' w') (b : Below w'.heap.size w' w2) : EnP W fl L m k rest Bs gb w Bs' w2 :=
  ⟨(b.block gb (blk_lt h.mb)).trans h.mb, h.len, h.up, h.got, h.ch.trans (Chg.of_below (S := (· = gb)) b) (fun _ _ q => q)⟩
theorem EnP.all {W : List Int} {fl : Bool} {L : List (List UInt8)} {m k nl : Nat} {rest : List UInt8} {Bs : List Bool} {gb : Nat} {w W1 : World} {Bs' : List Bool} {w' : World} (h : EnP W fl L m k rest Bs gb W1 Bs' w') (e : nl = L.length) (b : Below w.heap.size w W1) (g : gb < w.heap.size) : EnP W fl L m k rest Bs gb w Bs' w' :=
  ⟨h.mb, h.len, h.up, h.got, (Chg.of_below (S := (· = gb)) b).trans h.ch (fun _ _ q => q)⟩
set_option maxRecDepth 100000 in
set_option maxHeartbeats 8000000 in
theorem ends_spec {w0 w : World} (b0 : Below w0.heap.size w0 w) {la : Option Addr} {lc : Nat} {L : List (List UInt8)} (hl : IsPieces w0 la L) (sl : L.length ≤ 1048576) {B : Nat} {a aw al : Option Addr} {c cw cl : Nat} {C : List CE} {wh lo : List Int} (T : Tl B w (.slice a C.length c) (.slice aw wh.length cw) (.slice al lo.length cl) C wh lo) (hw : wh.length ≤ maxLen) (n : Int) {i k : Nat} (hi : i < C.length) (si : C.length ≤ maxLen) (hk : k ≤ L.length) {gb : Nat} (hg0 : w0.heap.size ≤ gb) {Bs : List Bool} (hB : MB w gb Bs) (hBl : Bs.length = L.length + 1) :
    Calls Tryd.prog 18 #[.agg #[.slice a C.length c, .slice aw wh.length cw, .slice al lo.length cl, .int .i64 n], .slice la L.length lc, .int .i64 i, .int .i64 k, .slice (some ⟨gb, 0, none⟩) (L.length + 1) (L.length + 1)] w fun e w' => e = .returned (.tuple #[]) ∧ ∃ Bs', EnP wh C[i].2.2 L (L.length - k) k C[i].2.1 Bs gb w Bs' w' := by
  obtain ⟨nl, hnl⟩ : ∃ nl, nl = L.length := ⟨_, rfl⟩
  obtain ⟨nw, hnw⟩ : ∃ nw, nw = wh.length := ⟨_, rfl⟩
  obtain ⟨no, hno⟩ : ∃ no, no = lo.length := ⟨_, rfl⟩
  obtain ⟨nc, hnc⟩ : ∃ nc, nc = C.length := ⟨_, rfl⟩
  have NE : Hid (∀ q, InT (.slice a C.length c) (.slice aw wh.length cw) (.slice al lo.length cl) C q → q ≠ gb) := fun q h => T.no hB (by decide) (by decide) (by decide) h
  have R0 := T.as_rep
  obtain ⟨gc, oc, rfl, ltc, cc⟩ := R0.co.resolve_left (fun e => by rw [e] at hi; simp at hi)
  obtain ⟨ab, cb, hv, ib⟩ := R0.by_ _ (List.getElem_mem hi)
  obtain ⟨k0, k1⟩ := cc i hi
  rw [hv] at k0
  have hgc : gc ≠ gb := NE.out gc (.inl rfl)
  obtain ⟨rest, hrest⟩ : ∃ rest, rest = C[i].2.1 := ⟨_, rfl⟩
  obtain ⟨fl, hfl⟩ : ∃ fl, fl = C[i].2.2 := ⟨_, rfl⟩
  rw [← hrest] at k0 ib ⊢
  rw [← hfl] at k1 ⊢
  have HT := hide T
  have HL := hide hl
  have B00 := hide b0
  have HB := hide hB
  have hi2 : i < nc := by rw [hnc]; exact hi
  rw [← hnc] at si ⊢
  rw [← hnw] at hw ⊢
  rw [← hno]
  rw [← hnl] at sl hk hBl ⊢
  unfold maxLen at si hw
  have NL := hide hnl
  have NW := hide hnw
  have NO := hide hno
  have NC := hide hnc
  have lgb := blk_lt hB
  clear hl T hnl hnw hno hnc cc hv hrest hfl b0 hi R0
  go_enter Tryd.func18, Tryd.ntmps18
  go_upto_region 1 with (fail)
  refine abs_wp (fun X => Hid (Below w.heap.size w X) ∧ X.heap[w.heap.size]? = some (.cells #[.slice (some ⟨gc, oc, none⟩) nc c, .slice aw nw cw, .slice al no cl, .int .i64 n] 38 (0, 0))) ⟨hide (ba _ _), heap_alloc_new w _⟩ ?_
  rintro W1 ⟨B1, D1⟩
  obtain ⟨d, hd⟩ : ∃ d, d = w.heap.size := ⟨_, rfl⟩
  have hdg : d ≠ gb := by omega
  have hg1 := lgb
  have HT1 := hide (HT.out.later B1.out)
  have MB1 := hide ((B1.out.block gb lgb).trans HB.out)
  have B01 := hide (B00.out.trans (B1.out.mono B00.out.size))
  have k0 := (B1.out.cell (p := ⟨gc, oc + i * 2, none⟩) ltc).trans k0
  have k1 := (B1.out.cell (p := ⟨gc, oc + i * 2 + 1, none⟩) ltc).trans k1
  have ltc := Nat.lt_of_lt_of_le ltc B1.out.size
  have t0 := text_of (ib.later B1.out) cb W1 (Below.refl _ _)
  rw [show (⟨rest.toArray⟩ : ByteArray) = tx rest from rfl] at t0
  rw [← hd] at D1 ⊢
  have ld := blk_lt D1
  have DD := hide D1
  obtain ⟨d0, d1, d2, d3⟩ := sc4 D1
  have i0 : (0 : Int) ≤ (i : Int) := by omega
  have i1 : (i : Int) < (nc : Int) := by omega
  obtain ⟨rl, hrl⟩ : ∃ rl, rl = rest.length := ⟨_, rfl⟩
  rw [← hrl] at k0 t0
  have HK1 := hide k1
  have HLT := hide ltc
  clear D1 ib hd hrl
  go_wp2_with fail
  clear d0 d1 d2 d3 k0 k1 ltc t0 ld
  go_loopw [10, 11] (fun s q wr => ∃ (j m : Nat) (r : List UInt8) (Bs' : List Bool), j + m = nl ∧ s = .string (tx r) ∧ q = .int .i64 j ∧ Hid (EnI wh fl L (nl - k) k rest Bs gb W1 m j r Bs' wr)) (fun _ q _ => nl + 1 - (intOf q).toNat)
  case atStart => exact ⟨k, nl - k, rest, Bs, by omega, rfl, rfl, hide (EnI.start MB1.out)⟩
  case round =>
    obtain ⟨j, m, r, Bs1, hjm, rfl, rfl, EI⟩ := hrel
    have hjn : j ≤ nl := by omega
    have hjn' : (j : Int) ≤ (nl : Int) := by omega
    obtain ⟨x, hx⟩ : ∃ x, x = tx r := ⟨_, rfl⟩
    rw [← hx]
    have HX := hide hx
    clear hx
    by_cases c1 : r = []
    · have x0 : x = ⟨#[]⟩ := by rw [HX.out, c1]; rfl
      have se : ∀ v, (binOp .eql 9 (.string ⟨#[]⟩) (.string ⟨#[]⟩)).run Tryd.prog v = .ok (.bool true) v := str_eql_same ⟨#[]⟩
      obtain ⟨z0, z1, z2⟩ := EI.out.mb.cell j (by rw [EI.out.len, hBl]; omega)
      have EJ0 := hide (EI.out.mark j)
      rw [x0]
      go_upto_region 7 with (fail)
      rw [← x0]
      have HJ : Hid (r = [] → (Bs1.set j true)[j]? = some true) := fun _ => set_this (by rw [EI.out.len, hBl]; omega)
      generalize wr.setCell ⟨gb, j, none⟩ (.bool true) = W2 at EJ0 ⊢
      generalize Bs1.set j true = Bs2 at EJ0 HJ
      clear z0 z1 z2 EI se x0
      by_cases c2 : m = 0
      · obtain rfl : j = nl := by omega
        subst c2
        have EP := (EJ0.out.done (fun t q => by rw [q.2]; exact HJ.out q.1)).all NL.out B1.out hg1
        go_wp2_with fail
        go_returns
        exact ⟨rfl, _, EP⟩
      · obtain ⟨m2, rfl⟩ : ∃ m2, m = m2 + 1 := ⟨m - 1, by omega⟩
        have jn : ((j : Int) == (nl : Int)) = false := by rw [beq_eq_false_iff_ne]; omega
        have jl : (j : Int) < (nl : Int) := by omega
        have BW := hide (B01.out.trans (EJ0.out.ch.below (B := w0.heap.size) (fun q e => by omega) B01.out.size))
        obtain ⟨gl, ol, lb, cl2, rfl, ltl, x1, x2, _, x4⟩ := pieces_len HL.out j (by rw [← NL.out]; omega)
        have y1 := (BW.out.cell (p := ⟨gl, ol + j, none⟩) ltl).trans x1
        have lt2 := Nat.lt_of_lt_of_le ltl BW.out.size
        have YB := hide (x4.later BW.out)
        obtain ⟨b, hb⟩ : ∃ b, b = L.getD j [] := ⟨_, rfl⟩
        rw [← hb] at y1 x2 YB
        obtain ⟨lj, hlj⟩ : ∃ lj, lj = b.length := ⟨_, rfl⟩
        rw [← hlj] at y1 x2
        have HBB := hide hb
        have HLJ := hide hlj
        clear x1 x4 hb hlj ltl
        by_cases c3 : b = []
        · have l0 : lj = 0 := by rw [HLJ.out, c3]; rfl
          subst l0
          have EK := hide (EJ0.out.step (m2 := m2) (j2 := j + 1) (r2 := r) (fun t q => by
            rw [Pth, ← HBB.out] at q
            rcases q with ⟨q1, q2⟩ | ⟨_, q2⟩ | ⟨q1, _⟩ | ⟨q1, _⟩
            · rw [q2]; exact .inl (HJ.out q1)
            · exact .inr q2
            · exact absurd c3 q1
            · exact absurd c3 q1))
          go_wp2_with fail
          go_roundw
          case rel => exact ⟨j + 1, m2, r, Bs2, by omega, by rw [HX.out], by go_num, EK⟩
          case measure => simp [intOf]; omega
        · have l0 : 0 < lj := by rw [HLJ.out]; exact List.length_pos_iff.2 c3
          have l1 : ((lj : Int) == 0) = false := by rw [beq_eq_false_iff_ne]; omega
          have QF := hide (show ∀ t, Pth wh fl L t (m2 + 1) j r → (r = [] ∧ t = j) ∨ ((j : Int) ∉ wh ∧ fl = true ∧ r.length < b.length ∧ b.take r.length = r ∧ t = j + 1) ∨ ((j : Int) ∈ wh ∧ b.length ≤ r.length ∧ r.take b.length = b ∧ Pth wh fl L t m2 (j + 1) (r.drop b.length)) from fun t q => by
            rw [Pth, ← HBB.out] at q
            rcases q with q | ⟨q1, _⟩ | ⟨_, q⟩ | ⟨_, q⟩
            · exact .inl q
            · exact absurd q1 c3
            · exact .inr (.inl q)
            · exact .inr (.inr q))
          have TW := HT1.out.chg EJ0.out.ch (fun q i e => NE.out q i e)
          have DW := (EJ0.out.ch.block d (blk_lt DD.out) hdg).trans DD.out
          obtain ⟨d0, d1, d2, d3⟩ := sc4 DW
          have ld := blk_lt DW
          have KW : CalcN 19 #[.slice aw nw cw, .int .i64 j] W2 (.bool (decide ((j : Int) ∈ wh))) := by
            rw [NW.out]
            exact has_is TW.as_rep.wh (by rw [← NW.out]; unfold maxLen; exact hw) j
          have k1 := (EJ0.out.ch.cell (o := oc + i * 2 + 1) HLT.out hgc).trans HK1.out
          have ltc := Nat.lt_of_lt_of_le HLT.out EJ0.out.ch.size
          have t1 := fun u => text_of YB.out cl2 (W2.drewN u) (bel_drewN (Below.refl _ _) u)
          rw [show (⟨b.toArray⟩ : ByteArray) = tx b from rfl, ← HLJ.out] at t1
          have xs : x.size = r.length := by rw [HX.out, tx_size]
          obtain ⟨rn, hrn⟩ : ∃ rn, rn = r.length := ⟨_, rfl⟩
          rw [← hrn] at xs
          have HRN := hide hrn
          clear TW DW hrn
          by_cases c4 : (j : Int) ∈ wh
          · rw [decide_eq_true c4] at KW
            by_cases c7 : rn < lj
            · have c7' : (rn : Int) < (lj : Int) := by omega
              have EP := (EJ0.out.done (fun t q => by
                rcases QF.out t q with q | ⟨q1, _⟩ | ⟨_, q2, _⟩
                · rw [q.2]; exact HJ.out q.1
                · exact absurd c4 q1
                · rw [← HRN.out, ← HLJ.out] at q2; omega)).all NL.out B1.out hg1
              go_wp2_with (go_at_call 19; refine Calls.mono KW ?_; rintro e u ⟨rfl, rfl⟩)
              go_quiet (fail)
              go_wp2_with fail
              go_returns
              exact ⟨rfl, _, EP.later (bel_drewN (Below.refl _ _) nq)⟩
            · have c7' : ¬ (rn : Int) < (lj : Int) := by omega
              have exh : x.extract 0 lj = tx (r.take lj) := by rw [HX.out, tx_take]
              by_cases c8 : r.take lj = b
              · rw [c8] at exh
                obtain ⟨y, hy⟩ : ∃ y, y = tx b := ⟨_, rfl⟩
                rw [← hy] at exh t1
                have exd : x.extract lj rn = tx (r.drop lj) := by rw [← xs, HX.out, tx_drop]
                clear hy
                have EK := hide (EJ0.out.step (m2 := m2) (j2 := j + 1) (r2 := r.drop lj) (fun t q => by
                  rcases QF.out t q with q | ⟨q1, _⟩ | ⟨_, _, _, q4⟩
                  · rw [q.2]; exact .inl (HJ.out q.1)
                  · exact absurd c4 q1
                  · rw [← HLJ.out] at q4; exact .inr q4))
                go_wp2_with (go_at_call 19; refine Calls.mono KW ?_; rintro e u ⟨rfl, rfl⟩)
                go_quiet (fail)
                go_wp2_with fail
                go_roundw
                case rel => exact ⟨j + 1, m2, r.drop lj, Bs2, by omega, by first | rfl | rw [exd] | (rw [c1]; simp), by go_num, hide (EK.out.later (bel_drewN (Below.refl _ _) nq))⟩
                case measure => simp [intOf]; omega
              · have nep : ¬ (x.extract 0 lj).toList = (tx b).toList := toL_ne (fun e => c8 (tx_inj (exh.symm.trans e)))
                obtain ⟨y, hy⟩ : ∃ y, y = tx b := ⟨_, rfl⟩
                rw [← hy] at nep t1
                have nepb := beq_eq_false_iff_ne.2 nep
                clear hy exh
                have EP := (EJ0.out.done (fun t q => by
                  rcases QF.out t q with q | ⟨q1, _⟩ | ⟨_, _, q3, _⟩
                  · rw [q.2]; exact HJ.out q.1
                  · exact absurd c4 q1
                  · rw [← HLJ.out] at q3; exact absurd q3 c8)).all NL.out B1.out hg1
                go_wp2_with (go_at_call 19; refine Calls.mono KW ?_; rintro e u ⟨rfl, rfl⟩)
                go_quiet (fail)
                go_wp2_with fail
                go_returns
                exact ⟨rfl, _, EP.later (bel_drewN (Below.refl _ _) nq)⟩
          · rw [decide_eq_false c4] at KW
            cases fl
            · 
              have EP := (EJ0.out.done (fun t q => by
                rcases QF.out t q with q | ⟨_, q2, _⟩ | ⟨q1, _⟩
                · rw [q.2]; exact HJ.out q.1
                · cases q2
                · exact absurd q1 c4)).all NL.out B1.out hg1
              go_wp2_with (go_at_call 19; refine Calls.mono KW ?_; rintro e u ⟨rfl, rfl⟩)
              go_wp2_with fail
              go_returns
              exact ⟨rfl, _, EP⟩
            · by_cases c5 : rn < lj
              · have c5' : (rn : Int) < (lj : Int) := by omega
                have sl2 := bytes_to (a := lb) (c := cl2) (Nat.le_of_lt c5) x2
                have t2 := text_of (YB.out.take rn) cl2 W2 (Below.refl _ _)
                rw [List.length_take, ← HLJ.out, Nat.min_eq_left (Nat.le_of_lt c5), show (⟨(b.take rn).toArray⟩ : ByteArray) = tx (b.take rn) from rfl] at t2
                by_cases c6 : b.take rn = r
                · rw [c6, ← HX.out] at t2
                  obtain ⟨z0, z1, z2⟩ := EJ0.out.mb.cell (j + 1) (by rw [EJ0.out.len, hBl]; omega)
                  have EP := ((EJ0.out.mark (j + 1)).done (fun t q => by
                    rcases QF.out t q with q | ⟨_, _, _, _, q5⟩ | ⟨q1, _⟩
                    · rw [q.2]; exact set_keeps (HJ.out q.1)
                    · rw [q5]; exact set_this (by rw [EJ0.out.len, hBl]; omega)
                    · exact absurd q1 c4)).all NL.out B1.out hg1
                  go_wp2_with (go_at_call 19; refine Calls.mono KW ?_; rintro e u ⟨rfl, rfl⟩)
                  go_returns
                  exact ⟨rfl, _, EP⟩
                · have nep : ¬ (tx (b.take rn)).toList = x.toList := toL_ne (fun e => c6 (tx_inj (e.trans HX.out)))
                  obtain ⟨y, hy⟩ : ∃ y, y = tx (b.take rn) := ⟨_, rfl⟩
                  rw [← hy] at nep t2
                  have nepb := beq_eq_false_iff_ne.2 nep
                  clear hy
                  have EP := (EJ0.out.done (fun t q => by
                    rcases QF.out t q with q | ⟨_, _, _, q4, _⟩ | ⟨q1, _⟩
                    · rw [q.2]; exact HJ.out q.1
                    · rw [← HRN.out] at q4; exact absurd q4 c6
                    · exact absurd q1 c4)).all NL.out B1.out hg1
                  go_wp2_with (go_at_call 19; refine Calls.mono KW ?_; rintro e u ⟨rfl, rfl⟩)
                  go_returns
                  exact ⟨rfl, _, EP⟩
              · have c5' : ¬ (rn : Int) < (lj : Int) := by omega
                have EP := (EJ0.out.done (fun t q => by
                  rcases QF.out t q with q | ⟨_, _, q3, _⟩ | ⟨q1, _⟩
                  · rw [q.2]; exact HJ.out q.1
                  · rw [← HRN.out, ← HLJ.out] at q3; exact absurd q3 c5
                  · exact absurd q1 c4)).all NL.out B1.out hg1
                go_wp2_with (go_at_call 19; refine Calls.mono KW ?_; rintro e u ⟨rfl, rfl⟩)
                go_returns
                exact ⟨rfl, _, EP⟩
    · have x0 : x ≠ ⟨#[]⟩ := fun e => c1 (tx_inj (b := []) (HX.out.symm.trans e))
      have se : x.toList.isEmpty = false := by
        rw [ByteArray.toList_eq, HX.out]
        simpa [tx] using c1
      go_upto_region 7 with (fail)
      have HJ : Hid (r = [] → Bs1[j]? = some true) := fun e => absurd e c1
      have EJ0 := EI
      obtain ⟨W2, hW2⟩ : ∃ W2, W2 = wr := ⟨_, rfl⟩
      obtain ⟨Bs2, hBs2⟩ : ∃ Bs2, Bs2 = Bs1 := ⟨_, rfl⟩
      rw [← hW2, ← hBs2] at EJ0
      rw [← hBs2] at HJ
      rw [← hW2]
      clear EI se x0 hW2 hBs2
      by_cases c2 : m = 0
      · obtain rfl : j = nl := by omega
        subst c2
        have EP := (EJ0.out.done (fun t q => by rw [q.2]; exact HJ.out q.1)).all NL.out B1.out hg1
        go_wp2_with fail
        go_returns
        exact ⟨rfl, _, EP⟩
      · obtain ⟨m2, rfl⟩ : ∃ m2, m = m2 + 1 := ⟨m - 1, by omega⟩
        have jn : ((j : Int) == (nl : Int)) = false := by rw [beq_eq_false_iff_ne]; omega
        have jl : (j : Int) < (nl : Int) := by omega
        have BW := hide (B01.out.trans (EJ0.out.ch.below (B := w0.heap.size) (fun q e => by omega) B01.out.size))
        obtain ⟨gl, ol, lb, cl2, rfl, ltl, x1, x2, _, x4⟩ := pieces_len HL.out j (by rw [← NL.out]; omega)
        have y1 := (BW.out.cell (p := ⟨gl, ol + j, none⟩) ltl).trans x1
        have lt2 := Nat.lt_of_lt_of_le ltl BW.out.size
        have YB := hide (x4.later BW.out)
        obtain ⟨b, hb⟩ : ∃ b, b = L.getD j [] := ⟨_, rfl⟩
        rw [← hb] at y1 x2 YB
        obtain ⟨lj, hlj⟩ : ∃ lj, lj = b.length := ⟨_, rfl⟩
        rw [← hlj] at y1 x2
        have HBB := hide hb
        have HLJ := hide hlj
        clear x1 x4 hb hlj ltl
        by_cases c3 : b = []
        · have l0 : lj = 0 := by rw [HLJ.out, c3]; rfl
          subst l0
          have EK := hide (EJ0.out.step (m2 := m2) (j2 := j + 1) (r2 := r) (fun t q => by
            rw [Pth, ← HBB.out] at q
            rcases q with ⟨q1, q2⟩ | ⟨_, q2⟩ | ⟨q1, _⟩ | ⟨q1, _⟩
            · rw [q2]; exact .inl (HJ.out q1)
            · exact .inr q2
            · exact absurd c3 q1
            · exact absurd c3 q1))
          go_wp2_with fail
          go_roundw
          case rel => exact ⟨j + 1, m2, r, Bs2, by omega, by rw [HX.out], by go_num, EK⟩
          case measure => simp [intOf]; omega
        · have l0 : 0 < lj := by rw [HLJ.out]; exact List.length_pos_iff.2 c3
          have l1 : ((lj : Int) == 0) = false := by rw [beq_eq_false_iff_ne]; omega
          have QF := hide (show ∀ t, Pth wh fl L t (m2 + 1) j r → (r = [] ∧ t = j) ∨ ((j : Int) ∉ wh ∧ fl = true ∧ r.length < b.length ∧ b.take r.length = r ∧ t = j + 1) ∨ ((j : Int) ∈ wh ∧ b.length ≤ r.length ∧ r.take b.length = b ∧ Pth wh fl L t m2 (j + 1) (r.drop b.length)) from fun t q => by
            rw [Pth, ← HBB.out] at q
            rcases q with q | ⟨q1, _⟩ | ⟨_, q⟩ | ⟨_, q⟩
            · exact .inl q
            · exact absurd q1 c3
            · exact .inr (.inl q)
            · exact .inr (.inr q))
          have TW := HT1.out.chg EJ0.out.ch (fun q i e => NE.out q i e)
          have DW := (EJ0.out.ch.block d (blk_lt DD.out) hdg).trans DD.out
          obtain ⟨d0, d1, d2, d3⟩ := sc4 DW
          have ld := blk_lt DW
          have KW : CalcN 19 #[.slice aw nw cw, .int .i64 j] W2 (.bool (decide ((j : Int) ∈ wh))) := by
            rw [NW.out]
            exact has_is TW.as_rep.wh (by rw [← NW.out]; unfold maxLen; exact hw) j
          have k1 := (EJ0.out.ch.cell (o := oc + i * 2 + 1) HLT.out hgc).trans HK1.out
          have ltc := Nat.lt_of_lt_of_le HLT.out EJ0.out.ch.size
          have t1 := fun u => text_of YB.out cl2 (W2.drewN u) (bel_drewN (Below.refl _ _) u)
          rw [show (⟨b.toArray⟩ : ByteArray) = tx b from rfl, ← HLJ.out] at t1
          have xs : x.size = r.length := by rw [HX.out, tx_size]
          obtain ⟨rn, hrn⟩ : ∃ rn, rn = r.length := ⟨_, rfl⟩
          rw [← hrn] at xs
          have HRN := hide hrn
          clear TW DW hrn
          by_cases c4 : (j : Int) ∈ wh
          · rw [decide_eq_true c4] at KW
            by_cases c7 : rn < lj
            · have c7' : (rn : Int) < (lj : Int) := by omega
              have EP := (EJ0.out.done (fun t q => by
                rcases QF.out t q with q | ⟨q1, _⟩ | ⟨_, q2, _⟩
                · rw [q.2]; exact HJ.out q.1
                · exact absurd c4 q1
                · rw [← HRN.out, ← HLJ.out] at q2; omega)).all NL.out B1.out hg1
              go_wp2_with (go_at_call 19; refine Calls.mono KW ?_; rintro e u ⟨rfl, rfl⟩)
              go_quiet (fail)
              go_wp2_with fail
              go_returns
              exact ⟨rfl, _, EP.later (bel_drewN (Below.refl _ _) nq)⟩
            · have c7' : ¬ (rn : Int) < (lj : Int) := by omega
              have exh : x.extract 0 lj = tx (r.take lj) := by rw [HX.out, tx_take]
              by_cases c8 : r.take lj = b
              · rw [c8] at exh
                obtain ⟨y, hy⟩ : ∃ y, y = tx b := ⟨_, rfl⟩
                rw [← hy] at exh t1
                have exd : x.extract lj rn = tx (r.drop lj) := by rw [← xs, HX.out, tx_drop]
                clear hy
                have EK := hide (EJ0.out.step (m2 := m2) (j2 := j + 1) (r2 := r.drop lj) (fun t q => by
                  rcases QF.out t q with q | ⟨q1, _⟩ | ⟨_, _, _, q4⟩
                  · rw [q.2]; exact .inl (HJ.out q.1)
                  · exact absurd c4 q1
                  · rw [← HLJ.out] at q4; exact .inr q4))
                go_wp2_with (go_at_call 19; refine Calls.mono KW ?_; rintro e u ⟨rfl, rfl⟩)
                go_quiet (fail)
                go_wp2_with fail
                go_roundw
                case rel => exact ⟨j + 1, m2, r.drop lj, Bs2, by omega, by first | rfl | rw [exd] | (rw [c1]; simp), by go_num, hide (EK.out.later (bel_drewN (Below.refl _ _) nq))⟩
                case measure => simp [intOf]; omega
              · have nep : ¬ (x.extract 0 lj).toList = (tx b).toList := toL_ne (fun e => c8 (tx_inj (exh.symm.trans e)))
                obtain ⟨y, hy⟩ : ∃ y, y = tx b := ⟨_, rfl⟩
                rw [← hy] at nep t1
                have nepb := beq_eq_false_iff_ne.2 nep
                clear hy exh
                have EP := (EJ0.out.done (fun t q => by
                  rcases QF.out t q with q | ⟨q1, _⟩ | ⟨_, _, q3, _⟩
                  · rw [q.2]; exact HJ.out q.1
                  · exact absurd c4 q1
                  · rw [← HLJ.out] at q3; exact absurd q3 c8)).all NL.out B1.out hg1
                go_wp2_with (go_at_call 19; refine Calls.mono KW ?_; rintro e u ⟨rfl, rfl⟩)
                go_quiet (fail)
                go_wp2_with fail
                go_returns
                exact ⟨rfl, _, EP.later (bel_drewN (Below.refl _ _) nq)⟩
          · rw [decide_eq_false c4] at KW
            cases fl
            · 
              have EP := (EJ0.out.done (fun t q => by
                rcases QF.out t q with q | ⟨_, q2, _⟩ | ⟨q1, _⟩
                · rw [q.2]; exact HJ.out q.1
                · cases q2
                · exact absurd q1 c4)).all NL.out B1.out hg1
              go_wp2_with (go_at_call 19; refine Calls.mono KW ?_; rintro e u ⟨rfl, rfl⟩)
              go_wp2_with fail
              go_returns
              exact ⟨rfl, _, EP⟩
            · by_cases c5 : rn < lj
              · have c5' : (rn : Int) < (lj : Int) := by omega
                have sl2 := bytes_to (a := lb) (c := cl2) (Nat.le_of_lt c5) x2
                have t2 := text_of (YB.out.take rn) cl2 W2 (Below.refl _ _)
                rw [List.length_take, ← HLJ.out, Nat.min_eq_left (Nat.le_of_lt c5), show (⟨(b.take rn).toArray⟩ : ByteArray) = tx (b.take rn) from rfl] at t2
                by_cases c6 : b.take rn = r
                · rw [c6, ← HX.out] at t2
                  obtain ⟨z0, z1, z2⟩ := EJ0.out.mb.cell (j + 1) (by rw [EJ0.out.len, hBl]; omega)
                  have EP := ((EJ0.out.mark (j + 1)).done (fun t q => by
                    rcases QF.out t q with q | ⟨_, _, _, _, q5⟩ | ⟨q1, _⟩
                    · rw [q.2]; exact set_keeps (HJ.out q.1)
                    · rw [q5]; exact set_this (by rw [EJ0.out.len, hBl]; omega)
                    · exact absurd q1 c4)).all NL.out B1.out hg1
                  go_wp2_with (go_at_call 19; refine Calls.mono KW ?_; rintro e u ⟨rfl, rfl⟩)
                  go_returns
                  exact ⟨rfl, _, EP⟩
                · have nep : ¬ (tx (b.take rn)).toList = x.toList := toL_ne (fun e => c6 (tx_inj (e.trans HX.out)))
                  obtain ⟨y, hy⟩ : ∃ y, y = tx (b.take rn) := ⟨_, rfl⟩
                  rw [← hy] at nep t2
                  have nepb := beq_eq_false_iff_ne.2 nep
                  clear hy
                  have EP := (EJ0.out.done (fun t q => by
                    rcases QF.out t q with q | ⟨_, _, _, q4, _⟩ | ⟨q1, _⟩
                    · rw [q.2]; exact HJ.out q.1
                    · rw [← HRN.out] at q4; exact absurd q4 c6
                    · exact absurd q1 c4)).all NL.out B1.out hg1
                  go_wp2_with (go_at_call 19; refine Calls.mono KW ?_; rintro e u ⟨rfl, rfl⟩)
                  go_returns
                  exact ⟨rfl, _, EP⟩
              · have c5' : ¬ (rn : Int) < (lj : Int) := by omega
                have EP := (EJ0.out.done (fun t q => by
                  rcases QF.out t q with q | ⟨_, _, q3, _⟩ | ⟨q1, _⟩
                  · rw [q.2]; exact HJ.out q.1
                  · rw [← HRN.out, ← HLJ.out] at q3; exact absurd q3 c5
                  · exact absurd q1 c4)).all NL.out B1.out hg1
                go_wp2_with (go_at_call 19; refine Calls.mono KW ?_; rintro e u ⟨rfl, rfl⟩)
                go_returns
                exact ⟨rfl, _, EP⟩
end Go.Proofs.YtbahhlgcebgfeaaDoor
