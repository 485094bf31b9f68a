/- sink: the reference's Ids and Same. -/
import Derived.Test.YtbahhlgcebgfeaaDoorTl
import Derived.Test.YtbahhlgcebgfeaaDoorStrq
import Derived.RegionTactic
import Derived.BigRegion
import Derived.Deep.QuietTactic
import Derived.BigQuiet
namespace Go.Proofs.YtbahhlgcebgfeaaDoor
set_option linter.unusedVariables false
set_option linter.unusedSimpArgs false
open Go.RowKit W
theorem bel_drewN {B : Nat} {a w : World} (h : Below B a w) (n : Nat) : Below B a (w.drewN n) := ⟨h.os, h.tape, h.output, h.size, h.block⟩
theorem ids_none (a a' : Option Addr) (c c' : Nat) (w : World) :
    Calls Tryd.prog 24 #[.slice a 0 c, .slice a' 0 c'] w fun e w' => e = .returned (.bool true) ∧ Below w.heap.size w w' := by
  go_enter Tryd.func24, Tryd.ntmps24
  go_wp2
  refine wp_loop_rounds 1 ?_
  rw [rounds_succ]
  go_wp2
  go_returns
  exact ⟨rfl, Below.refl _ _⟩
set_option maxHeartbeats 2000000 in
theorem ids_some (b off c b' off' c' n : Nat) (f : Nat → Int) (w : World) (hb : b < w.heap.size) (hb' : b' < w.heap.size) (hn : n ≤ maxLen)
    (h : ∀ j, j < n → w.cell? ⟨b, off + j, none⟩ = some (.int .i64 (f j))) (h' : ∀ j, j < n → w.cell? ⟨b', off' + j, none⟩ = some (.int .i64 (f j))) :
    Calls Tryd.prog 24 #[.slice (some ⟨b, off, none⟩) n c, .slice (some ⟨b', off', none⟩) n c'] w fun e w' => e = .returned (.bool true) ∧ Below w.heap.size w w' := by
  unfold maxLen at hn
  have H : Hid (∀ j, j < n → w.cell? ⟨b, off + j, none⟩ = some (.int .i64 (f j))) := h
  have H' : Hid (∀ j, j < n → w.cell? ⟨b', off' + j, none⟩ = some (.int .i64 (f j))) := h'
  clear h h'
  go_enter Tryd.func24, Tryd.ntmps24
  go_wp2
  go_loopw [5] (fun i wr => ∃ k : Nat, k ≤ n ∧ i = .int .i64 k ∧ Below w.heap.size w wr) (fun i _ => n - (intOf i).toNat)
  case atStart => exact ⟨0, by omega, rfl, Below.refl _ _⟩
  case round =>
    obtain ⟨k, hk, rfl, bl⟩ := hrel
    by_cases hlt : k < n
    · have e1 := (bl.cell (p := ⟨b, off + k, none⟩) hb).trans (H.out k hlt)
      have e2 := (bl.cell (p := ⟨b', off' + k, none⟩) hb').trans (H'.out k hlt)
      generalize f k = x at *
      have hlt' : (k : Int) < (n : Int) := by omega
      have BL : Hid (Below w.heap.size w wr) := bl
      clear bl
      go_wp2_with fail
      go_quiet (fail)
      go_wp2_with fail
      go_roundw
      case rel => exact ⟨k + 1, by omega, by go_num, bel_drewN BL.out _⟩
      case measure => simp [intOf]; omega
    · obtain rfl : k = n := by omega
      go_wp2
      go_returns
      exact ⟨rfl, bl⟩
theorem ids_same {w : World} {a b : Option Addr} {l : List Int} {ca cb : Nat} (ha : IsInts .i64 w a l) (hb : IsInts .i64 w b l) (hl : l.length ≤ maxLen) :
    Calls Tryd.prog 24 #[.slice a l.length ca, .slice b l.length cb] w fun e w' => e = .returned (.bool true) ∧ Below w.heap.size w w' := by
  rcases ha with rfl | ⟨g, o, rfl, ha⟩
  · exact ids_none _ _ _ _ _
  rcases hb with rfl | ⟨g', o', rfl, hb⟩
  · exact ids_none _ _ _ _ _
  refine ids_some g o ca g' o' cb l.length (fun j => l.getD j 0) w ha.lt hb.lt hl (fun j hj => ?_) (fun j hj => ?_)
  · rw [ha.cell j hj]; simp [List.getElem?_eq_getElem hj]
  · rw [hb.cell j hj]; simp [List.getElem?_eq_getElem hj]
/-- Bytes as a text, none too. -/
theorem text_of {w : World} {a : Option Addr} {l : List UInt8} (h : IsBytes w a l) (c : Nat) : ∀ v, Below w.heap.size w v → (convert 30 9 (.slice a l.length c)).run Tryd.prog v = .ok (.string ⟨l.toArray⟩) v := by
  intro v b
  rcases h with rfl | ⟨g, o, rfl, lt, h⟩
  · rcases a with _ | ad
    · rw [show ([] : List UInt8).length = 0 from rfl, run_convert_bytes_string v 30 9 5 none 0 c Tryd.underlying30 Tryd.underlying5 Tryd.underlying9]
      first | rfl | (unfold Conv.bytesToString; simp [go_sem]; done) | (unfold Conv.bytesToString; simp [Sem.run_pure]; rfl)
    · exact run_convert_bytes_back v 30 9 5 ad c [] Tryd.underlying30 Tryd.underlying5 Tryd.underlying9 (fun j hj => absurd hj (Nat.not_lt_zero _))
  · exact run_convert_bytes_back v 30 9 5 ⟨g, o, none⟩ c l Tryd.underlying30 Tryd.underlying5 Tryd.underlying9 (fun j hj => by
      rw [Go.WideShapes.add_plain]
      exact (b.cell (p := ⟨g, o + j, none⟩) lt).trans (h j hj))
/-- A report as it is read. -/
structure Rep (w : World) (a aw al : Option Addr) (C : List CE) (wh lo : List Int) : Prop where
  co : C = [] ∨ ∃ g o, a = some ⟨g, o, none⟩ ∧ g < w.heap.size ∧ ∀ j (h : j < C.length), w.cell? ⟨g, o + j * 2, none⟩ = some C[j].1 ∧ w.cell? ⟨g, o + j * 2 + 1, none⟩ = some (.bool C[j].2.2)
  by_ : ∀ x ∈ C, ∃ ab cb, x.1 = .slice ab x.2.1.length cb ∧ IsBytes w ab x.2.1
  wh : IsInts .i64 w aw wh
  lo : IsInts .i64 w al lo
theorem Rep.later {w w' : World} {a aw al : Option Addr} {C : List CE} {wh lo : List Int} (h : Rep w a aw al C wh lo) (b : Below w.heap.size w w') : Rep w' a aw al C wh lo := by
  refine ⟨?_, fun x hx => ?_, h.wh.later b, h.lo.later b⟩
  · rcases h.co with q | ⟨g, o, rfl, lt, q⟩
    · exact .inl q
    · exact .inr ⟨g, o, rfl, Nat.lt_of_lt_of_le lt b.size, fun j hj => ⟨(b.cell (p := ⟨g, o + j * 2, none⟩) lt).trans (q j hj).1, (b.cell (p := ⟨g, o + j * 2 + 1, none⟩) lt).trans (q j hj).2⟩⟩
  · obtain ⟨ab, cb, e, i⟩ := h.by_ x hx
    exact ⟨ab, cb, e, i.later b⟩
theorem sc4 {w : World} {g e : Nat} {a b c d : Value} (h : w.heap[g]? = some (.cells #[a, b, c, d] e (0, 0))) : w.cell? ⟨g, 0, none⟩ = some a ∧ w.cell? ⟨g, 1, none⟩ = some b ∧ w.cell? ⟨g, 2, none⟩ = some c ∧ w.cell? ⟨g, 3, none⟩ = some d := by
  refine ⟨?_, ?_, ?_, ?_⟩ <;> simp [World.cell?, h]
/-- The two boxes of Same. -/
structure Bx (w X : World) (v1 v2 v3 u1 u2 u3 : Value) (n : Int) : Prop where
  b1 : X.heap[w.heap.size]? = some (.cells #[v1, v2, v3, .int .i64 n] 38 (0, 0))
  b2 : X.heap[w.heap.size + 1]? = some (.cells #[u1, u2, u3, .int .i64 n] 38 (0, 0))
  be : Below w.heap.size w X
theorem Bx.next {w X Y : World} {v1 v2 v3 u1 u2 u3 : Value} {n : Int} (h : Bx w X v1 v2 v3 u1 u2 u3 n) (b : Below X.heap.size X Y) : Bx w Y v1 v2 v3 u1 u2 u3 n :=
  ⟨(b.block _ (blk_lt h.b1)).trans h.b1, (b.block _ (blk_lt h.b2)).trans h.b2, h.be.trans (b.mono h.be.size)⟩
theorem Bx.make (w : World) (v1 v2 v3 u1 u2 u3 : Value) (n : Int) : Bx w ((w.alloc (.cells #[v1, v2, v3, .int .i64 n] 38)).alloc (.cells #[u1, u2, u3, .int .i64 n] 38)) v1 v2 v3 u1 u2 u3 n := by
  have b1 : Below w.heap.size w (w.alloc (.cells #[v1, v2, v3, .int .i64 n] 38)) := (Below.refl _ _).alloc (Nat.le_refl _) _
  have b2 : Below (w.alloc (.cells #[v1, v2, v3, .int .i64 n] 38)).heap.size (w.alloc (.cells #[v1, v2, v3, .int .i64 n] 38)) ((w.alloc (.cells #[v1, v2, v3, .int .i64 n] 38)).alloc (.cells #[u1, u2, u3, .int .i64 n] 38)) := (Below.refl _ _).alloc (Nat.le_refl _) _
  refine ⟨(b2.block _ (by simp)).trans (heap_alloc_new w _), ?_, b1.trans (b2.mono b1.size)⟩
  have := heap_alloc_new (w.alloc (.cells #[v1, v2, v3, .int .i64 n] 38)) (.cells #[u1, u2, u3, .int .i64 n] 38)
  simpa using this
set_option maxRecDepth 100000 in
set_option maxHeartbeats 4000000 in
theorem same_same {w : World} {a aw al a' aw' al' : Option Addr} {c cw cl c' cw' cl' : Nat} {C C' : List CE} {wh lo : List Int} (n : Int) (h : Rep w a aw al C wh lo) (h' : Rep w a' aw' al' C' wh lo) (hm : C.map (fun y : CE => y.2) = C'.map (fun y : CE => y.2)) (lc : C.length ≤ maxLen) (lw : wh.length ≤ maxLen) (ll : lo.length ≤ maxLen) :
    Calls Tryd.prog 14 #[.agg #[.slice a C.length c, .slice aw wh.length cw, .slice al lo.length cl, .int .i64 n], .agg #[.slice a' C'.length c', .slice aw' wh.length cw', .slice al' lo.length cl', .int .i64 n]] w fun e w' => e = .returned (.bool true) ∧ Below w.heap.size w w' := by
  have lC : C'.length = C.length := by have := congrArg List.length hm; rw [List.length_map, List.length_map] at this; exact this.symm
  have KW := fun (W : World) (b : Below w.heap.size w W) => ids_same (ca := cw) (cb := cw') (h.wh.later b) (h'.wh.later b) lw
  have KL := fun (W : World) (b : Below w.heap.size w W) => ids_same (ca := cl) (cb := cl') (h.lo.later b) (h'.lo.later b) ll
  rw [lC]
  have H := hide h
  have H' := hide h'
  have HM := hide hm
  have LC := hide lC
  unfold maxLen at lc
  obtain ⟨m, hmm⟩ : ∃ m, m = C.length := ⟨_, rfl⟩
  rw [← hmm] at lc ⊢
  have MM := hide hmm
  generalize wh.length = nw at KW ⊢
  generalize lo.length = nl at KL ⊢
  clear h h' hm lC hmm lw ll
  go_enter Tryd.func14, Tryd.ntmps14
  go_upto_region 1 with (fail)
  refine abs_wp (fun X => Hid (Bx w X (.slice a m c) (.slice aw nw cw) (.slice al nl cl) (.slice a' m c') (.slice aw' nw cw') (.slice al' nl cl') n)) (hide (Bx.make w _ _ _ _ _ _ n)) ?_
  rintro W0 B0
  obtain ⟨x0, x1, x2, x3⟩ := sc4 B0.out.b1
  obtain ⟨y0, y1, y2, y3⟩ := sc4 B0.out.b2
  go_wp2_with (first
    | (go_at_call 24; (with_reducible refine Calls.mono (KW _ ?_) ?_); (exact B0.out.be); rintro e w5 ⟨rfl, k5⟩; have B5 := hide (B0.out.next k5); obtain ⟨x0, x1, x2, x3⟩ := sc4 B5.out.b1; obtain ⟨y0, y1, y2, y3⟩ := sc4 B5.out.b2; clear k5)
    | (go_at_call 24; (with_reducible refine Calls.mono (KL _ ?_) ?_); (exact B5.out.be); rintro e w6 ⟨rfl, k6⟩; have B6 := hide (B5.out.next k6); obtain ⟨x0, x1, x2, x3⟩ := sc4 B6.out.b1; obtain ⟨y0, y1, y2, y3⟩ := sc4 B6.out.b2; clear k6))
  have BR := B6
  clear KW KL x0 x1 x2 x3 y0 y1 y2 y3 B0 B5 B6
  go_loopw [5] (fun i wr => ∃ k : Nat, k ≤ m ∧ i = .int .i64 k ∧ Hid (Bx w wr (.slice a m c) (.slice aw nw cw) (.slice al nl cl) (.slice a' m c') (.slice aw' nw cw') (.slice al' nl cl') n)) (fun i _ => m - (intOf i).toNat)
  case atStart => exact ⟨0, by omega, rfl, BR⟩
  case round =>
    clear BR
    obtain ⟨k, hk, rfl, BR⟩ := hrel
    obtain ⟨x0, _, _, _⟩ := sc4 BR.out.b1
    obtain ⟨y0, _, _, _⟩ := sc4 BR.out.b2
    by_cases hlt : k < m
    · have kC : k < C.length := by have := MM.out; omega
      have kC' : k < C'.length := by have := LC.out; omega
      have bw := BR.out.be
      have r := H.out.later bw
      have r' := H'.out.later bw
      obtain ⟨g, o, rfl, lt, q⟩ := r.co.resolve_left (by intro e; rw [e] at kC; exact Nat.not_lt_zero _ kC)
      obtain ⟨g', o', rfl, lt', q'⟩ := r'.co.resolve_left (by intro e; rw [e] at kC'; exact Nat.not_lt_zero _ kC')
      obtain ⟨q0, q1⟩ := q k kC
      obtain ⟨p0, p1⟩ := q' k kC'
      obtain ⟨ab, cb, e1, i1⟩ := r.by_ _ (List.getElem_mem kC)
      obtain ⟨ab', cb', e2, i2⟩ := r'.by_ _ (List.getElem_mem kC')
      have e3 : C[k].2 = C'[k].2 := by
        have h1 : (C.map (fun y : CE => y.2))[k]'(by rw [List.length_map]; exact kC) = C[k].2 := by rw [List.getElem_map]
        have h2 : (C'.map (fun y : CE => y.2))[k]'(by rw [List.length_map]; exact kC') = C'[k].2 := by rw [List.getElem_map]
        have hm := HM.out
        rw [← h1, ← h2]
        congr 1
      rw [e1] at q0
      rw [e2] at p0
      rw [e3] at q0 q1 i1
      have t1 := fun j => text_of i1 cb (wr.drewN j) (bel_drewN (Below.refl _ _) j)
      have t2 := fun j => text_of i2 cb' (wr.drewN j) (bel_drewN (Below.refl _ _) j)
      generalize (⟨(C'[k].2.1).toArray⟩ : ByteArray) = x at t1 t2
      generalize (C'[k].2.1).length = nb at q0 p0 t1 t2
      generalize C'[k].2.2 = fl at q1 p1
      have hlt' : (k : Int) < (m : Int) := by omega
      clear r r' q q' e1 e2 e3 i1 i2 bw H H' HM
      go_wp2_with fail
      go_quiet (fail)
      go_wp2_with fail
      go_roundw
      case rel => exact ⟨k + 1, by omega, by go_num, hide (BR.out.next (bel_drewN (Below.refl _ _) _))⟩
      case measure => simp [intOf]; omega
    · obtain rfl : k = m := by omega
      go_wp2_with fail
      go_returns
      exact ⟨rfl, BR.out.be⟩
end Go.Proofs.YtbahhlgcebgfeaaDoor
