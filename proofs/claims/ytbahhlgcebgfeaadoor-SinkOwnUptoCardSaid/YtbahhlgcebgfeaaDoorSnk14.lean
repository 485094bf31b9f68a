/- sink: SinkOrders. -/
import Derived.Test.YtbahhlgcebgfeaaDoorSnk12
import Derived.Test.YtbahhlgcebgfeaaDoorSnk13
namespace Go.Proofs.YtbahhlgcebgfeaaDoor
set_option linter.unusedVariables false
set_option linter.unusedSimpArgs false
open Go.RowKit W
/-- A frame whose bytes came in. -/
theorem Aw.frame_old {B : Nat} {w X : World} {g : Nat} {S : SS} (h : Aw B w X g S) {ea : Addr} (ef : w.cell? ⟨0, 0, none⟩ = some (EV ea)) {ba : Option Addr} {bl : List UInt8} {bc : Nat} (sm : SmS S bl.length) (hb : IsBytes w ba bl) (hbc : bl.length ≤ bc) (id : Int) :
    Calls Tryd.prog 12 #[.pointer (some ⟨g, 0, none⟩), .int .i64 id, .slice ba bl.length bc] X fun e w' => e = .returned (.int .i64 (frE S id)) ∧ Aw B w w' g (frS S id bl) := by
  obtain ⟨M, s, m⟩ := h.sk
  have h0 : 0 < w.heap.size := cellb_lt ef
  refine Calls.mono (frame_spec s sm (hb.later h.be) hbc (fun ne a e => ?_) ((h.be.cell (p := ⟨0, 0, none⟩) h0).trans ef) (by have := h.bb; omega) id) ?_
  · obtain ⟨g1, o1, e1, lt, _⟩ := hb.resolve_left ne
    rw [e] at e1
    injection e1 with e1
    subst e1
    exact ⟨fun q => by have := m _ q; simp only at this; omega, Nat.lt_of_lt_of_le lt h.be.size⟩
  · rintro e w' ⟨rfl, ⟨M', s', m'⟩, c⟩
    have sz := h.be.size
    refine ⟨rfl, ⟨M', s', fun k q => ?_⟩, h.be.trans (c.below (fun j q => m j q) sz), h.bb⟩
    rcases m' k q with q | q
    · exact m k q
    · omega
theorem aw_new0 {w w2 : World} {g : Nat} {S : SS} {M : Nat → Prop} (s : SkA w.heap.size w2 g S M) (m : ∀ k, M k → w.heap.size ≤ k) (b : Below w.heap.size w w2) : Aw w.heap.size w w2 g S := ⟨⟨M, s, m⟩, b, Nat.le_refl _⟩
theorem fre_new (P : List Ch) (id : Int) : frE (ss0 P) id = 0 := by simp [frE]
theorem frs_hd (S : SS) (id : Int) (b : List UInt8) (h : ¬ (S.hd = true ∧ id ≤ S.last)) : (frS S id b).hd = true ∧ (frS S id b).last = id := by
  unfold frS; rw [if_neg h]; exact ⟨rfl, rfl⟩
theorem fre_low {S : SS} {id : Int} (h : S.hd = true) (l : id ≤ S.last) : frE S id = 180 ∧ ∀ b, frS S id b = S := by
  refine ⟨by unfold frE; rw [if_pos ⟨h, l⟩], fun b => by unfold frS; rw [if_pos ⟨h, l⟩]⟩
theorem fre_high {S : SS} {id : Int} (l : S.last < id) : frE S id = 0 := by
  unfold frE; rw [if_neg (by omega)]
theorem below_then {A X Y : World} (q : Below A.heap.size A X) (r : Below X.heap.size X Y) : Below A.heap.size A Y := q.trans (r.mono q.size)
theorem bal (X : World) (o : Obj) : Below X.heap.size X (X.alloc o) := ba X o
theorem Aw.low {B : Nat} {w X : World} {g : Nat} {S : SS} (h : Aw B w X g S) {id : Int} (hd : S.hd = true) (l : id ≤ S.last) (v : Value) :
    Calls Tryd.prog 12 #[.pointer (some ⟨g, 0, none⟩), .int .i64 id, v] X fun e w' => e = .returned (.int .i64 180) ∧ w' = X := by
  obtain ⟨M, ⟨pa, pc, cv, wv, lv, C, s⟩, m⟩ := h.sk
  have sb := s.sb
  rw [hd] at sb
  refine Calls.mono (frame_no sb v id l) ?_
  rintro e w' ⟨rfl, rfl⟩
  exact ⟨rfl, rfl⟩
theorem rep_same {w : World} {a aw al a' aw' al' : Option Addr} {c cw cl c' cw' cl' : Nat} {C C' : List CE} {S : SS} (h : Rep w a aw al C S.wh S.lo) (h' : Rep w a' aw' al' C' S.wh S.lo) (e : C.map (fun y : CE => y.2) = S.cs) (e' : C'.map (fun y : CE => y.2) = S.cs) (sm : SmS S 0) :
    Calls Tryd.prog 14 #[.agg #[.slice a C.length c, .slice aw S.wh.length cw, .slice al S.lo.length cl, .int .i64 S.n], .agg #[.slice a' C'.length c', .slice aw' S.wh.length cw', .slice al' S.lo.length cl', .int .i64 S.n]] w fun e w' => e = .returned (.bool true) ∧ Below w.heap.size w w' := by
  have lC : C.length = S.cs.length := by rw [← e, List.length_map]
  have h1 := sm.c
  have h2 := sm.w
  have h3 := sm.o
  exact same_same (C := C) (C' := C') (wh := S.wh) (lo := S.lo) S.n h h' (e.trans e'.symm) (by unfold maxLen; omega) (by unfold maxLen; omega) (by unfold maxLen; omega)
theorem cell2b {w : World} {g e : Nat} {a b : Value} (h : w.heap[g]? = some (.cells #[a, b] e (0, 0))) : w.cell? ⟨g, 0, none⟩ = some a ∧ w.cell? ⟨g, 1, none⟩ = some b := by
  constructor <;> simp [World.cell?, h]
/-- Two frames, boxed. -/
structure Bo (w X : World) (u1 u2 v1 v2 : Value) : Prop where
  b1 : X.heap[w.heap.size]? = some (.cells #[u1, u2] 32 (0, 0))
  b2 : X.heap[w.heap.size + 1]? = some (.cells #[v1, v2] 32 (0, 0))
  be : Below w.heap.size w X
theorem Bo.next {w X Y : World} {u1 u2 v1 v2 : Value} (h : Bo w X u1 u2 v1 v2) (b : Below X.heap.size X Y) : Bo w Y u1 u2 v1 v2 :=
  ⟨(b.block _ (blk_lt h.b1)).trans h.b1, (b.block _ (blk_lt h.b2)).trans h.b2, h.be.trans (b.mono h.be.size)⟩
theorem Bo.make (w : World) (u1 u2 v1 v2 : Value) : Bo w ((w.alloc (.cells #[u1, u2] 32)).alloc (.cells #[v1, v2] 32)) u1 u2 v1 v2 := by
  refine ⟨((ba _ _).block _ (by simp)).trans (heap_alloc_new w _), ?_, (ba w _).trans ((ba _ _).mono (by simp))⟩
  have := heap_alloc_new (w.alloc (.cells #[u1, u2] 32)) (.cells #[v1, v2] 32)
  simpa using this
theorem Bo.cells {w X : World} {u1 u2 v1 v2 : Value} (h : Bo w X u1 u2 v1 v2) : X.cell? ⟨w.heap.size, 0, none⟩ = some u1 ∧ X.cell? ⟨w.heap.size, 1, none⟩ = some u2 ∧ X.cell? ⟨w.heap.size + 1, 0, none⟩ = some v1 ∧ X.cell? ⟨w.heap.size + 1, 1, none⟩ = some v2 :=
  ⟨(cell2b h.b1).1, (cell2b h.b1).2, (cell2b h.b2).1, (cell2b h.b2).2⟩
set_option maxRecDepth 100000 in
set_option maxHeartbeats 4000000 in
theorem sink_orders {w : World} {ea : Addr} (ef : w.cell? ⟨0, 0, none⟩ = some (EV ea)) {a : Option Addr} {c : Nat} {P : List Ch} (hp : IsCh w a P) (hn : a = none → P.length = 0 ∧ c = 0) (sp : P.length ≤ 1048576) {ia ib : Int} {ba bb : Option Addr} {ca cb : Nat} {la lb : List UInt8} (ha : IsBytes w ba la) (hb : IsBytes w bb lb) (hca : la.length ≤ ca) (hcb : lb.length ≤ cb) (sa : la.length ≤ 1048576) (sb : lb.length ≤ 1048576) :
    Calls Tryd.prog 8 #[.slice a P.length c, .agg #[.int .i64 ia, .slice ba la.length ca], .agg #[.int .i64 ib, .slice bb lb.length cb]] w fun e w' => e = .returned (.bool true) ∧ Below w.heap.size w w' := by
  obtain ⟨S1, hS⟩ : ∃ S1, S1 = frS (ss0 P) ia la := ⟨_, rfl⟩
  have bd := (Bd.new P).fr ia la
  have hl := frs_hd (ss0 P) ia la (by simp)
  rw [show frS ⟨P, [], false, 0, [], [], 0⟩ ia la = S1 from hS.symm] at bd
  rw [← hS] at hl
  have SM0 : Hid (SmS (ss0 P) la.length) := hide ((Bd.new P).sm (by omega) (by omega) (by omega))
  have SM1 : Hid (SmS S1 0) := hide (bd.sm (by omega) (by omega) (by omega))
  have SM2 : Hid (SmS S1 lb.length) := hide (bd.sm (by omega) (by omega) (by omega))
  have HL := hide hl
  have HS := hide hS
  have E0 := fre_new P ia
  have EF := hide ef
  have KN := fun (X : World) (b : Below w.heap.size w X) => new_spec (c := c) (hp.chg (Chg.of_below (S := fun _ => False) b) (fun _ _ q => q)) hn (Nat.le_trans sp (by omega))
  have HA := hide ha
  have HB := hide hb
  have CA := hide hca
  have CB := hide hcb
  obtain ⟨np, hnp⟩ : ∃ np, np = P.length := ⟨_, rfl⟩
  rw [← hnp] at KN ⊢
  clear bd hl hS ef hp hn sp ha hb hca hcb sa sb hnp
  go_enter Tryd.func8, Tryd.ntmps8
  go_upto_region 1 with (fail)
  refine abs_wp (fun X => Hid (Bo w X (.int .i64 ia) (.slice ba la.length ca) (.int .i64 ib) (.slice bb lb.length cb))) (hide (Bo.make w _ _ _ _)) ?_
  rintro W0 B0
  have EF0 := hide ((B0.out.be.cell (p := ⟨0, 0, none⟩) (cellb_lt EF.out)).trans EF.out)
  have HA0 := hide (HA.out.later B0.out.be)
  have HB0 := hide (HB.out.later B0.out.be)
  have CF : Hid (∀ Y, Below W0.heap.size W0 Y → Bo w Y (.int .i64 ia) (.slice ba la.length ca) (.int .i64 ib) (.slice bb lb.length cb)) := fun Y b => B0.out.next b
  go_wp2_with (first
    | (go_at_call 10; refine Calls.mono (KN _ B0.out.be) ?_; rintro e w2 ⟨g, M, rfl, s2, m2, b2⟩; have A2 := hide (aw_new0 s2 m2 b2); clear s2 m2 b2 KN)
    | (go_at_call 16; refine Calls.mono (awake_is ((A2.out.be.cell (p := ⟨0, 0, none⟩) (cellb_lt EF0.out)).trans EF0.out)) ?_; rintro e w3 ⟨rfl, k3⟩; have A3 := hide (A2.out.next k3); obtain ⟨x0, x1, _, _⟩ := (CF.out _ A3.out.be).cells; clear A2 k3)
    | (go_at_call 12; refine Calls.mono (A3.out.frame_old EF0.out SM0.out HA0.out CA.out ia) ?_; rw [E0, ← HS.out]; rintro e w4 ⟨rfl, A4⟩; have A4 := hide A4; clear A3 x0 x1)
    | (go_at_call 15; refine Calls.mono (A4.out.report SM1.out) ?_; rintro e w5 ⟨a5, c5, aw5, cw5, al5, cl5, C, rfl, hC, RP, b5, A5⟩; have RP := hide RP; have HC := hide hC; have A5 := hide A5; have ll := blk_lt (CF.out _ A5.out.be).b2; obtain ⟨x0, x1, x2, x3⟩ := (CF.out _ A5.out.be).cells; clear hC b5 A4))
  have A6 := hide (A5.out.next (bal w5 (.cells #[.slice a5 C.length c5, .slice aw5 S1.wh.length cw5, .slice al5 S1.lo.length cl5, .int .i64 S1.n] 38)))
  have RP6 := hide (RP.out.later (bal w5 (.cells #[.slice a5 C.length c5, .slice aw5 S1.wh.length cw5, .slice al5 S1.lo.length cl5, .int .i64 S1.n] 38)))
  have D6 := hide (heap_alloc_new w5 (.cells #[.slice a5 C.length c5, .slice aw5 S1.wh.length cw5, .slice al5 S1.lo.length cl5, .int .i64 S1.n] 38))
  obtain ⟨d, hd⟩ : ∃ d, d = w5.heap.size := ⟨_, rfl⟩
  rw [← hd] at D6 ⊢
  generalize w5.alloc (.cells #[.slice a5 C.length c5, .slice aw5 S1.wh.length cw5, .slice al5 S1.lo.length cl5, .int .i64 S1.n] 38) = W6 at A6 RP6 D6 ⊢
  clear x0 x1 x2 x3 ll hd RP A5
  obtain ⟨x0, x1, x2, x3⟩ := (CF.out _ A6.out.be).cells
  by_cases hle : ib ≤ ia
  · have hgt : ¬ ia < ib := by omega
    refine Calls.mono (A6.out.low HL.out.1 (by rw [HL.out.2]; exact hle) _) ?_
    rintro e w7 ⟨rfl, rfl⟩
    obtain ⟨d0, d1, d2, d3⟩ := sc4 D6.out
    go_wp2_with fail
    clear x0 x1 x2 x3
    have DF : Hid (∀ Y, Below w7.heap.size w7 Y → Y.heap[d]? = some (.cells #[.slice a5 C.length c5, .slice aw5 S1.wh.length cw5, .slice al5 S1.lo.length cl5, .int .i64 S1.n] 38 (0, 0))) := fun Y b => (b.block d (blk_lt D6.out)).trans D6.out
    go_region_law (first
      | (go_simp; go_at_call 15; refine Calls.mono ((A6.out.next (by (repeat (first | with_reducible exact Below.refl _ _ | with_reducible assumption | with_reducible refine Below.drew ?_)))).report SM1.out) ?_; rintro e w8 ⟨a8, c8, aw8, cw8, al8, cl8, C8, rfl, hC8, RP8, b8, A8⟩; have bb8 : Below w7.heap.size w7 w8 := below_then (by (repeat (first | with_reducible exact Below.refl _ _ | with_reducible assumption | with_reducible refine Below.drew ?_))) b8; obtain ⟨f0, f1, f2, f3⟩ := sc4 (DF.out _ bb8); have RQ := hide (RP6.out.later bb8); have RP8 := hide RP8; have HC8 := hide hC8; have A8 := hide A8; clear hC8 b8)
      | (go_simp; go_at_call 14; refine Calls.mono (rep_same (RP8.out.later (by (repeat (first | with_reducible exact Below.refl _ _ | with_reducible assumption | with_reducible refine Below.drew ?_)))) (RQ.out.later (by (repeat (first | with_reducible exact Below.refl _ _ | with_reducible assumption | with_reducible refine Below.drew ?_)))) HC8.out HC.out SM1.out) ?_; rintro e w9 ⟨rfl, k9⟩; have b9 : Below w8.heap.size w8 w9 := below_then (by (repeat (first | with_reducible exact Below.refl _ _ | with_reducible assumption | with_reducible refine Below.drew ?_))) k9; have K9 := hide (A8.out.next b9).be; clear k9 b9))
    all_goals
      have FB := hide (B0.out.be.trans (K9.out.mono B0.out.be.size))
      go_wp2_with fail
      go_returns
      exact ⟨rfl, FB.out⟩
  · have hgt : ia < ib := by omega
    have E1 := fre_high (S := S1) (id := ib) (by rw [HL.out.2]; exact hgt)
    refine Calls.mono (A6.out.frame_old EF0.out SM2.out HB0.out CB.out ib) ?_
    rw [E1]
    rintro e w7 ⟨rfl, A7⟩
    obtain ⟨z0, z1, z2, z3⟩ := (CF.out _ A7.be).cells
    have FB := hide (B0.out.be.trans (A7.be.mono B0.out.be.size))
    clear A7 x0 x1 x2 x3
    go_wp2_with fail
    go_returns
    exact ⟨rfl, FB.out⟩
end Go.Proofs.YtbahhlgcebgfeaaDoor
