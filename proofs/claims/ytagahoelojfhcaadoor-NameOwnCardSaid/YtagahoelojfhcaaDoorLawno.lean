/- name: NameOwn. -/
import Derived.Test.YtagahoelojfhcaaDoorNsw
import Derived.Test.YtagahoelojfhcaaDoorLawnc
import Derived.Deep.RegionHeld3
import Derived.Deep.AppendLies
namespace Go.Proofs.YtagahoelojfhcaaDoor
set_option linter.unusedVariables false
set_option linter.unusedSimpArgs false
open Go.RowKit W
/-- Nodes, one's own. -/
def NodesOwn (w : World) (s : ByteArray) (e : Ending) (w' : World) : Prop :=
  Below w.heap.size w w' ∧ ∃ v, e = .returned v ∧ w'.ownsRow w.heap.size 9 1 v (nodesL s).length ((nodesL s).map Value.string)
set_option maxRecDepth 100000 in
set_option maxHeartbeats 4000000 in
theorem nodes_own_spec (s : ByteArray) (m : Int) (w : World) (hm : GM m w) : Calls Tryd.prog 4 #[.string s] w (NodesOwn w s) := by
  have kv := valid_spec s w
  rw [show s.data.toList = lst s from rfl] at kv
  have nl := nodes_len s
  obtain ⟨t, ht⟩ : ∃ t, validN (lst s) = t := ⟨_, rfl⟩
  rw [ht] at kv
  cases t
  · have N := hide (nodesL_no ht)
    clear ht hm
    go_enter Tryd.func4, Tryd.ntmps4
    go_wp2_with fail
    refine kv.mono ?_
    rintro e w1 ⟨rfl, rfl⟩
    go_wp2_with fail
    go_returns
    exact ⟨Below.refl _ _, _, rfl, by rw [N.out]; exact World.ownsRow_nil _ _ _ _⟩
  · have sz := valid_size ht
    have ks := Tryd.strings_Split s ⟨#[46]⟩ m w (by omega) hm (by decide)
    have hl := Lib.splitB_all ⟨#[46]⟩ (by decide) 0 _ s rfl
    have N : Hid (nodesL s = Lib.splitB ⟨#[46]⟩ 0 (Lib.countB s ⟨#[46]⟩) s) := by show _ = _; unfold nodesL; rw [ht]; rfl
    rw [← hl, ← N.out] at ks
    clear ht hm hl
    go_enter Tryd.func4, Tryd.ntmps4
    go_wp2_with fail
    refine kv.mono ?_
    rintro e w1 ⟨rfl, rfl⟩
    go_wp2_with fail
    refine ks.mono ?_
    rintro e w1 ⟨rfl, hw⟩
    have HW := hide hw
    clear hw
    go_wp2_with fail
    go_returns
    have e := HW.out
    subst e
    refine ⟨(Below.refl _ _).alloc (Nat.le_refl _) _, _, rfl, ?_⟩
    have := World.ownsRow_lit (base := w.heap.size) (size := 1) (e := 9) w ((nodesL s).map Value.string).toArray (nodesL s).length (Nat.le_refl _) (by unfold maxLen; omega) (by simp)
    simpa using this
theorem own_at {base n k c : Nat} {w : World} {t : TypeId} {A : Option Addr} {xs : List Value} (h : w.ownsRow base t 1 (.slice A n c) n xs) (hk : k < n) :
    ∃ g u, A = some ⟨g, 0, none⟩ ∧ base ≤ g ∧ g < w.heap.size ∧ w.cell? ⟨g, k, none⟩ = some u ∧ w.frozen? ⟨g, k, none⟩ = false ∧ ∀ x, (w.setCell ⟨g, k, none⟩ x).ownsRow base t 1 (.slice A n c) n (xs.set k x) := by
  have hl := h.1
  rcases h.2 with ⟨e, h0⟩ | ⟨g, cap, cur, e, hb, hg, hc, hm, hs, ht⟩
  · omega
  · injection e with e1 _ e3
    subst e1 e3
    refine ⟨g, xs[k]'(by omega), rfl, hb, blk_lt hg, ?_, h.frozenAt k, fun x => (h.stored k x).1⟩
    rw [h.cellAt k (by omega), List.getElem?_eq_getElem]
theorem comp_own_any {t : ByteArray} {j : Nat} {r : Except Int (List (List Gl))} (hr : compA t = (j, r)) : ∃ (p : List (List Gl)) (x : Int), PtF p ∧
    (∀ w, Calls Tryd.prog 7 #[.string t] w fun e w' => Below w.heap.size w w' ∧ ∃ v, e = .returned (.tuple #[.agg #[v], .int .i64 (j : Int), .int .i64 x]) ∧ OwnM w.heap.size w'.heap.size w' v p) ∧
    (∀ w, Calls Tryd.prog 8 #[.string t] w fun e w' => Below w.heap.size w w' ∧ ∃ a c, e = .returned (.tuple #[.agg #[.slice a p.length c], .int .i64 (j : Int), .int .i64 x]) ∧ IsPt w' a p) := by
  have k1 := fun w => comp_own_spec t w
  have k2 := fun w => ecomp_spec t w
  rw [hr] at k1 k2
  cases r with
  | error c =>
    refine ⟨[], c, ⟨by simp, by simp, by simp⟩, fun w => (k1 w).mono fun e w' h => ⟨h.1, _, h.2, OwnM.none_ _ _ _⟩, fun w => (k2 w).mono fun e w' h => ⟨h.1, none, 0, h.2, .inl rfl⟩⟩
  | ok p =>
    refine ⟨p, 0, comp_fit hr, fun w => (k1 w).mono fun e w' h => h, fun w => (k2 w).mono fun e w' h => ?_⟩
    obtain ⟨h1, a, c, h2, h3, _⟩ := h
    exact ⟨h1, a, c, h2, h3.is⟩
theorem PatW.later {B C g c n i : Nat} {w w' : World} {fv : Nat → Value} {fm : Nat → Nat} (h : PatW B C w g c n i fv fm) (u : Below w.heap.size w w') : PatW B C w' g c n i fv fm :=
  h.off (Off.below (X := fun _ => False) u) (fun k q => q.elim) (fun _ _ _ _ _ q => q)
/-- What stays while a pattern is written over. -/
structure Frm (W : World) (Q bp bq : Nat) (v1 v2 : Value) (a2 : Option Addr) (p : List (List Gl)) (wr : World) : Prop where
  below : Below W.heap.size W wr
  q : TyN Q wr a2 p
  c1 : wr.cell? ⟨bp, 0, none⟩ = some v1
  c2 : wr.cell? ⟨bq, 0, none⟩ = some v2
  o1 : bp < Q
  o2 : Q ≤ bq
theorem Frm.off {W wr w' : World} {Q bp bq : Nat} {v1 v2 : Value} {a2 : Option Addr} {p : List (List Gl)} {X : Nat → Prop} (h : Frm W Q bp bq v1 v2 a2 p wr) (u : Off X wr w') (b : Below W.heap.size W w') (hx : ∀ k, X k → k < bp) : Frm W Q bp bq v1 v2 a2 p w' :=
  have o1 := h.o1
  have o2 := h.o2
  ⟨b, h.q.off u (fun k q => by have := hx k q; omega), (off_cell u (World.block_lt_of_cell? _ _ h.c1) (fun q => absurd (hx bp q) (by omega))).trans h.c1, (off_cell u (World.block_lt_of_cell? _ _ h.c2) (fun q => absurd (hx bq q) (by omega))).trans h.c2, o1, o2⟩
theorem RowG.at_ {B C m k c : Nat} {w : World} {A : Option Addr} (h : RowG B C w (.slice A m c) m k) (hk : k < m) : ∃ b, A = some ⟨b, 0, none⟩ ∧ B ≤ b ∧ b < C ∧ Blk w b 34 (c * 3) ∧ m ≤ c ∧ ∃ a l d, l ≤ 16 ∧ w.cell? ⟨b, k * 3 + 2, none⟩ = some (.slice a l d) ∧ AltW B C w a l := by
  rcases h with ⟨h0, _⟩ | ⟨g', c', e, h1, h2, h3, h4, h5, h6⟩
  · omega
  · injection e with e1 _ e3
    subst e1 e3
    exact ⟨g', rfl, h1, h2, h3, h4, h6 k (Nat.le_refl _) hk⟩
theorem frz {w w' : World} {g i : Nat} (h : w'.heap[g]? = w.heap[g]?) : w'.frozen? ⟨g, i, none⟩ = w.frozen? ⟨g, i, none⟩ := World.frozen?_of_block h
theorem Off.grown2 {w x w' : World} {o : Obj} {row : Option Nat} (hx : x.heap = w.heap.push o) (hg : x.grownBy w' row) : Off (fun k => row = some k) w w' :=
  ⟨Nat.le_trans (by rw [hx]; simp) hg.size, fun k hk e => (hg.block k (by rw [hx]; simp; omega) (fun q => e q.symm)).trans (by rw [hx, Array.getElem?_push, if_neg (Nat.ne_of_lt hk)])⟩
theorem set_block_ne {w : World} {b o g i : Nat} {u : Value} (h : g ≠ b) : (w.setCell ⟨b, o, none⟩ u).cell? ⟨g, i, none⟩ = w.cell? ⟨g, i, none⟩ :=
  World.cell?_of_block (w := w) (heap_setCell_other w ⟨b, o, none⟩ g u h)
/-- While one node is written over. -/
structure Nd (W : World) (B bp g c1 m i : Nat) (fv : Nat → Value) (fm : Nat → Nat) (F : World → Prop) (v : Value) (mi k : Nat) (wr : World) : Prop where
  frm : F wr
  here : wr.cell? ⟨g, i, none⟩ = some v
  row : RowG B bp wr v mi k
  rest : PatW B bp wr g c1 m (i + 1) fv fm
theorem Nd.next {W wr : World} {B bp g c1 m i mi k : Nat} {fv : Nat → Value} {fm : Nat → Nat} {F : World → Prop} {v : Value} (h : Nd W B bp g c1 m i fv fm F v mi k wr) : Nd W B bp g c1 m i fv fm F v mi (k + 1) wr :=
  ⟨h.frm, h.here, h.row.next (Nat.le_succ _), h.rest⟩
theorem Nd.mine {W wr : World} {B bp g c1 m i mi k b cA o : Nat} {fv : Nat → Value} {fm : Nat → Nat} {F : World → Prop} (h : Nd W B bp g c1 m i fv fm F (.slice (some ⟨b, 0, none⟩) mi cA) mi k wr) (hF : ∀ w o u, F w → F (w.setCell ⟨b, o, none⟩ u))
    (hA : ∀ j, i + 1 ≤ j → j < m → ∀ q, (fv j).ownBlock = some q → b ≠ q) (ho : o < k * 3 + 2) (u : Value) : Nd W B bp g c1 m i fv fm F (.slice (some ⟨b, 0, none⟩) mi cA) mi k (wr.setCell ⟨b, o, none⟩ u) := by
  obtain ⟨n, bk⟩ : ∃ n, Blk wr b 34 n := by
    rcases h.row with ⟨_, e⟩ | ⟨g', c', e, _, _, h3, _⟩
    · cases e
    · injection e with e1 _ e3
      injection e1 with e1
      injection e1 with e1
      subst e1
      exact ⟨_, h3⟩
  exact ⟨hF _ _ _ h.frm, (off_cell (Off.set _ _ _ _) h.rest.1.lt (fun q => h.rest.1.ne bk (by decide) q)).trans h.here, h.row.mine ho u,
    h.rest.off (Off.set _ _ _ _) (fun q (e : q = b) => by subst e; exact ⟨n, bk⟩) (fun j h1 h2 q h3 (e : q = b) => hA j h1 h2 q h3 e.symm)⟩
set_option maxRecDepth 100000 in
set_option maxHeartbeats 8000000 in
theorem law_NameOwn (s t : ByteArray) (hs : s.size ≤ 140737488351232) (ht : t.size ≤ 140737488351232) (W : World) (hsh : W.ShapedOpen Tryd.prog) :
    Calls Tryd.prog 3 #[.string s, .string t] W fun e w' => e = .returned (.bool true) ∧ Below W.heap.size W w' := by
  obtain ⟨mx, gm⟩ := gm_at hsh
  have GMH := hide gm
  have NL := nodes_len s
  have kn := fun w (u : Below W.heap.size W w) => nodes_own_spec s mx w (GMH.out.later u)
  have kr := fun w => rnodes_spec s w
  have ks := fun a b c d w ha hb => same_texts (nodesL s) a b c d w ha hb (by omega)
  have ka := fun w (u : Below W.heap.size W w) => alive_spec mx w (GMH.out.later u)
  unfold NodesOwn at kn
  unfold RNodesRes at kr
  obtain ⟨N, hN⟩ : ∃ N, N = nodesL s := ⟨_, rfl⟩
  obtain ⟨n, hn⟩ : ∃ n, n = N.length := ⟨_, rfl⟩
  rw [← hN] at NL kn kr ks
  rw [← hn] at NL kn kr ks
  have HN := hide hn
  obtain ⟨i0, hi0⟩ : ∃ i0, Hid (Tryd.prog.info? 9 = some i0 ∧ i0.zero = some (.string ByteArray.empty) ∧ i0.size = 1 ∧ i0.bytes = 16) := by
    obtain ⟨i0, h1, h2, h3, h4⟩ := info_parts info_txt
    exact ⟨i0, h1, h2, h3, h4⟩
  obtain ⟨⟨jc, rc⟩, hrc⟩ : ∃ q, compA t = q := ⟨_, rfl⟩
  obtain ⟨p, xc, pf, kc, kd⟩ := comp_own_any hrc
  have PF := hide pf
  have pn := pf.n
  clear gm hsh hN hn hs ht hrc pf
  go_enter Tryd.func3, Tryd.ntmps3
  go_wp2_with fail
  refine Calls.mono (kn _ (Below.refl _ _)) ?_
  rintro e w1 ⟨b1, vl, rfl, o1⟩
  have B1 := hide b1
  go_wp2_with fail
  refine Calls.mono (kn _ B1.out) ?_
  rintro e w2 ⟨b2, vm, rfl, o2⟩
  have bk := fun k h => (o1.lt k h).2
  have o3 : w2.ownsRow W.heap.size 9 1 vl n (N.map Value.string) := (Upd.of_below (B := 0) (T := []) b2).row o1 (by simp)
  obtain ⟨am, cm, rfl, tm, lm⟩ := tyT_of_own o2 HN.out.symm
  obtain ⟨al, cl, rfl, _, _⟩ := own_form o3
  have BK := hide bk
  have O3 := hide o3
  have TM := hide tm
  have z1 := b1.size
  have B2 := hide (b1.trans (b2.mono b1.size))
  clear o1 o2 o3 tm bk b1 b2 lm
  go_wp2_with fail
  go_loopw [7] (fun iv wr => ∃ (k : Nat) (xs : List Value), k ≤ n ∧ iv = .int .i64 (k : Int) ∧ Hid (wr.ownsRow W.heap.size 9 1 (.slice al n cl) n xs) ∧ Hid (TyT w1.heap.size wr am N) ∧ Hid (Below W.heap.size W wr)) (fun iv _ => n - (intOf iv).toNat)
  case atStart => exact ⟨0, _, by omega, rfl, O3, TM, B2⟩
  case round =>
    obtain ⟨k, xs, hk, rfl, O, T, B⟩ := hrel
    by_cases kn' : k < n
    · obtain ⟨g, u, rfl, gb, gl, g1, g2, g3⟩ := own_at O.out kn'
      have G3 := hide g3
      have hx := BK.out g rfl
      have d1 : decide ((k : Int) < (n : Int)) = true := by rw [decide_eq_true_eq]; omega
      have d2 : decide (k < n) = true := by rw [decide_eq_true_eq]; omega
      clear g3 kn kr ks ka
      go_wp2_with fail
      go_roundw
      case rel => exact ⟨k + 1, _, by omega, by go_num, hide (G3.out _), hide (T.out.off (Off.set _ _ _ _) (fun q (e : q = g) => by omega)), hide (B.out.setCell gb _)⟩
      case measure => simp [intOf]; omega
    · obtain rfl : k = n := by omega
      have d1 : decide ((k : Int) < (k : Int)) = false := by rw [decide_eq_false_iff_not]; omega
      have d2 : decide (k < k) = false := by rw [decide_eq_false_iff_not]; omega
      have szw := B.out.size
      obtain ⟨W3, hW3⟩ : ∃ W3, W3 = wr := ⟨_, rfl⟩
      rw [← hW3] at O T B szw ⊢
      clear hW3
      go_wp2_with (first
        | (at_builtin
           refine wpList_append_own _ rfl _ _ 22 rfl W.heap.size 9 i0 (.string ByteArray.empty) 1 16 Tryd.underlying22 hi0.out.1 hi0.out.2.1 hi0.out.2.2.1 hi0.out.2.2.2 ?a1 ?a2 (.slice al k cl) k xs ?a3 ?a4 ⟨W3.heap.size, 0, none⟩ 1 1 [.string ⟨#[121]⟩] ?a5 ?a6 ?a7 ?a8 ?a9 ?b1 ?b2 ?_
           case a1 => rfl
           case a2 => decide
           case a3 => rfl
           case a4 => exact O.out.alloc _
           case a5 => rfl
           case a6 => rfl
           case a7 => exact cells_new _ _ _ _ rfl
           case a8 => (intro u hu; rw [List.mem_singleton] at hu; subst hu; rfl)
           case a9 => (unfold maxLen; omega)
           case b1 => omega
           case b2 => (simp; omega)
           intro v' w9 hown hgrow _
           obtain ⟨al', cl', rfl, _, _⟩ := own_form hown
           have T9 : Hid (TyT w1.heap.size w9 am N) := T.out.off (Off.grown hgrow) (fun q (e : _ = some q) => BK.out q e)
           have B9 : Hid (Below W.heap.size W w9) := (B.out.alloc szw _).grown hgrow (by simp; omega) (fun q e => (O.out.lt q e).1)
           clear hown hgrow T))
      refine Calls.mono (kr _) ?_
      rintro e w4 ⟨b4, a4, c4, rfl, i4⟩
      have T4 := hide (T9.out.later b4)
      have B4 := hide (B9.out.trans (b4.mono B9.out.size))
      have I4 := hide i4
      clear b4 i4 T9 O
      go_wp2_with fail
      refine Calls.mono (ks _ _ _ _ _ T4.out.is I4.out) ?_
      rintro e w' ⟨rfl, j, rfl⟩
      go_wp2_with fail
      have B5 : Hid (Below W.heap.size W (w4.drewN j)) := below_drewN B4.out j
      refine Calls.mono (kn _ (by first | exact B5.out | exact B5.out.drew)) ?_
      rintro e w5 ⟨b5, v5, rfl, o5⟩
      obtain ⟨a5, c5, rfl, t5, _⟩ := tyT_of_own o5 HN.out.symm
      have T5 := hide t5
      have B6 := hide (B5.out.trans (b5.mono B5.out.size))
      clear b5 o5 t5
      go_wp2_with fail
      refine Calls.mono (kr _) ?_
      rintro e w6 ⟨b6, a6, c6, rfl, i6⟩
      have T6 := hide (T5.out.later b6)
      have I6 := hide i6
      have B7 := hide (B6.out.trans (b6.mono B6.out.size))
      clear b6 i6
      go_wp2_with fail
      refine Calls.mono (ks _ _ _ _ _ T6.out.is I6.out) ?_
      rintro e w' ⟨rfl, j2, rfl⟩
      go_wp2_with fail
      refine abs_calls (fun W' => Hid (Below W.heap.size W W')) (below_drewN B7.out j2) ?_
      rintro W5 B8
      clear T6 I6 B7 B6 B5 B4 B9 T4 I4 T5 kn kr ks O3 TM B2 B1 BK d1 d2 szw HN
      refine Calls.mono (kc W5) ?_
      rintro e W6 ⟨b6, v1, rfl, q1⟩
      obtain ⟨m, hm⟩ : ∃ m, m = p.length := ⟨_, rfl⟩
      obtain ⟨a1, c1, rfl, fv, fm, f4, fa, pw⟩ := q1.patW (C := W6.heap.size) (Nat.le_refl _) PF.out.a
      rw [← hm] at fa pw pn ⊢
      have B9 := hide (B8.out.trans (b6.mono B8.out.size))
      have sz5 := B8.out.size
      have sz6 := b6.size
      have PW := hide pw
      have FA := hide fa
      have F4 := hide f4
      have HM := hide hm
      clear b6 q1 pw fa f4 hm
      go_wp2_with fail
      refine abs_calls (fun W' => Hid (Below W6.heap.size W6 W') ∧ Hid (W'.cell? ⟨W6.heap.size, 0, none⟩ = some (.slice a1 m c1)) ∧ W'.heap.size = W6.heap.size + 1) ⟨hide (by go_grown), by show _ = _; simp [go_sem], by simp⟩ ?_
      rintro W7 ⟨B10, C7, sz7⟩
      refine Calls.mono (kc W7) ?_
      rintro e W8 ⟨b8, v2, rfl, q2⟩
      obtain ⟨a2, c2, rfl, t2, _⟩ := q2.ownN.done
      have hp : p.length = m := HM.out.symm
      rw [hp]
      have B11 := hide (B10.out.trans (b8.mono (by omega)))
      have T8 := hide t2
      have C8 : Hid (W8.cell? ⟨W6.heap.size, 0, none⟩ = some (.slice a1 m c1)) := (b8.cell (p := ⟨W6.heap.size, 0, none⟩) (by simp; omega)).trans C7.out
      have sz8 := b8.size
      clear b8 q2 t2 C7 hp B10
      go_wp2_with fail
      obtain ⟨FX, hFX⟩ : ∃ FX, FX = Frm W W7.heap.size W6.heap.size W8.heap.size (.slice a1 m c1) (.slice a2 m c2) a2 p := ⟨_, rfl⟩
      have HF := hide hFX
      refine abs_wp (fun W' => Hid (FX W') ∧ Hid (m = 0 ∨ ∃ g, a1 = some ⟨g, 0, none⟩ ∧ PatW W5.heap.size W6.heap.size W' g c1 m 0 fv fm)) ⟨?_, ?_⟩ ?_
      · show FX _
        rw [HF.out]
        exact ⟨(B9.out.trans (B11.out.mono (by omega))).trans (show Below W.heap.size W8 _ from by go_grown), T8.out.later (by go_grown), ((show Below W8.heap.size W8 _ from by go_grown).cell (p := ⟨W6.heap.size, 0, none⟩) (by simp; omega)).trans C8.out, by simp [go_sem], by omega, by omega⟩
      · rcases PW.out with h | ⟨g, h1, h2⟩
        · exact .inl h
        · exact .inr ⟨g, h1, (h2.later B11.out).later (by go_grown)⟩
      rintro W9 ⟨F9, P9⟩
      have KF : Hid (∀ (w1 w2 : World) (X : Nat → Prop), FX w1 → Off X w1 w2 → Below W.heap.size W w2 → (∀ k, X k → k < W6.heap.size) → FX w2) := by
        intro w1 w2 X h u b hx; rw [HF.out] at h ⊢; exact h.off u b hx
      have KB : Hid (∀ w1, FX w1 → Below W.heap.size W w1) := by intro w1 h; rw [HF.out] at h; exact h.below
      have KC : Hid (∀ w1, FX w1 → w1.cell? ⟨W6.heap.size, 0, none⟩ = some (.slice a1 m c1)) := by intro w1 h; rw [HF.out] at h; exact h.c1
      clear PW B9 B11 T8 C8 hFX kc
      go_loopw [14, 15, 16] (fun s14 s15 s16 wr => ∃ i : Nat, i ≤ m ∧ s14 = .int .i64 (i : Int) ∧ Hid (FX wr) ∧ Hid (m = 0 ∨ ∃ g, a1 = some ⟨g, 0, none⟩ ∧ PatW W5.heap.size W6.heap.size wr g c1 m i fv fm)) (fun s14 _ _ _ => m - (intOf s14).toNat)
      case atStart => exact ⟨0, by omega, rfl, F9, P9⟩
      case round =>
        obtain ⟨i, hi, rfl, F, P⟩ := hrel
        have q1 := KC.out _ F.out
        by_cases im : i < m
        · obtain ⟨g, rfl, pg⟩ := P.out.resolve_left (by omega)
          have d1 : decide ((i : Int) < (m : Int)) = true := by rw [decide_eq_true_eq]; omega
          have d2 : decide (i < m) = true := by rw [decide_eq_true_eq]; omega
          have g1 := (pg.2.2.2.2 i (Nat.le_refl _) im).1
          have gr := (pg.2.2.2.2 i (Nat.le_refl _) im).2
          have gl := pg.1.lt
          have m4 := F4.out i
          obtain ⟨v, hv⟩ : ∃ v, v = fv i := ⟨_, rfl⟩
          obtain ⟨mi, hmi⟩ : ∃ mi, mi = fm i := ⟨_, rfl⟩
          rw [← hv] at g1 gr
          rw [← hmi] at gr m4
          have AP : Hid (∀ j, i + 1 ≤ j → j < m → ∀ k, (fv j).ownBlock = some k → v.ownBlock ≠ some k) := hide (fun j h1 h2 k h3 h4 => FA.out i j k (by omega) h2 (by rw [← hv]; exact h4) h3)
          obtain ⟨A, cA, hA⟩ : ∃ A cA, v = .slice A mi cA := by
            rcases gr with ⟨rfl, rfl⟩ | ⟨b, c, rfl, _⟩
            · exact ⟨none, 0, rfl⟩
            · exact ⟨_, c, rfl⟩
          subst hA
          have ST : Hid (Nd W W5.heap.size W6.heap.size g c1 m i fv fm FX (.slice A mi cA) mi 0 wr) := ⟨F.out, g1, gr, pg.next⟩
          clear F P pg gr hv hmi
          go_wp2_with fail
          go_loopw [15, 16] (fun s15 s16 wr => ∃ k : Nat, k ≤ mi ∧ s15 = .int .i64 (k : Int) ∧ Hid (Nd W W5.heap.size W6.heap.size g c1 m i fv fm FX (.slice A mi cA) mi k wr)) (fun s15 _ _ => mi - (intOf s15).toNat)
          case atStart => exact ⟨0, by omega, rfl, ST⟩
          case round =>
            obtain ⟨k, hk, rfl, ST⟩ := hrel
            have q1 := KC.out _ ST.out.frm
            have g1 := ST.out.here
            by_cases km : k < mi
            · obtain ⟨b, rfl, bl, bb, bk, mc, a, l, d, l16, ce, al_⟩ := ST.out.row.at_ km
              have CE := hide ce
              have AL := hide al_
              have d1 : decide ((k : Int) < (mi : Int)) = true := by rw [decide_eq_true_eq]; omega
              have d2 : decide (k < mi) = true := by rw [decide_eq_true_eq]; omega
              clear bk al_
              go_wp2_with fail
              go_loopw [16] (fun s16 wr => ∃ j : Nat, j ≤ l ∧ s16 = .int .i64 (j : Int) ∧ Hid (Nd W W5.heap.size W6.heap.size g c1 m i fv fm FX (.slice (some ⟨b, 0, none⟩) mi cA) mi k wr) ∧ Hid (wr.cell? ⟨b, k * 3 + 2, none⟩ = some (.slice a l d)) ∧ Hid (AltW W5.heap.size W6.heap.size wr a l)) (fun s16 _ => l - (intOf s16).toNat)
              case atStart => exact ⟨0, by omega, rfl, ST, CE, AL⟩
              case round =>
                obtain ⟨j, hj, rfl, ST, CE, AL⟩ := hrel
                have q1 := KC.out _ ST.out.frm
                have g1 := ST.out.here
                have ce := CE.out
                by_cases jl : j < l
                · obtain ⟨ga, oa, na, rfl, a1', a2', ab, on⟩ := AL.out.resolve_left (by omega)
                  obtain ⟨u, hu⟩ := ab.cell (oa + j) (by omega)
                  have fu := ab.frozen (oa + j)
                  have AB := hide ab
                  have d1 : decide ((j : Int) < (l : Int)) = true := by rw [decide_eq_true_eq]; omega
                  have d2 : decide (j < l) = true := by rw [decide_eq_true_eq]; omega
                  clear ab
                  go_wp2_with fail
                  go_roundw
                  case rel =>
                    refine ⟨j + 1, by omega, by go_num, hide ⟨KF.out _ _ _ ST.out.frm (Off.set _ _ _ _) ((KB.out _ ST.out.frm).setCell (by simp; omega) _) (fun q (e : q = ga) => by omega), ?_, ST.out.row.str AB.out _, ST.out.rest.str AB.out _⟩, ?_, hide (AL.out.set _ _ _)⟩
                    · exact (off_cell (Off.set _ _ _ _) ST.out.rest.1.lt (fun q => ST.out.rest.1.ne AB.out (by decide) q)).trans ST.out.here
                    · obtain ⟨b', hb', _, _, bk, _⟩ := ST.out.row.at_ km
                      injection hb' with hb'
                      injection hb' with hb'
                      subst hb'
                      exact (off_cell (Off.set _ _ _ _) bk.lt (fun q => bk.ne AB.out (by decide) q)).trans CE.out
                  case measure => simp [intOf]; omega
                · obtain rfl : j = l := by omega
                  obtain ⟨b', hb', _, _, bk, _⟩ := ST.out.row.at_ km
                  injection hb' with hb'
                  injection hb' with hb'
                  subst hb'
                  have d3 : decide ((j : Int) < (j : Int)) = false := by rw [decide_eq_false_iff_not]; omega
                  have d4 : decide (j < j) = false := by rw [decide_eq_false_iff_not]; omega
                  obtain ⟨u0, h0⟩ := bk.cell (k * 3) (by have := Nat.mul_le_mul_right 3 (show k + 1 ≤ cA by omega); omega)
                  obtain ⟨u1, h1⟩ := bk.cell (k * 3 + 1) (by have := Nat.mul_le_mul_right 3 (show k + 1 ≤ cA by omega); omega)
                  have f0 := bk.frozen (k * 3)
                  have f1 := bk.frozen (k * 3 + 1)
                  have f2 := bk.frozen (k * 3 + 2)
                  clear bk
                  go_wp2_with fail
                  go_roundw
                  case rel =>
                    have hF : ∀ w o u, FX w → FX (w.setCell ⟨b, o, none⟩ u) := fun w o u h => KF.out _ _ _ h (Off.set _ _ _ _) ((KB.out _ h).setCell (by simp; omega) _) (fun q (e : q = b) => by omega)
                    have hA : ∀ j, i + 1 ≤ j → j < m → ∀ q, (fv j).ownBlock = some q → b ≠ q := fun j h1 h2 q h3 e => AP.out j h1 h2 q h3 (by rw [e]; rfl)
                    exact ⟨k + 1, by omega, by go_num, hide (((ST.out.next.mine hF hA (by omega) _).mine hF hA (by omega) _).mine hF hA (by omega) _)⟩
                  case measure => simp [intOf]; omega
            · obtain rfl : k = mi := by omega
              have d3 : decide ((k : Int) < (k : Int)) = false := by rw [decide_eq_false_iff_not]; omega
              have d4 : decide (k < k) = false := by rw [decide_eq_false_iff_not]; omega
              obtain ⟨xs2, ow⟩ := ST.out.row.owns
              have OW := hide ow
              have gl := ST.out.rest.1.lt
              have fg := ST.out.rest.1.frozen i
              obtain ⟨i1, hi1⟩ : ∃ i1, Hid (Tryd.prog.info? 34 = some i1 ∧ i1.zero = some (.agg #[.int .i64 0, .string ByteArray.empty, .slice none 0 0]) ∧ i1.size = 3 ∧ i1.bytes = 48) := by
                obtain ⟨i0, h1, h2, h3, h4⟩ := info_parts info_glob
                exact ⟨i0, h1, h2, h3, h4⟩
              have NE : ∀ q, Value.ownBlock (.slice A k cA) = some q → g ≠ q ∧ q < W6.heap.size := by
                intro q e
                rcases ST.out.row with ⟨_, h⟩ | ⟨g', c', h, _, h2, h3, _⟩
                · rw [h] at e; cases e
                · rw [h] at e
                  have e : g' = q := by simpa [Value.ownBlock] using e
                  subst e
                  exact ⟨fun q => ST.out.rest.1.ne h3 (by decide) q, h2⟩
              have N1 : ¬ (fun q => Value.ownBlock (.slice A k cA) = some q) g := fun e => (NE g e).1 rfl
              have N2 : ¬ (fun q => Value.ownBlock (.slice A k cA) = some q) W6.heap.size := fun e => absurd (NE _ e).2 (by omega)
              have NH := hide NE
              have N1H := hide N1
              have N2H := hide N2
              have lw6 : W6.heap.size < wr.heap.size := World.block_lt_of_cell? _ _ q1
              have FZ : ∀ o : Obj, (wr.alloc o).drew.frozen? ⟨g, i, none⟩ = false := fun o => (frz (w := wr) (by show (wr.heap.push _)[g]? = _; rw [Array.getElem?_push, if_neg (Nat.ne_of_lt gl)])).trans fg
              have gb := ST.out.rest.2.2.1
              have gb1 := ST.out.rest.2.1
              have W6g : W6.heap.size ≠ g := by omega
              clear ow NE N1 N2
              go_wp2_with fail
              have BLK : ∀ q, Value.ownBlock (.slice A k cA) = some q → ∃ n, Blk wr q 34 n := by
                intro q e
                rcases ST.out.row with ⟨_, h⟩ | ⟨g', c', h, _, h2, h3, _⟩
                · rw [h] at e; cases e
                · rw [h] at e
                  have e : g' = q := by simpa [Value.ownBlock] using e
                  subst e
                  exact ⟨_, h3⟩
              have BLKH := hide BLK
              have BG : Hid (∀ q, Value.ownBlock (.slice A k cA) = some q → W.heap.size ≤ q) := hide (fun q e => by have := (OW.out.lt q e).1; omega)
              have szr := (KB.out _ ST.out.frm).size
              clear BLK
              go_region_law ((refine step_append_lies _ (by rfl) _ _ 31 (by rfl) W5.heap.size 34 i1 _ 3 48 Tryd.underlying31 hi1.out.1 hi1.out.2.1 hi1.out.2.2.1 hi1.out.2.2.2 rfl (by decide) (.slice A k cA) k xs2 (by rfl) (OW.out.alloc _) ⟨wr.heap.size, 0, none⟩ 1 1 [.int .i64 9, .string ⟨#[]⟩, .slice none 0 0] (by rfl) rfl (cells_new _ _ _ _ (by simp)) (glob_one _ _ _ _ _) (by decide) (by unfold maxLen; omega) (by omega) (by simp; omega) (wr.heap.size + 1) (by simp) ?_; intro b9 cap9 w9 hown9 hgrow9 hat9 hlt9; have k0 := (off_cell (Off.grown2 (w := wr) rfl hgrow9) lw6 N2H.out).trans q1; have k1 := (off_cell (Off.grown2 (w := wr) rfl hgrow9) gl N1H.out).trans g1; have k2 := (frz ((Off.grown2 (w := wr) rfl hgrow9).2 g gl N1H.out)).trans fg; have u9 := hide (Off.grown2 (w := wr) rfl hgrow9); have B9 : Hid (Below W.heap.size W w9) := hide (Below.grown (by first | exact ((KB.out _ ST.out.frm).alloc szr _).drew | exact (KB.out _ ST.out.frm).drew.alloc szr _) hgrow9 (by simp; omega) BG.out); clear hown9 hgrow9 hat9 hlt9))
              all_goals
                go_wp2_with fail
                go_roundw
                case rel =>
                  have P9 := ST.out.rest.off u9.out BLKH.out (fun j h1 h2 q h3 h4 => AP.out j h1 h2 q h3 h4)
                  have F9 := KF.out _ _ _ ST.out.frm u9.out B9.out (fun q e => (NH.out q e).2)
                  exact ⟨i + 1, by omega, by go_num, hide (KF.out _ _ _ F9 (Off.set _ _ _ _) (B9.out.setCell (by simp; omega) _) (fun q (e : q = g) => by omega)), .inr ⟨g, rfl, P9.node (by omega) P9.nodes _⟩⟩
                case measure => simp [intOf]; omega
        · obtain rfl : i = m := by omega
          have d3 : decide ((i : Int) < (i : Int)) = false := by rw [decide_eq_false_iff_not]; omega
          have d4 : decide (i < i) = false := by rw [decide_eq_false_iff_not]; omega
          have f := F.out
          rw [HF.out] at f
          have e2 := f.c2
          have Q9 := hide f.q
          have B12 := hide f.below
          have l8 := World.block_lt_of_cell? _ _ e2
          clear P F f F9 P9 KF KB KC
          go_wp2_with fail
          refine Calls.mono (kd _) ?_
          rintro e W10 ⟨b10, a3, c3, rfl, i3⟩
          have hp : p.length = i := HM.out.symm
          have q2 : W10.cell? ⟨W8.heap.size, 0, none⟩ = some (.slice a2 i c2) := (b10.cell (p := ⟨W8.heap.size, 0, none⟩) (by simp; omega)).trans e2
          have ks := fun w (u : Below W10.heap.size W10 w) => rsame_spec p PF.out a2 a3 c2 c3 w (((Q9.out.later b10).is).later u) (i3.later u)
          rw [hp] at ks ⊢
          have z10 := b10.size
          have B13 := hide (B12.out.trans (b10.mono B12.out.size))
          have szB := B13.out.size
          have l10 : W8.heap.size < W10.heap.size := by omega
          clear b10 i3 Q9 B12 hp e2
          go_wp2_with (first
            | (go_at_call 9; refine Calls.mono (ks _ (by go_grown)) ?_; rintro e w5 ⟨rfl, b5⟩; have B5 := hide (B13.out.trans ((show Below W10.heap.size W10 w5 from (show Below W10.heap.size W10 _ from by go_grown).trans (b5.mono (by simp))).mono (by omega))); clear b5)
            | (go_at_call 10; refine Calls.mono (ka _ B5.out) ?_; rintro e w6 ⟨rfl, b6⟩; have B6 := hide (B5.out.trans (b6.mono B5.out.size)); clear b6))
          go_returns
          exact ⟨rfl, B6.out⟩
end Go.Proofs.YtagahoelojfhcaaDoor
