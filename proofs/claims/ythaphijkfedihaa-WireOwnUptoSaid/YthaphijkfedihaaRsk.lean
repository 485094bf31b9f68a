/- The reference's streams: NewStream, Feed, End. (gen_rsk.py) -/
import Derived.Test.YthaphijkfedihaaSfeed
import Derived.Test.YthaphijkfedihaaRadd
import Derived.Test.YthaphijkfedihaaRbare
namespace Go.Proofs.Ythaphijkfedihaa
set_option linter.unusedVariables false
set_option linter.unusedSimpArgs false
open Go.RowKit W
structure Rs (B : Nat) (w : World) (h : Nat) (lim past gone : Int) (A : ByteArray) : Prop where
  blk : w.heap[h]? = some (.cells #[.int .i64 lim, .string A, .int .i64 past, .int .i64 gone] 50 (0, 0))
  le : B ≤ h
section
variable {B h : Nat} {w w' : World} {lim past gone : Int} {A : ByteArray}
theorem Rs.cell (r : Rs B w h lim past gone A) : w.cell? ⟨h, 0, none⟩ = some (.int .i64 lim) ∧ w.cell? ⟨h, 1, none⟩ = some (.string A) ∧ w.cell? ⟨h, 2, none⟩ = some (.int .i64 past) ∧ w.cell? ⟨h, 3, none⟩ = some (.int .i64 gone) ∧ (∀ i, w.frozen? ⟨h, i, none⟩ = false) ∧ h < w.heap.size :=
  ⟨by simp [World.cell?, r.blk], by simp [World.cell?, r.blk], by simp [World.cell?, r.blk], by simp [World.cell?, r.blk], fun i => by simp [World.frozen?, r.blk], blk_lt r.blk⟩
theorem Rs.chg {S : Nat → Prop} (r : Rs B w h lim past gone A) (c : Chg S w w') (n : ¬ S h) : Rs B w' h lim past gone A := ⟨(c.block h (blk_lt r.blk) n).trans r.blk, r.le⟩
theorem Rs.row_ne (r : Rs B w h lim past gone A) {base n e : Nat} {v : Value} {xs : List Value} (o : w.ownsRow base e 1 v n xs) (he : e ≠ 50) (k : Nat) (hk : v.ownBlock = some k) : k ≠ h := by
  rintro rfl
  obtain ⟨_, cs, hc⟩ := own_blk o hk
  rw [r.blk] at hc
  injection hc with hc
  injection hc with _ hc
  exact he hc.symm
theorem Rs.set1 (r : Rs B w h lim past gone A) (A' : ByteArray) : Rs B (w.setCell ⟨h, 1, none⟩ (.string A')) h lim past gone A' := ⟨by simp [World.setCell, Array.getElem?_modify, r.blk], r.le⟩
theorem Rs.set2 (r : Rs B w h lim past gone A) (p : Int) : Rs B (w.setCell ⟨h, 2, none⟩ (.int .i64 p)) h lim p gone A := ⟨by simp [World.setCell, Array.getElem?_modify, r.blk], r.le⟩
theorem Rs.set3 (r : Rs B w h lim past gone A) (p : Int) : Rs B (w.setCell ⟨h, 3, none⟩ (.int .i64 p)) h lim past p A := ⟨by simp [World.setCell, Array.getElem?_modify, r.blk], r.le⟩
end
def NewRs (n : Int) (w : World) (e : Ending) (w' : World) : Prop := e = .returned (.tuple #[.agg #[.int .i64 n, .string ⟨#[]⟩, .int .i64 0, .int .i64 0], .int .i64 0]) ∧ Below w.heap.size w w'
theorem rnews_ok (n : Int) (h1 : 1 ≤ n) (h2 : n ≤ 1024) (w : World) : Calls Try.prog 18 #[.int .i64 n] w (NewRs n w) := by
  go_enter Try.func18, Try.ntmps18
  go_wp2
  refine bodyPost_ret (by simp [results, Try.results18, go_sem]; try rfl) rfl ?_
  exact ⟨rfl, by go_grown⟩
theorem rnews_bad (n : Int) (h : n < 1 ∨ 1024 < n) (w : World) : Calls Try.prog 18 #[.int .i64 n] w fun e w' => e = .returned (.tuple #[.agg #[.int .i64 0, .string ⟨#[]⟩, .int .i64 0, .int .i64 0], .int .i64 50]) ∧ Below w.heap.size w w' := by
  rcases h with h | h
  · go_enter Try.func18, Try.ntmps18
    go_wp2
    refine bodyPost_ret (by simp [results, Try.results18, go_sem]; try rfl) rfl ?_
    exact ⟨rfl, by go_grown⟩
  · go_enter Try.func18, Try.ntmps18
    go_wp2
    refine bodyPost_ret (by simp [results, Try.results18, go_sem]; try rfl) rfl ?_
    exact ⟨rfl, by go_grown⟩
theorem cut_app (acc A b : List UInt8) : cutL 10 acc (A ++ b) = (cutL 10 acc A).dropLast ++ cutL 10 ((cutL 10 acc A).getLastD []) b := by
  induction A generalizing acc with
  | nil => rfl
  | cons x r ih =>
    have e1 : cutL 10 acc (x :: r ++ b) = if x = 10 then acc :: cutL 10 [] (r ++ b) else cutL 10 (acc ++ [x]) (r ++ b) := rfl
    have e2 : cutL 10 acc (x :: r) = if x = 10 then acc :: cutL 10 [] r else cutL 10 (acc ++ [x]) r := rfl
    rw [e1, e2]
    have p := cutL_pos 10 r []
    by_cases z : x = 10
    · rw [if_pos z, if_pos z, ih]
      cases q : cutL 10 [] r with
      | nil => rw [q] at p; simp at p
      | cons a b => rfl
    · rw [if_neg z, if_neg z, ih]
theorem cut_heads (A b : List UInt8) {past : Nat} (hp : past + 1 = (cutL 10 [] A).length) : (cutL 10 [] (A ++ b)).drop past = cutL 10 (lastL [] A) b ∧ lastL [] (A ++ b) = lastL (lastL [] A) b ∧ past < (cutL 10 [] (A ++ b)).length := by
  have e := cut_app [] A b
  have l : ((cutL 10 [] A).dropLast).length = past := by rw [List.length_dropLast]; omega
  have p := cutL_pos 10 b ((cutL 10 [] A).getLastD [])
  refine ⟨?_, ?_, ?_⟩
  · rw [e, ← l, List.drop_left]; rfl
  · unfold lastL
    rw [e]
    cases q : cutL 10 ((cutL 10 [] A).getLastD []) b with
    | nil => rw [q] at p; simp at p
    | cons a r =>
      rw [List.getLastD_eq_getLast?, List.getLastD_eq_getLast?, List.getLast?_append]
      rw [List.getLast?_eq_some_getLast (by simp)]
      rfl
  · rw [e, List.length_append, l]; omega
theorem drop_step {D : List (List UInt8)} {i : Nat} (h : i + 1 < D.length) : (D.drop i).dropLast = D[i]'(by omega) :: (D.drop (i + 1)).dropLast := by
  rw [List.drop_eq_getElem_cons (by omega)]
  cases q : D.drop (i + 1) with
  | nil => have := congrArg List.length q; simp at this; omega
  | cons a r => rfl
theorem drop_end {D : List (List UInt8)} {i : Nat} (h : i + 1 = D.length) : (D.drop i).dropLast = [] := by
  apply List.eq_nil_of_length_eq_zero
  rw [List.length_dropLast, List.length_drop]; omega
/-- A round's state. -/
structure Ro (B h lim : Nat) (past : Int) (A : ByteArray) (D T : List (List UInt8)) (N : Int) (w2 W : World) (i : Nat) (vo : Value) (qs : List ByteArray) (gn : Int) : Prop where
  rs : Rs B W h lim past gn A
  chg : Chg (· = h) w2 W
  row : W.ownsRow w2.heap.size 9 1 vo qs.length (qs.map Value.string)
  le : i + 1 ≤ D.length
  tell : qs.map lst ++ tellL lim ((D.drop i).dropLast) = T
  gone : gn + lostL lim ((D.drop i).dropLast) = N
  few : qs.length ≤ i
  pos : 0 ≤ gn
  lost : gn + D.length ≤ 8000000000000 + i
theorem own_base {w : World} {b b' n e : Nat} {v : Value} {xs : List Value} (o : w.ownsRow b e 1 v n xs) (h : b' ≤ b) : w.ownsRow b' e 1 v n xs :=
  ⟨o.1, o.2.imp id (fun ⟨g, cap, cur, e, hb, r⟩ => ⟨g, cap, cur, e, Nat.le_trans h hb, r⟩)⟩
section
variable {B h lim : Nat} {past : Int} {A : ByteArray} {D T : List (List UInt8)} {N gn : Int} {w2 W : World} {i : Nat} {vo : Value} {qs : List ByteArray}
theorem Ro.long (r : Ro B h lim past A D T N w2 W i vo qs gn) (lt : i + 1 < D.length) (z : lim < (bareL (D[i]'(by omega))).length) : Ro B h lim past A D T N w2 (W.setCell ⟨h, 3, none⟩ (.int .i64 (gn + 1))) (i + 1) vo qs (gn + 1) := by
  obtain ⟨e1, e2⟩ := end_long z
  have st := drop_step lt
  have c : Chg (· = h) W (W.setCell ⟨h, 3, none⟩ (.int .i64 (gn + 1))) := Chg.set _ rfl
  have f1 := r.few
  have f2 := r.pos
  have f3 := r.lost
  refine ⟨r.rs.set3 _, r.chg.trans c (fun _ _ q => q), chg_row r.row c (r.rs.row_ne r.row (by decide)), by omega, ?_, ?_, by omega, by omega, by omega⟩
  · have := r.tell; rw [st, tell_cons, if_pos e1] at this; exact this
  · have := r.gone; rw [st, lostL, e2] at this; rw [← this]; omega
theorem Ro.skip (r : Ro B h lim past A D T N w2 W i vo qs gn) (lt : i + 1 < D.length) (z : ¬ lim < (bareL (D[i]'(by omega))).length) (ne : bareL (D[i]'(by omega)) = []) : Ro B h lim past A D T N w2 W (i + 1) vo qs gn := by
  obtain ⟨e1, e2⟩ := end_fit z
  have st := drop_step lt
  have f1 := r.few
  have f2 := r.pos
  have f3 := r.lost
  refine ⟨r.rs, r.chg, r.row, by omega, ?_, ?_, by omega, by omega, by omega⟩
  · have := r.tell; rw [st, tell_cons, if_pos (e1.trans ne)] at this; exact this
  · have := r.gone; rw [st, lostL, e2] at this; rw [← this]; omega
theorem Ro.add (r : Ro B h lim past A D T N w2 W i vo qs gn) (lt : i + 1 < D.length) (z : ¬ lim < (bareL (D[i]'(by omega))).length) (ne : bareL (D[i]'(by omega)) ≠ []) {x : ByteArray} (hx : lst x = bareL (D[i]'(by omega))) {w1 : World} {o : Obj} {vo' : Value} (hg : (W.alloc o).grownBy w1 vo.ownBlock)
    (ho : w1.ownsRow w2.heap.size 9 1 vo' (qs.length + 1) (qs.map Value.string ++ [.string x])) : Ro B h lim past A D T N w2 w1 (i + 1) vo' (qs ++ [x]) gn := by
  obtain ⟨e1, e2⟩ := end_fit z
  have st := drop_step lt
  have f1 := r.few
  have f2 := r.pos
  have f3 := r.lost
  have c : Chg (fun k => vo.ownBlock = some k) W w1 := Chg.trans (S := fun k => vo.ownBlock = some k) (Chg.of_below (Below.alloc (Below.refl _ _) (Nat.le_refl _) o)) (Chg.grown (S := fun k => vo.ownBlock = some k) hg (fun _ q => q)) (fun _ _ q => q)
  refine ⟨r.rs.chg c (fun q => r.rs.row_ne r.row (by decide) h q rfl), r.chg.trans c (fun j hj q => ?_), by simpa using ho, by omega, ?_, ?_, by simp; omega, by omega, by omega⟩
  · have := (own_blk r.row q).1; omega
  · have := r.tell; rw [st, tell_cons, if_neg (by rw [e1]; exact ne), e1, ← hx] at this; rw [← this]; simp
  · have := r.gone; rw [st, lostL, e2] at this; rw [← this]; omega
end
def RFeed (B h lim : Nat) (t l : List UInt8) (A : ByteArray) (gone : Int) (w : World) (e : Ending) (w' : World) : Prop :=
  ∃ (vl : Value) (ps : List ByteArray) (A' : ByteArray) (past : Nat), e = .returned vl ∧ ps.map lst = tellL lim (headsL t l) ∧ w'.ownsRow w.heap.size 9 1 vl ps.length (ps.map Value.string) ∧ Rs B w' h lim past (gone + lostL lim (headsL t l)) A' ∧
    lst A' = lst A ++ l ∧ past + 1 = (cutL 10 [] (lst A')).length ∧ Chg (· = h) w w'
set_option maxRecDepth 100000 in
set_option maxHeartbeats 8000000 in
theorem rfeed_spec (B h lim past : Nat) (gone : Int) (A : ByteArray) (l : List UInt8) (w0 w : World) (a : Option Addr) (c : Nat) (rs : Rs B w h lim past gone A) (hl : lim ≤ 1024) (hp : past + 1 = (cutL 10 [] (lst A)).length) (hz : A.size + l.length ≤ 4000000000000) (h0 : 0 ≤ gone) (h1 : gone ≤ 2000000000000)
    (ib : IsBytes w0 a l) (b0 : Below w0.heap.size w0 w) (hB0 : w0.heap.size ≤ B) : Calls Try.prog 21 #[.pointer (some ⟨h, 0, none⟩), .slice a l.length c] w (RFeed B h lim (lastL [] (lst A)) l A gone w) := by
  obtain ⟨x, hx, cv⟩ := bytes_text0 (ib.later b0) c
  have CV := cv w.drew (Below.drew (Below.refl _ _))
  have CV2 := cv w (Below.refl _ _)
  have xs : x.size = l.length := by rw [← lst_len, hx]
  have sz : A.size + x.size ≤ 4000000000000 := by omega
  obtain ⟨c0, c1, c2, c3, fz, lt⟩ := rs.cell
  have f1 := fz 1
  have RS := hide rs
  have LA : Hid (lst (A ++ x) = lst A ++ l) := by show _ = _; rw [← hx]; simp [lst]
  have P := hide hp
  obtain ⟨n, hn⟩ : ∃ n, n = l.length := ⟨_, rfl⟩
  rw [← hn] at CV CV2 ⊢
  clear cv ib rs hp hn fz
  go_enter Try.func21, Try.ntmps21
  go_wp2_with fail
  go_region
  obtain ⟨A', hA⟩ : ∃ A', A' = A ++ x := ⟨_, rfl⟩
  have R1 : Hid (Rs B (w.setCell ⟨h, 1, none⟩ (.string A')).drew h lim past gone A') := by
    rw [hA]
    exact (RS.out.set1 _).chg (Chg.of_below (S := fun _ => False) (Below.drew (Below.refl _ _))) (fun q => q)
  have K1 : Hid (Chg (· = h) w (w.setCell ⟨h, 1, none⟩ (.string A')).drew) := (Chg.set (S := (· = h)) _ rfl).trans (Chg.of_below (S := fun _ => False) (Below.drew (Below.refl _ _))) (fun _ _ q => q.elim)
  rw [← hA] at LA ⊢
  have asz : A'.size ≤ 4000000000000 := by
    have := congrArg List.length LA.out
    rw [List.length_append, lst_len, lst_len] at this
    omega
  generalize (w.setCell ⟨h, 1, none⟩ (.string A')).drew = w1 at *
  obtain ⟨_, d1, _, _, _, dlt⟩ := R1.out.cell
  have kc := cut5_spec A' (by omega) w1
  clear c0 c1 c2 c3 f1 lt CV CV2 hA hx xs sz
  go_wp2_with fail
  refine kc.mono ?_
  rintro e w2 ⟨vc, cps, rfl, hps, own⟩
  have OW := hide own.own
  have BW := hide own.below
  have R2 : Hid (Rs B w2 h lim past gone A') := R1.out.chg (Chg.of_below (S := fun _ => False) own.below) (fun q => q)
  obtain ⟨A5, c5, rfl, hc5, hn5⟩ := own_form own.own
  clear own kc d1 dlt
  obtain ⟨D, hD⟩ : ∃ D, D = cutL 10 [] (lst A') := ⟨_, rfl⟩
  have DD := hide hD
  rw [← hD] at hps
  have PS := hide hps
  have ml : D.length = cps.length := by rw [← hps, List.length_map]
  have mb : D.length ≤ 4000000000001 := by
    have := cutL_len 10 (lst A') []
    rw [lst_len, ← hD] at this
    omega
  obtain ⟨T, hT⟩ : ∃ T, T = tellL lim (headsL (lastL [] (lst A)) l) := ⟨_, rfl⟩
  obtain ⟨N, hN⟩ : ∃ N, N = gone + lostL lim (headsL (lastL [] (lst A)) l) := ⟨_, rfl⟩
  have F0 : Hid (Ro B h lim past A' D T N w2 w2 past (.slice none 0 0) [] gone) := by
    obtain ⟨q1, q2, q3⟩ := cut_heads (lst A) l P.out
    rw [← LA.out, ← hD] at q1 q3
    have q4 : (D.drop past).dropLast = headsL (lastL [] (lst A)) l := by rw [q1]; rfl
    exact ⟨R2.out, Chg.refl _ _, ⟨rfl, .inl ⟨rfl, rfl⟩⟩, q3, by rw [q4, hT]; rfl, by rw [q4, hN], Nat.zero_le _, h0, by omega⟩
  have FP : Hid (∀ W k vo qs gn, Ro B h lim past A' D T N w2 W k vo qs gn → k + 1 = D.length → RFeed B h lim (lastL [] (lst A)) l A gone w (.returned vo) (W.setCell ⟨h, 2, none⟩ (.int .i64 (k : Int)))) := by
    intro W k vo qs gn r e
    have de := drop_end e
    have c : Chg (· = h) W (W.setCell ⟨h, 2, none⟩ (.int .i64 (k : Int))) := Chg.set _ rfl
    have t1 := r.tell
    have g1 := r.gone
    rw [de] at t1 g1
    refine ⟨vo, qs, A', k, rfl, ?_, own_base (chg_row r.row c (r.rs.row_ne r.row (by decide))) (Nat.le_trans K1.out.size BW.out.size), ?_, LA.out, by rw [← hD]; exact e, ((K1.out.trans (Chg.of_below (S := fun _ => False) BW.out) (fun _ _ q => q.elim)).trans r.chg (fun _ _ q => q)).trans c (fun _ _ q => q)⟩
    · rw [← hT, ← t1]; simp [tellL]
    · rw [← hN, ← g1]; simpa [lostL] using r.rs.set2 (k : Int)
  have e2 := R2.out.cell.2.2.1
  have elt := R2.out.cell.2.2.2.2.2
  obtain ⟨m, hm⟩ : ∃ m, m = cps.length := ⟨_, rfl⟩
  have MM := hide hm
  rw [← hm] at ml hc5 hn5 ⊢
  clear hps hD hT hN hm
  go_wp2_with fail
  go_loopw [6, 7] (fun vo iv wr => ∃ (k : Nat) (qs : List ByteArray) (gn : Int), iv = .int .i64 (k : Int) ∧ Hid (Ro B h lim past A' D T N w2 wr k vo qs gn)) (fun _ iv _ => D.length - (intOf iv).toNat)
  case atStart => exact ⟨past, [], gone, rfl, F0.out⟩
  case round =>
    obtain ⟨k, qs, gn, rfl, ro⟩ := hrel
    have kl := ro.out.le
    obtain ⟨d0, d1, d2, d3, fz, dlt⟩ := ro.out.rs.cell
    have f2 := fz 2
    have f3 := fz 3
    clear e2 elt fz
    by_cases lt : k + 1 < D.length
    · have CR : wr.ownsRow w1.heap.size 9 1 (.slice A5 m c5) m (cps.map Value.string) := by
        have := chg_row OW.out ro.out.chg (R2.out.row_ne OW.out (by decide))
        rw [← MM.out] at this
        exact this
      have hk : k < cps.length := by rw [← MM.out]; omega
      have kD : k < D.length := by omega
      obtain ⟨g', hA5⟩ : ∃ g', A5 = some ⟨g', 0, none⟩ := by
        rcases CR.2 with ⟨e, _⟩ | ⟨g', cap, cur, e, _⟩
        · injection e with e; exact absurd (hn5 e).1 (by omega)
        · injection e with e; exact ⟨g', e⟩
      subst hA5
      have ck : wr.cell? ⟨g', k, none⟩ = some (.string cps[k]) := by
        have := CR.cells (g := g') rfl k (.string cps[k]) (by simp [hk])
        rw [Go.WideShapes.add_plain, Nat.zero_add] at this
        exact this
      have zp : cps[k].size ≤ 4000000000000 := Nat.le_trans (size_piece (s := A') (c := 10) (by rw [PS.out, DD.out]) _ (List.getElem_mem hk)) asz
      have LP : Hid (lst cps[k] = D[k]'kD) := by
        show _ = _
        have := PS.out
        subst this
        simp
      obtain ⟨p, hpp⟩ : ∃ p, p = cps[k] := ⟨_, rfl⟩
      rw [← hpp] at ck zp LP
      have kb := rbare_spec p wr (by omega)
      have s1 : IntKind.i64.wrap ((m : Int) - 1) = (m : Int) - 1 := by rw [IntKind.wrap_i64]; omega
      have k1 : (k : Int) < (m : Int) - 1 := by omega
      have k2 : k < m := by omega
      have k3 : (k : Int) < (m : Int) := by omega
      have s2 : IntKind.i64.wrap ((k : Int) + 1) = (k : Int) + 1 := by rw [IntKind.wrap_i64]; omega
      have gs : IntKind.i64.wrap (gn + 1) = gn + 1 := by
        have h1 := ro.out.lost
        have h2 := ro.out.pos
        rw [IntKind.wrap_i64]; omega
      have ql : qs.length ≤ 4000000000001 := by have := ro.out.few; omega
      clear CR hk hpp
      go_wp2_with fail
      refine kb.mono ?_
      rintro e w3 ⟨x, rfl, hx, rfl⟩
      clear kb
      have xl : x.size = (bareL (lst p)).length := by rw [← lst_len, hx]
      have HX : Hid (lst x = bareL (D[k]'kD)) := by show _ = _; rw [hx, LP.out]
      rw [LP.out] at xl
      by_cases b : lim < x.size
      · have NX := hide (ro.out.long lt (by rw [← xl]; exact b))
        have b2 : (lim : Int) < (x.size : Int) := by omega
        clear xl hx b
        go_wp2_with fail
        go_roundw
        case rel => exact ⟨k + 1, qs, gn + 1, by go_num, NX.out⟩
        case measure => simp [intOf]; omega
      · have BX : Hid (¬ lim < (bareL (D[k]'kD)).length) := by rw [← xl]; exact b
        have b2 : ¬ (lim : Int) < (x.size : Int) := by omega
        by_cases ne : lst x = []
        · have NX := hide (ro.out.skip lt BX.out (HX.out.symm.trans ne))
          obtain rfl : x = ⟨#[]⟩ := lst_inj (ne.trans rfl)
          clear xl hx b ne
          go_wp2_with fail
          go_roundw
          case rel => exact ⟨k + 1, qs, gn, by go_num, NX.out⟩
          case measure => simp [intOf]; omega
        · have NE : Hid (bareL (D[k]'kD) ≠ []) := fun q => ne (HX.out.trans q)
          have n1 : x.toList.isEmpty = false := by rw [ByteArray.toList_eq]; unfold lst at ne; cases q : x.data.toList with | nil => exact absurd q ne | cons _ _ => rfl
          have n2 : ¬ x.toList = [] := by rw [ByteArray.toList_eq]; exact ne
          clear xl hx b ne
          have c3' : qs.length + 1 ≤ maxLen := by unfold maxLen; omega
          obtain ⟨i0, hi0, hz0, hz1, hz2⟩ := info_parts info_txt
          have HI : Hid (Try.prog.info? 9 = some i0 ∧ i0.zero = some (.string ByteArray.empty) ∧ i0.size = 1 ∧ i0.bytes = 16) := ⟨hi0, hz0, hz1, hz2⟩
          clear hi0 hz0 hz1 hz2
          have BS : Hid (w2.heap.size ≤ wr.heap.size) := ro.out.chg.size
          go_wp2_with (
            at_builtin
            refine wpList_append_own _ rfl _ _ 27 rfl w2.heap.size 9 i0 (.string ByteArray.empty) 1 16 Try.underlying27 HI.out.1 HI.out.2.1 HI.out.2.2.1 HI.out.2.2.2 ?a1 ?a2 u6 qs.length (qs.map Value.string) ?a3 ?a4 ⟨wr.heap.size, 0, none⟩ 1 1 [.string x] ?a5 ?a6 ?a7 ?a8 ?a9 ?b1 ?b2 ?_
            case a1 => rfl
            case a2 => decide
            case a3 => rfl
            case a4 => exact ro.out.row.alloc _
            case a5 => rfl
            case a6 => rfl
            case a7 => exact cell_one_new _ _ _
            case a8 => exact one_txt
            case a9 => exact c3'
            case b1 => omega
            case b2 => (have := BS.out; simp; omega)
            intro v' w3 hown' hgrow hnil)
          go_roundw
          case rel => exact ⟨k + 1, qs ++ [x], gn, by go_num, ro.out.add lt BX.out NE.out HX.out hgrow hown'⟩
          case measure => simp [intOf]; omega
    · have ke : k + 1 = D.length := by omega
      have s1 : IntKind.i64.wrap ((m : Int) - 1) = (k : Int) := by rw [IntKind.wrap_i64]; omega
      go_wp2_with fail
      go_returns
      exact FP.out _ _ _ _ _ ro.out ke
def REnd (l : List UInt8) (w : World) (e : Ending) (w' : World) : Prop := ∃ x, e = .returned (.string x) ∧ lst x = l ∧ Below w.heap.size w w'
theorem last_at5 {D : List (List UInt8)} {k : Nat} (h : D.length = k + 1) : D.getLastD [] = D[k]'(by omega) := by
  rw [List.getLastD_eq_getLast?, List.getLast?_eq_getElem?]; have e : D.length - 1 = k := (by omega); rw [e, List.getElem?_eq_getElem (by omega)]; rfl
set_option maxRecDepth 100000 in
set_option maxHeartbeats 8000000 in
theorem rsend_spec (B h lim past : Nat) (gone : Int) (A : ByteArray) (w : World) (rs : Rs B w h lim past gone A) (hl : lim ≤ 1024) (hz : A.size ≤ 4000000000000) : Calls Try.prog 24 #[.pointer (some ⟨h, 0, none⟩)] w (REnd ((lastL [] (lst A)).take (lim + 1)) w) := by
  obtain ⟨c0, c1, c2, c3, fz, lt⟩ := rs.cell
  have RS := hide rs
  have kc := cut5_spec A (by omega) w
  clear rs fz
  go_enter Try.func24, Try.ntmps24
  go_wp2_with fail
  refine kc.mono ?_
  rintro e w2 ⟨vc, cps, rfl, hps, own⟩
  have OW := hide own.own
  have BW := hide own.below
  obtain ⟨A5, c5, rfl, hc5, hn5⟩ := own_form own.own
  obtain ⟨d0, _, _, _, _, _⟩ := (RS.out.chg (Chg.of_below (S := fun _ => False) own.below) (fun q => q)).cell
  clear own kc c0 c1 c2 c3 lt
  have hp := cutL_pos 10 (lst A) []
  rw [← hps, List.length_map] at hp
  have mb : cps.length ≤ 4000000000001 := by
    have := cutL_len 10 (lst A) []
    rw [lst_len, ← hps, List.length_map] at this
    omega
  obtain ⟨k, hk⟩ : ∃ k, cps.length = k + 1 := ⟨cps.length - 1, by omega⟩
  obtain ⟨g', hA5⟩ : ∃ g', A5 = some ⟨g', 0, none⟩ := by
    rcases OW.out.2 with ⟨e, _⟩ | ⟨g', cap, cur, e, _⟩
    · injection e with e; exact absurd (hn5 e).1 (by omega)
    · injection e with e; exact ⟨g', e⟩
  subst hA5
  have hk' : k < cps.length := by omega
  have ck : w2.cell? ⟨g', k, none⟩ = some (.string cps[k]) := by
    have := OW.out.cells (g := g') rfl k (.string cps[k]) (by simp [hk'])
    rw [Go.WideShapes.add_plain, Nat.zero_add] at this
    exact this
  have zp : cps[k].size ≤ 4000000000000 := Nat.le_trans (size_piece (s := A) (c := 10) hps _ (List.getElem_mem hk')) hz
  have LP : Hid (lastL [] (lst A) = lst cps[k]) := by
    show _ = _
    unfold lastL
    rw [← hps, last_at5 (k := k) (by rw [List.length_map]; exact hk), List.getElem_map]
  obtain ⟨p, hpp⟩ : ∃ p, p = cps[k] := ⟨_, rfl⟩
  rw [← hpp] at ck zp LP
  rw [hk] at hc5 hn5 mb ⊢
  have s1 : IntKind.i64.wrap (((k + 1 : Nat) : Int) - 1) = (k : Int) := by rw [IntKind.wrap_i64]; omega
  have s2 : IntKind.i64.wrap ((lim : Int) + 1) = (lim : Int) + 1 := by rw [IntKind.wrap_i64]; omega
  have k2 : k < k + 1 := by omega
  have k3 : (k : Int) < ((k + 1 : Nat) : Int) := by omega
  rw [show ((k + 1 : Nat) : Int) = (k : Int) + 1 from rfl] at s1 k3
  clear hp hk hk' hpp hps
  by_cases b : lim + 1 < p.size
  · have b1 : (lim : Int) + 1 < (p.size : Int) := by omega
    have b2 : (lim : Int) + 1 ≤ (p.size : Int) := by omega
    go_wp2_with fail
    refine bodyPost_ret (by simp [results, Try.results24, go_sem]; try rfl) rfl ?_
    refine ⟨p.extract 0 (lim + 1), rfl, ?_, BW.out⟩
    rw [LP.out]
    unfold lst
    simp [List.extract_eq_take_drop]
  · have b1 : ¬ (lim : Int) + 1 < (p.size : Int) := by omega
    go_wp2_with fail
    go_returns
    refine ⟨p, rfl, ?_, BW.out⟩
    rw [LP.out, List.take_of_length_le (by rw [lst_len]; omega)]
end Go.Proofs.Ythaphijkfedihaa
