/- sink: SinkPieces. -/
import Derived.Test.YtbahhlgcebgfeaaDoorSnk21
import Derived.Test.YtbahhlgcebgfeaaDoorSnk18
import Derived.Laws.Concat
namespace Go.Proofs.YtbahhlgcebgfeaaDoor
set_option linter.unusedVariables false
set_option linter.unusedSimpArgs false
open Go.RowKit W
def rowH (l : List Ch) : List Value := l.flatMap fun x => [.int .i64 x.1, .bool x.2]
theorem rowH_app (l m : List Ch) : rowH (l ++ m) = rowH l ++ rowH m := by simp [rowH]
theorem rowH_len (l : List Ch) : (rowH l).length = l.length * 2 := by
  induction l with
  | nil => rfl
  | cons x l ih => show ([Value.int .i64 x.1, Value.bool x.2] ++ rowH l).length = _; rw [List.length_append, ih, List.length_cons]; simp; omega
theorem rowH_at (l : List Ch) (j : Nat) (hj : j < l.length) : (rowH l)[j * 2]? = some (.int .i64 l[j].1) ∧ (rowH l)[j * 2 + 1]? = some (.bool l[j].2) := by
  have sp : l = l.take j ++ l[j] :: l.drop (j + 1) := by rw [List.getElem_cons_drop hj, List.take_append_drop]
  have e : rowH l = rowH (l.take j) ++ (.int .i64 l[j].1 :: .bool l[j].2 :: rowH (l.drop (j + 1))) := by
    conv => lhs; rw [sp, rowH_app]
    rfl
  have hl : (rowH (l.take j)).length = j * 2 := by rw [rowH_len, List.length_take, Nat.min_eq_left (by omega)]
  constructor
  · rw [e, List.getElem?_append_right (by omega), hl, Nat.sub_self]; rfl
  · rw [e, List.getElem?_append_right (by omega), hl, Nat.add_sub_cancel_left]; rfl
theorem own_choices {B : Nat} {w : World} {v : Value} {l : List Ch} (o : w.ownsRow B 59 2 v l.length (rowH l)) : ∃ a c, v = .slice a l.length c ∧ IsCh w a l ∧ (a = none → l.length = 0 ∧ c = 0) := by
  rcases o.2 with ⟨rfl, e⟩ | ⟨g, cap, cur, rfl, _⟩
  · rw [e]; exact ⟨none, 0, rfl, .inl (List.eq_nil_of_length_eq_zero e), fun _ => ⟨rfl, rfl⟩⟩
  · obtain ⟨c, _, lt, _⟩ := row_look o
    refine ⟨_, _, rfl, .inr ⟨g, 0, rfl, lt, fun j hj => ?_⟩, fun q => by cases q⟩
    rw [Nat.zero_add]
    exact ⟨c _ _ (rowH_at l j hj).1, c _ _ (rowH_at l j hj).2⟩
/-- append of a choice. -/
theorem wpList_append_choice {w : World} {ops : Array Oper} {rest : List Oper} {o : Oper} {a : Act} {Q : Exit → Act → World → Prop} (hgd : o.guard = none) (s x : Operand)
    (ho : o.op = .call { callee := .builtin .append, args := #[s, x], argTypes := #[22, 22] }) (B : Nat) (cv : Value) (C : List Ch) (hs : a.eval s = cv) (hown : w.ownsRow B 59 2 cv C.length (rowH C)) (g : Nat) (y : Int) (b : Bool) (hx : a.eval x = .slice (some ⟨g, 0, none⟩) 1 1) (x0 : w.cell? ⟨g, 0, none⟩ = some (.int .i64 y)) (x1 : w.cell? ⟨g, 1, none⟩ = some (.bool b))
    (hl : C.length ≤ 4000000000000) (hB : B ≤ w.heap.size) (h : ∀ v' w', w'.ownsRow B 59 2 v' (C.length + 1) (rowH C ++ [.int .i64 y, .bool b]) → w.grownBy w' cv.ownBlock → (v'.ownBlock = cv.ownBlock ∨ v'.ownBlock = some w.heap.size) → wpList Tryd.prog ops Q rest (a.put o.dst v') w') : wpList Tryd.prog ops Q (o :: rest) a w := by
  obtain ⟨i0, hi0, hz0, hz1, hz2⟩ := info_parts info_choice
  refine wpList_append_own_at _ hgd s x 22 ho B 59 i0 (.agg #[.int .i64 0, .bool false]) 2 16 Tryd.underlying22 hi0 hz0 hz1 hz2 rfl (by decide) cv C.length (rowH C) hs hown ⟨g, 0, none⟩ 1 1 [.int .i64 y, .bool b] hx rfl ?_ ?_ (by unfold maxLen; omega) (by omega) hB (fun v' w' q1 q2 _ q3 => h v' w' q1 q2 q3)
  · intro j u hu
    rw [Go.WideShapes.add_plain, Nat.zero_add]
    rcases j with _ | _ | j
    · rw [List.getElem?_cons_zero] at hu; exact (Option.some.inj hu) ▸ x0
    · rw [List.getElem?_cons_succ, List.getElem?_cons_zero] at hu; exact (Option.some.inj hu) ▸ x1
    · rw [List.getElem?_cons_succ, List.getElem?_cons_succ, List.getElem?_nil] at hu; cases hu
  · intro u hu
    rcases List.mem_cons.1 hu with rfl | hu
    · rfl
    · rw [List.mem_singleton] at hu; subst hu; rfl
/-- The plan of counts. -/
def plan1 (xs : List Int) : List Ch := xs.map fun x => (max x 1, false)
theorem plan1_gd (xs : List Int) : Gd (plan1 xs) := by
  intro x h
  obtain ⟨y, _, rfl⟩ := List.mem_map.1 h
  exact ⟨by simp only; omega, rfl⟩
theorem rowH_snoc (l : List Ch) (y : Int) (b : Bool) : rowH l ++ [.int .i64 y, .bool b] = rowH (l ++ [(y, b)]) := by rw [rowH_app]; rfl
theorem plan1_take (xs : List Int) (k : Nat) (hk : k < xs.length) : plan1 (xs.take (k + 1)) = plan1 (xs.take k) ++ [(max xs[k] 1, false)] := by
  unfold plan1
  rw [List.take_add_one, List.getElem?_eq_getElem hk, List.map_append]
  rfl
theorem ids_len (k : Nat) : (ids k).length = k := by
  induction k with
  | zero => rfl
  | succ k ih => rw [ids, List.length_append, ih]; rfl
abbrev TP (B : Nat) (w : World) (a : Option Addr) (c : Nat) (aw : Option Addr) (nl cw : Nat) (al : Option Addr) (cl : Nat) (C : List CE) : Prop := Tl B w (.slice a C.length c) (.slice aw nl cw) (.slice al 0 cl) C (ids nl) []
theorem played_pc {w : World} {ea : Addr} (ef : w.cell? ⟨0, 0, none⟩ = some (EV ea)) {a : Option Addr} {c : Nat} {P : List Ch} (hp : IsCh w a P) (hn : a = none → P.length = 0 ∧ c = 0) (sp : P.length ≤ 1048576) (g : Gd P) {la : Option Addr} {lc : Nat} {L : List (List UInt8)} (hl : IsPieces w la L) (sl : L.length ≤ 1048576) (sb : ∀ b ∈ L, b.length ≤ 1048576) :
    Calls Tryd.prog 17 #[.slice a P.length c, .slice la L.length lc] w fun e w' => ∃ a c aw cw al cl C, e = .returned (.tuple #[.agg #[.slice a C.length c, .slice aw L.length cw, .slice al 0 cl, .int .i64 (plS P L L.length).n], .bool true]) ∧ C.map (fun y : CE => y.2) = (if nz L L.length = 0 then [] else [(cat L L.length, false)]) ∧ TP w.heap.size w' a c aw L.length cw al cl C ∧ Below w.heap.size w w' ∧ (nz L L.length : Int) ≤ (plS P L L.length).n ∧ (P = [] → (plS P L L.length).n = (nz L L.length : Int)) := by
  refine Calls.mono (played_tl ef (c := c) (lc := lc) hp hn sp hl sl sb) ?_
  rintro e w' ⟨a, c, aw, cw, al, cl, C, rfl, hC, R, b⟩
  have pc := pc_all P g L L.length
  rw [pc.wh, pc.lo, ids_len] at R
  rw [pc.cs] at hC
  refine ⟨a, c, aw, cw, al, cl, C, by rw [pc.wh, pc.lo, ids_len]; rfl, hC, R, b, pc.n, fun e => ?_⟩
  subst e
  exact (none_all L L.length).2
set_option maxRecDepth 100000 in
set_option maxHeartbeats 8000000 in
theorem sink_pieces {w : World} {ea : Addr} (ef : w.cell? ⟨0, 0, none⟩ = some (EV ea)) {xa : Option Addr} {xc : Nat} {xs : List Int} (hx : IsInts .i64 w xa xs) (wx : ∀ x ∈ xs, (Lit.int .i64 x).wf = true) (sx : xs.length ≤ 1048576) {la : Option Addr} {lc : Nat} {L : List (List UInt8)} (hl : IsPieces w la L) (sl : L.length ≤ 1048576) (sb : ∀ b ∈ L, b.length ≤ 1048576) :
    Calls Tryd.prog 7 #[.slice xa xs.length xc, .slice la L.length lc] w fun e w' => e = .returned (.bool true) ∧ Below w.heap.size w w' := by
  have EF := hide ef
  have HL := hide hl
  have SB := hide sb
  have HX := hide hx
  obtain ⟨nx, hnx⟩ : ∃ nx, nx = xs.length := ⟨_, rfl⟩
  obtain ⟨nl, hnl⟩ : ∃ nl, nl = L.length := ⟨_, rfl⟩
  rw [← hnx] at sx ⊢
  rw [← hnl] at sl ⊢
  have NX := hide hnx
  have NL := hide hnl
  clear ef hl sb hx wx hnx hnl
  go_enter Tryd.func7, Tryd.ntmps7
  go_wp2_with fail
  go_loopw [5, 6] (fun p i wr => ∃ k : Nat, k ≤ nx ∧ i = .int .i64 k ∧ Hid (Below w.heap.size w wr) ∧ Hid (wr.ownsRow w.heap.size 59 2 p (plan1 (xs.take k)).length (rowH (plan1 (xs.take k))))) (fun _ i _ => nx - (intOf i).toNat)
  case atStart => exact ⟨0, by omega, rfl, hide (Below.refl _ _), hide ⟨by simp [plan1, rowH], .inl ⟨rfl, by simp [plan1]⟩⟩⟩
  case round =>
    obtain ⟨k, hk, rfl, BR, OW⟩ := hrel
    by_cases hlt : k < nx
    · have hlt' : (k : Int) < (nx : Int) := by omega
      have hkx : k < xs.length := by rw [← NX.out]; exact hlt
      obtain ⟨gx, ox, rfl, LX⟩ := HX.out.resolve_left (fun e => by rw [e] at hkx; simp at hkx)
      have y1 := (BR.out.cell (p := ⟨gx, ox + k, none⟩) LX.lt).trans (LX.cell k hkx)
      have ltx := Nat.lt_of_lt_of_le LX.lt BR.out.size
      have PT := hide (plan1_take xs k hkx)
      obtain ⟨x, hxk⟩ : ∃ x, x = xs[k] := ⟨_, rfl⟩
      rw [← hxk] at y1 PT
      obtain ⟨pa, pc, ev, _, _⟩ := own_choices OW.out
      have LP : Hid ((plan1 (xs.take k)).length = k) := hide (by simp [plan1]; omega)
      rw [LP.out] at ev
      have EV1 := hide ev
      clear ev
      rw [EV1.out]
      have OW2 := hide (chg_row OW.out (Chg.of_below (S := fun _ => False) (ba wr (.cells #[.int .i64 (max x 1), .bool false] 59))) (fun _ _ q => q))
      have LE : Hid ((plan1 (xs.take k)).length ≤ 4000000000000) := hide (by rw [LP.out]; omega)
      have BW := hide (Nat.le_trans BR.out.size (ba wr (.cells #[.int .i64 (max x 1), .bool false] 59)).size)
      clear hxk LX hkx
      go_wp2_with (at_builtin; go_loud (refine wpList_append_choice rfl _ _ rfl w.heap.size u5 (plan1 (xs.take k)) ?_ OW2.out wr.heap.size (max x 1) false rfl (by simp [go_sem]) (by simp [go_sem]) LE.out BW.out ?_); (go_loud (rw [EV1.out]; rfl)); intro v' w' o' gr mv; go_loud (rw [rowH_snoc, ← PT.out] at o'); have O' := hide o'; have G' := hide gr; clear o' gr mv)
      have B2 : Hid (Below w.heap.size w w') := hide (by
        have c := (Chg.of_below (S := fun k => u5.ownBlock = some k) (ba wr (.cells #[.int .i64 (max x 1), .bool false] 59))).trans (Chg.grown (S := fun k => u5.ownBlock = some k) G'.out (fun k e => e)) (fun _ _ q => q)
        exact BR.out.trans (c.below (fun j e => (own_old OW.out e).1) BR.out.size))
      have LP2 : Hid ((plan1 (xs.take k)).length + 1 = (plan1 (xs.take (k + 1))).length) := hide (by rw [PT.out, List.length_append]; rfl)
      rw [LP2.out] at O'
      go_roundw
      case rel => exact ⟨k + 1, by omega, by go_num, B2, O'⟩
      case measure => simp [intOf]; omega
    · obtain rfl : k = nx := by omega
      have hlt' : ¬ (k : Int) < (k : Int) := by omega
      have LP : Hid ((plan1 xs).length = k) := hide (by rw [NX.out]; simp [plan1])
      have OW3 : Hid (wr.ownsRow w.heap.size 59 2 u5 (plan1 xs).length (rowH (plan1 xs))) := by
        have := OW.out
        rw [NX.out, List.take_length] at this
        exact hide this
      obtain ⟨pa, pc, ev, ic, icn⟩ := own_choices OW3.out
      have KP := hide (played_pc ((BR.out.cell (p := ⟨0, 0, none⟩) (cellb_lt EF.out)).trans EF.out) (c := pc) (lc := lc) ic icn (by rw [LP.out]; exact sx) (plan1_gd xs) (HL.out.later BR.out) (by rw [← NL.out]; exact sl) SB.out)
      rw [LP.out, ← NL.out] at KP
      rw [LP.out] at ev
      subst ev
      clear OW OW3 ic icn LP
      go_upto_region 7 with (go_at_call 17; go_loud (refine Calls.mono KP.out ?_); go_loud (rintro e w1 ⟨a1, c1, aw1, cw1, al1, cl1, C1, rfl, hC1, RP1, b1, n1, _⟩); have RP1 := hide RP1; have HC1 := hide hC1; have B1 := hide b1; clear hC1 b1 KP)
      obtain ⟨m1, hm1⟩ : ∃ m1, m1 = (plS (plan1 xs) L nl).n := ⟨_, rfl⟩
      rw [← hm1] at n1 ⊢
      clear hm1
      refine abs_wp (fun X => Hid (TP wr.heap.size X a1 c1 aw1 nl cw1 al1 cl1 C1) ∧ Hid (Below w.heap.size w X) ∧ X.heap[w1.heap.size]? = some (.cells #[.slice a1 C1.length c1, .slice aw1 nl cw1, .slice al1 0 cl1, .int .i64 m1] 38 (0, 0))) ⟨hide (RP1.out.later (ba _ _)), hide ((BR.out.trans (B1.out.mono BR.out.size)).trans ((ba _ _).mono (Nat.le_trans BR.out.size B1.out.size))), heap_alloc_new w1 _⟩ ?_
      rintro W1 ⟨R1, B2, D1⟩
      have NT1 : Hid (∀ k, InT (.slice a1 C1.length c1) (.slice aw1 nl cw1) (.slice al1 0 cl1) C1 k → k < w1.heap.size) := fun k i => (RP1.out.old i).2
      have ld0 : w.heap.size ≤ w1.heap.size := Nat.le_trans BR.out.size B1.out.size
      clear RP1 B1 BR
      obtain ⟨d, hd⟩ : ∃ d, d = w1.heap.size := ⟨_, rfl⟩
      rw [← hd] at D1 NT1 ld0 ⊢
      have ld1 := hide (blk_lt D1)
      clear hd
      have KP := hide (played_pc ((B2.out.cell (p := ⟨0, 0, none⟩) (cellb_lt EF.out)).trans EF.out) (a := none) (c := 0) (P := []) (lc := lc) (.inl rfl) (fun _ => ⟨rfl, rfl⟩) (by simp) (fun x h => by cases h) (HL.out.later B2.out) (by rw [← NL.out]; exact sl) SB.out)
      rw [← NL.out] at KP
      go_upto_region 8 with (go_at_call 17; go_loud (refine Calls.mono KP.out ?_); go_loud (rintro e w2 ⟨a2, c2, aw2, cw2, al2, cl2, C2, rfl, hC2, RP2, b2, _, n2⟩); have RP2 := hide RP2; have HC2 := hide hC2; have B3 := hide b2; have n2 := n2 rfl; clear hC2 b2 KP)
      obtain ⟨z, hz⟩ : ∃ z, z = nz L nl := ⟨_, rfl⟩
      rw [← hz] at n1 ⊢
      have Z := hide hz
      have zl : z ≤ nl := by rw [hz]; exact nz_le L nl
      clear n2 hz
      refine abs_wp (fun X => Hid (TP wr.heap.size X a1 c1 aw1 nl cw1 al1 cl1 C1) ∧ Hid (TP W1.heap.size X a2 c2 aw2 nl cw2 al2 cl2 C2) ∧ Hid (Below w.heap.size w X) ∧ X.heap[d]? = some (.cells #[.slice a1 C1.length c1, .slice aw1 nl cw1, .slice al1 0 cl1, .int .i64 m1] 38 (0, 0)) ∧ X.heap[w2.heap.size]? = some (.cells #[.slice a2 C2.length c2, .slice aw2 nl cw2, .slice al2 0 cl2, .int .i64 z] 38 (0, 0)) ∧ d < w2.heap.size) ⟨hide ((R1.out.later B3.out).later (ba _ _)), hide (RP2.out.later (ba _ _)), hide ((B2.out.trans (B3.out.mono B2.out.size)).trans ((ba _ _).mono (Nat.le_trans B2.out.size B3.out.size))), ((ba w2 _).block d (Nat.lt_of_lt_of_le (blk_lt D1) B3.out.size)).trans ((B3.out.block d (blk_lt D1)).trans D1), heap_alloc_new w2 _, Nat.lt_of_lt_of_le (blk_lt D1) B3.out.size⟩ ?_
      rintro W2 ⟨R1, R2, B4, D1, D2, ned⟩
      clear RP2 B2 B3
      obtain ⟨x, hx⟩ : ∃ x, x = w2.heap.size := ⟨_, rfl⟩
      rw [← hx] at D2 ned ⊢
      clear hx
      have HL2 := hide (HL.out.later B4.out)
      have D1 := hide D1
      have D2 := hide D2
      go_wp2_with fail
      go_loopw [11, 12, 13] (fun t n i wr => ∃ k : Nat, k ≤ nl ∧ t = .string ⟨(cat L k).toArray⟩ ∧ n = .int .i64 (nz L k) ∧ i = .int .i64 k ∧ wr = W2) (fun _ _ i _ => nl - (intOf i).toNat)
      case atStart => exact ⟨0, by omega, rfl, rfl, rfl, rfl⟩
      case round =>
        obtain ⟨j, hj, rfl, rfl, rfl, rfl⟩ := hrel
        by_cases hlj : j < nl
        · have hlj' : (j : Int) < (nl : Int) := by omega
          obtain ⟨gl, ol, ab, cb, rfl, ltl, x1, x2, _, x4⟩ := pieces_len HL2.out j (by rw [← NL.out]; exact hlj)
          have t1 := text_of x4 cb wr (Below.refl _ _)
          have hs1 := cat_len L SB.out j
          have hs2 : (L.getD j []).length ≤ 1048576 := by
            have hkl : j < L.length := by rw [← NL.out]; exact hlj
            rw [List.getD_eq_getElem?_getD, List.getElem?_eq_getElem hkl]
            exact SB.out _ (List.getElem_mem hkl)
          have hcat : Hid ((⟨(cat L j).toArray⟩ : ByteArray) ++ ⟨(L.getD j []).toArray⟩ = ⟨(cat L (j + 1)).toArray⟩) := hide (by rw [ByteArray.mk_append_mk]; rfl)
          have hsz : (⟨(cat L j).toArray⟩ : ByteArray).size + (⟨(L.getD j []).toArray⟩ : ByteArray).size ≤ 9223372036854775807 := by
            simp only [ByteArray.size, List.size_toArray]
            omega
          have hnz : nz L (j + 1) = nz L j + (if (L.getD j []).length = 0 then 0 else 1) := by
            rw [nz]
            by_cases q : L.getD j [] = []
            · rw [if_pos q, if_pos (by rw [q]; rfl)]
            · rw [if_neg q, if_neg (fun e => q (List.eq_nil_of_length_eq_zero e))]
          have hnl := nz_le L j
          have HN := hide hnz
          generalize (L.getD j []).length = lj at x1 x2 t1 HN
          generalize (⟨(cat L j).toArray⟩ : ByteArray) = ta at hcat hsz ⊢
          generalize (⟨(L.getD j []).toArray⟩ : ByteArray) = tb at hcat hsz t1
          obtain ⟨zj, hzj⟩ : ∃ zj, zj = nz L j := ⟨_, rfl⟩
          rw [← hzj] at hnl HN ⊢
          have w1 : IntKind.i64.wrap ((zj : Int) + 1) = ((zj + 1 : Nat) : Int) := by rw [IntKind.wrap_i64]; omega
          clear x4 hnz hzj hs1 hs2
          by_cases q : lj = 0
          · have e1 : Hid (nz L (j + 1) = zj) := hide (by rw [HN.out, if_pos q, Nat.add_zero])
            subst q
            go_wp2_with fail
            go_roundw
            case rel => exact ⟨j + 1, by omega, by rw [hcat.out], by rw [e1.out] <;> first | rfl | (push_cast; rfl), by go_num, by first | rfl | trivial⟩
            case measure => simp [intOf]; omega
          · have q0 : (0 : Int) < (lj : Int) := by omega
            have e1 : Hid (nz L (j + 1) = zj + 1) := hide (by rw [HN.out, if_neg q])
            go_wp2_with fail
            go_roundw
            case rel => exact ⟨j + 1, by omega, by rw [hcat.out], by rw [e1.out] <;> first | rfl | (push_cast; rfl), by go_num, by first | rfl | trivial⟩
            case measure => simp [intOf]; omega
        · obtain rfl : j = nl := by omega
          have hlj' : ¬ (j : Int) < (j : Int) := by omega
          have hs := Z.out
          rw [← hs]
          obtain ⟨⟨d0, d1, d2, d3⟩, _, _, _, f3⟩ := scf4 D1.out
          obtain ⟨e0, e1, e2, e3⟩ := sc4 D2.out
          have l1 := blk_lt D1.out
          have l2 := blk_lt D2.out
          have g1 : ¬ m1 < (z : Int) := by omega
          have T1 := hide ((R1.out.chg (Chg.set (S := (· = d)) (i := 3) (.int .i64 z) rfl) (fun k i e => by have := NT1.out k i; omega)).as_rep)
          have T2 := hide ((R2.out.box ld1.out 3 (.int .i64 z)).as_rep)
          have B5 := hide (below_set B4.out 3 (.int .i64 z) ld0)
          have D3 : Hid ((wr.setCell ⟨d, 3, none⟩ (.int .i64 z)).heap[d]? = some (.cells #[.slice a1 C1.length c1, .slice aw1 j cw1, .slice al1 0 cl1, .int .i64 z] 38 (0, 0))) := hide (by simp [World.setCell, Array.getElem?_modify, D1.out])
          have D4 : Hid ((wr.setCell ⟨d, 3, none⟩ (.int .i64 z)).heap[x]? = some (.cells #[.slice a2 C2.length c2, .slice aw2 j cw2, .slice al2 0 cl2, .int .i64 z] 38 (0, 0))) := hide ((Below.heap_setCell wr ⟨d, 3, none⟩ (.int .i64 z) x (by simp only; omega)).trans D2.out)
          clear hs
          go_upto_region 19 with (fail)
          generalize wr.setCell ⟨d, 3, none⟩ (.int .i64 z) = W3 at T1 T2 B5 D3 D4 ⊢
          clear d0 d1 d2 d3 f3 e0 e1 e2 e3 l1 l2 g1 R1 R2 B4 D1 D2
          obtain ⟨d0, d1, d2, d3⟩ := sc4 D3.out
          obtain ⟨e0, e1, e2, e3⟩ := sc4 D4.out
          have l1 := blk_lt D3.out
          have l2 := blk_lt D4.out
          have KS := hide (same_same (c := c1) (cw := cw1) (cl := cl1) (c' := c2) (cw' := cw2) (cl' := cl2) (z : Int) T1.out T2.out (HC1.out.trans HC2.out.symm) (by have := congrArg List.length HC1.out; rw [List.length_map] at this; rw [this]; split <;> simp [maxLen]) (by rw [ids_len]; unfold maxLen; omega) (by simp [maxLen]))
          rw [ids_len] at KS
          by_cases z0 : z = 0
          · have hC2 : C2 = [] := by
              have := HC2.out
              rw [← Z.out, if_pos z0] at this
              exact List.map_eq_nil_iff.1 this
            subst hC2
            subst z0
            go_wp2_with (go_at_call 14; go_loud (refine Calls.mono KS.out ?_); go_loud (rintro e w4 ⟨rfl, b4⟩); go_loud (have D6 := hide ((b4.block x l2).trans D4.out)); have T3 := hide (T2.out.later b4); have B6 := hide (B5.out.trans (b4.mono B5.out.size)); clear KS d0 d1 d2 d3 e0 e1 e2 e3 l1 l2; obtain ⟨e0, e1, e2, e3⟩ := sc4 D6.out; have l2 := blk_lt D6.out; clear b4 T1 T2 D3 D4)
            go_returns
            exact ⟨rfl, B6.out⟩
          · have hC2 : ∃ v, C2 = [(v, cat L j, false)] := by
              have := HC2.out
              rw [← Z.out, if_neg z0] at this
              obtain ⟨y, h1, h2⟩ := List.map_eq_singleton_iff.1 this
              exact ⟨y.1, by rw [h1, ← h2]⟩
            obtain ⟨v, hC2⟩ := hC2
            subst hC2
            have z1 : ((z : Int) == 0) = false := by rw [beq_eq_false_iff_ne]; omega
            have z2 : (0 : Int) < (z : Int) := by omega
            go_wp2_with (go_at_call 14; go_loud (refine Calls.mono KS.out ?_); go_loud (rintro e w4 ⟨rfl, b4⟩); go_loud (have D6 := hide ((b4.block x l2).trans D4.out)); have T3 := hide (T2.out.later b4); have B6 := hide (B5.out.trans (b4.mono B5.out.size)); clear KS d0 d1 d2 d3 e0 e1 e2 e3 l1 l2; obtain ⟨e0, e1, e2, e3⟩ := sc4 D6.out; have l2 := blk_lt D6.out; clear b4 T1 T2 D3 D4; obtain ⟨gc, oc, hgc, ltc, cc⟩ := T3.out.co.resolve_left (by simp); have cc0 := cc 0 (by simp); obtain ⟨ab, cb, hv, ib⟩ := T3.out.by_ _ List.mem_cons_self; go_loud (simp only [List.getElem_cons_zero, Nat.zero_mul, Nat.add_zero] at cc0); go_loud (simp only at hv ib); go_loud (obtain ⟨k0, k1⟩ := cc0); have t9 := text_of ib cb w4 (Below.refl _ _); go_loud (rw [hv] at k0); go_loud (subst hgc); clear cc hv ib)
            go_returns
            exact ⟨rfl, B6.out⟩
end Go.Proofs.YtbahhlgcebgfeaaDoor
