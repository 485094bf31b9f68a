/- name: the reader's choice. -/
import Derived.Test.YtagahoelojfhcaaDoorNcl
import Derived.Deep.RegionLaw
import Derived.Deep.CutRange
import Derived.Laws.AppendOwn
namespace Go.Proofs.YtagahoelojfhcaaDoor
set_option linter.unusedVariables false
set_option linter.unusedSimpArgs false
open Go.RowKit W
theorem step_append_at {P : Program} {ops : Array Oper} {o : Oper} {a : Act} {w : World} {K : Act → World → Prop} {Q : Exit → Act → World → Prop} {E : Prop} (hgd : o.guard = none) (s x : Operand) (t : TypeId)
    (ho : o.op = .call { callee := .builtin .append, args := #[s, x], argTypes := #[t, t] })
    (base : Nat) (e : TypeId) (i : TypeInfo) (z : Value) (size bytes : Nat) (ht : P.underlying t = some (.slice e)) (hi : P.info? e = some i) (hz : i.zero = some z)
    (hsize : i.size = size) (hby : i.bytes = bytes) (hzs : z.cells.size = size) (hsz : 0 < size)
    (v : Value) (n : Nat) (xs : List Value) (hs : a.eval s = v) (hown : w.ownsRow base e size v n xs)
    (ad : Addr) (m c : Nat) (news : List Value) (hx : a.eval x = .slice (some ad) m c) (hl : news.length = m * size) (hnews : ∀ j u, news[j]? = some u → w.cell? (ad.add j) = some u) (h1 : ∀ u ∈ news, u.oneCell' = true)
    (h63 : n + m ≤ maxLen) (hbytes : (n + m) * bytes ≤ 140737488355328) (hbase : base ≤ w.heap.size)
    (h : ∀ v' w', w'.ownsRow base e size v' (n + m) (xs ++ news) → w.grownBy w' v.ownBlock → (v'.ownBlock = v.ownBlock ∨ v'.ownBlock = some w.heap.size) → K (a.put o.dst v') w') :
    if Region.wanted o (yielded ops a.tmps) = true then Oper.wp P o a w K Q else E := by
  have hw : Region.wanted o (yielded ops a.tmps) = true := by simp [Region.wanted, hgd]
  rw [if_pos hw]
  obtain ⟨v', w', hr, h2, h3, h4, h5⟩ := run_append_own_at (P := P) w base t o.type e i z size bytes ht hi hz hsize hby hzs hsz v n xs hown ad m c news hl hnews h1 h63 hbytes hbase
  unfold Oper.wp execOp
  simp only [ho, resolve, invoke, builtin, Sem.run_bind, Sem.run_pure, Result.andThen_ok, List.map_toArray, List.map_cons, List.map_nil, hs, hx, hr]
  exact h _ _ h2 h3 h5
/-- A block is of a type. -/
def Sh (w : World) (g : Nat) (t : TypeId) : Prop := ∃ cs fr, w.heap[g]? = some (.cells cs t fr)
theorem Sh.of {w : World} {g : Nat} {t : TypeId} {cs : Array Value} {fr : Nat × Nat} (h : w.heap[g]? = some (.cells cs t fr)) : Sh w g t := ⟨cs, fr, h⟩
theorem Sh.set {w : World} {g : Nat} {t : TypeId} (h : Sh w g t) (b o : Nat) (u : Value) : Sh (w.setCell ⟨b, o, none⟩ u) g t := by
  obtain ⟨cs, fr, h⟩ := h
  by_cases e : b = g
  · subst e
    exact ⟨cs.setIfInBounds o u, fr, by simp [World.setCell, Array.getElem?_modify, h]⟩
  · exact ⟨cs, fr, (Below.heap_setCell w ⟨b, o, none⟩ u g (fun q => e q.symm)).trans h⟩
theorem Sh.drewN {w : World} {g : Nat} {t : TypeId} (h : Sh w g t) (n : Nat) : Sh (w.drewN n) g t := h
theorem Sh.lt {w : World} {g : Nat} {t : TypeId} (h : Sh w g t) : g < w.heap.size := by obtain ⟨cs, fr, h⟩ := h; exact blk_lt h
theorem TyT.set {B : Nat} {w : World} {a : Option Addr} {ps : List ByteArray} (h : TyT B w a ps) {b : Nat} {t : TypeId} (s : Sh w b t) (ht : t ≠ 9) (o : Nat) (u : Value) : TyT B (w.setCell ⟨b, o, none⟩ u) a ps := by
  obtain ⟨cs, fr, s⟩ := s
  exact h.upd ((Upd.refl b [t] w).set s (Nat.le_refl _) (by simp) u) (by simpa using Ne.symm ht)
theorem TyT.drewN {B : Nat} {w : World} {a : Option Addr} {ps : List ByteArray} (h : TyT B w a ps) (n : Nat) : TyT B (w.drewN n) a ps := h.later (below_drewN (Below.refl _ _) n)
/-- A choice that is being made. -/
def BoxC (w : World) (b : Nat) (v : Value) : Prop := w.heap[b]? = some (.cells #[.int .i64 5, .string ⟨#[]⟩, v] 34 (0, 0))
theorem BoxC.upd {B : Nat} {T : List TypeId} {w w' : World} {b : Nat} {v : Value} (h : BoxC w b v) (u : Upd B T w w') (ht : 34 ∉ T) : BoxC w' b v := u.blk h ht
theorem BoxC.cells {w : World} {b : Nat} {v : Value} (h : BoxC w b v) : w.cell? ⟨b, 0, none⟩ = some (.int .i64 5) ∧ w.cell? ⟨b, 1, none⟩ = some (.string ⟨#[]⟩) ∧ w.cell? ⟨b, 2, none⟩ = some v ∧ (∀ o, w.frozen? ⟨b, o, none⟩ = false) ∧ b < w.heap.size := by
  unfold BoxC at h
  exact ⟨by simp [World.cell?, h], by simp [World.cell?, h], by simp [World.cell?, h], fun o => by simp [World.frozen?, h], blk_lt h⟩
theorem BoxC.put {w : World} {b : Nat} {v u : Value} (h : BoxC w b v) : BoxC (w.setCell ⟨b, 2, none⟩ u) b u := by
  unfold BoxC at *
  simp [World.setCell, Array.getElem?_modify, h]
theorem Zero3.set_other {w : World} {b : Nat} (h : Zero3 w b) {p : Addr} (n : b ≠ p.block) (u : Value) : Zero3 (w.setCell p u) b := (Below.heap_setCell w p u b n).trans h
def ChoicePost (w : World) (rb i : Nat) (s : ByteArray) (e : Ending) (w' : World) : Prop :=
  Go1 w w' rb s (choiceA s (s.size + 1) i []).1 ∧ match (choiceA s (s.size + 1) i []).2 with
  | .error c => e = .returned (.tuple #[.agg #[.int .i64 0, .string ⟨#[]⟩, .slice none 0 0], .int .i64 c])
  | .ok l => ∃ a c, e = .returned (.tuple #[.agg #[.int .i64 5, .string ⟨#[]⟩, .slice a l.length c], .int .i64 0]) ∧ TyT w.heap.size w' a l ∧ l.length ≤ c
set_option maxRecDepth 100000 in
set_option maxHeartbeats 8000000 in
theorem rchoice_spec {w : World} {rb i : Nat} {s : ByteArray} (h : Rd w rb s i) (hs : s.size ≤ 400) : Calls Tryd.prog 33 #[.pointer (some ⟨rb, 0, none⟩)] w (ChoicePost w rb i s) := by
  obtain ⟨E, hE⟩ : ∃ E, choiceA s (s.size + 1) i [] = E := ⟨_, rfl⟩
  have HP : Hid (∀ e w', (Go1 w w' rb s E.1 ∧ match E.2 with
    | .error c => e = .returned (.tuple #[.agg #[.int .i64 0, .string ⟨#[]⟩, .slice none 0 0], .int .i64 c])
    | .ok l => ∃ a c, e = .returned (.tuple #[.agg #[.int .i64 5, .string ⟨#[]⟩, .slice a l.length c], .int .i64 0]) ∧ TyT w.heap.size w' a l ∧ l.length ≤ c) → ChoicePost w rb i s e w') := by
    intro e w' h; unfold ChoicePost; rw [hE]; exact h
  have HE := hide hE
  clear hE
  have HS := hide hs
  have H := hide h
  have le := h.le
  have lr := h.lt
  clear h
  go_enter Tryd.func33, Tryd.ntmps33
  go_wp2_with fail
  go_loopg [] (s.size - i) (fun k wr => ∃ (j f : Nat) (acc : List ByteArray) (v : Value), j + k = s.size ∧ s.size < f + j ∧ acc.length ≤ 15 ∧ Hid (Go1 w wr rb s j) ∧ Hid (Zero3 wr w.heap.size) ∧ Hid (BoxC wr (w.heap.size + 1) v) ∧ Hid (wr.ownsRow w.heap.size 9 1 v acc.length (acc.map Value.string)) ∧ Hid (choiceA s f j acc = E))
  case atStart =>
    refine ⟨i, s.size + 1, [], .slice none 0 0, by omega, by omega, by simp, ?_, ?_, ?_, hide (World.ownsRow_nil _ _ _ _), HE⟩
    · exact (Go1.refl H.out).later ((Below.refl _ _).alloc (Nat.le_refl _) _ |>.alloc (by simp) _)
    · exact new1 _ _ _
    · exact new2 _ _ _
  case round =>
    obtain ⟨j, f, acc, v, hj, hf, ha, G, Z, X, O, D⟩ := hrel
    obtain ⟨x0, x1, x2, xf, xl⟩ := X.out.cells
    have xf2 := xf 2
    clear xf
    have KT := fun W (q : Rd W rb s j) => text_spec q hs
    obtain ⟨T, hT⟩ : ∃ T, textE s (s.size + 1) j = T := ⟨_, rfl⟩
    have tge := textE_ge s (s.size + 1) j
    have tle := textE_le s (s.size + 1) j (by omega)
    rw [hT] at KT tge tle
    have HT := hide hT
    clear hT HE H
    obtain ⟨i0, hi0, hz0, hz1, hz2⟩ := info_parts info_txt
    have HI2 : Hid (Tryd.prog.info? 9 = some i0 ∧ i0.zero = some (.string ByteArray.empty) ∧ i0.size = 1 ∧ i0.bytes = 16) := ⟨hi0, hz0, hz1, hz2⟩
    clear hi0 hz0 hz1 hz2
    go_upto_region 2 with (fail)
    go_cut [] from 6 to 42 (fun wx => ∃ v', Hid (Go1 w wx rb s T) ∧ Hid (Zero3 wx w.heap.size) ∧ Hid (BoxC wx (w.heap.size + 1) v') ∧ Hid (wx.ownsRow w.heap.size 9 1 v' (acc.length + 1) ((acc ++ [s.extract j T]).map Value.string)))
    case first =>
      go_region_law (first
        | (go_simp; go_at_call 34; go_loud (refine Calls.mono (KT _ ⟨G.out.rd.blk, G.out.rd.le⟩) ?_); go_loud (rintro e w3 ⟨rfl, g3⟩); have G3 := hide g3; have X3 := hide (BoxC.upd (show BoxC wr.drew (w.heap.size + 1) v from X.out) g3.upd (by decide)); have O3 := hide (Upd.row g3.upd (show World.ownsRow wr.drew w.heap.size 9 1 v acc.length (acc.map Value.string) from O.out) (by decide)); have Z3 := hide (Zero3.upd (show Zero3 wr.drew w.heap.size from Z.out) g3.upd (by decide)); obtain ⟨y0, y1, y2, yf, yl⟩ := X3.out.cells; have yf2 := yf 2; clear g3 yf)
        | (go_loud (refine step_append_at rfl _ _ 22 rfl w.heap.size 9 i0 (.string ByteArray.empty) 1 16 Tryd.underlying22 HI2.out.1 HI2.out.2.1 HI2.out.2.2.1 HI2.out.2.2.2 rfl (by decide) v acc.length (acc.map Value.string) ?_ (O3.out.alloc _) ⟨w3.heap.size, 0, none⟩ 1 1 [.string (s.extract j T)] ?_ rfl (cell_one_new _ _ _) one_txt ?_ ?_ ?_ ?_);
           (rfl); (rfl); (unfold maxLen; omega); (omega); (go_loud (have := O3.out; have := G3.out.upd.size; have := G.out.upd.size; simp at *; omega));
           (go_loud (intro v4 w4 o4 gr4 _; obtain ⟨A4, c4, rfl, _, _⟩ := own_form o4; have X4 := hide (X3.out.upd (Upd.trans (Upd.of_below ((Below.refl _ _).alloc (Nat.le_refl _) _)) (Upd.of_grown (O3.out.alloc _) gr4)) (by decide)); obtain ⟨p0, p1, p2, pf, pl⟩ := X4.out.cells; have pf2 := pf 2; have O4 := hide o4; have GR4 := hide gr4; clear pf o4 gr4))))
      all_goals
        go_wp2_with fail
        go_meet
        case rel =>
          exact ⟨_, hide (((((G.out.later ((Below.refl _ _).drew)).trans G3.out).later ((Below.refl _ _).alloc (Nat.le_refl _) _)).grown_new lr GR4.out (fun k hk => (O3.out.lt k hk).1)).set_new lr (by simp) _),
            hide ((Z3.out.upd (Upd.trans (Upd.of_below ((Below.refl _ _).alloc (Nat.le_refl _) _)) (Upd.of_grown (O3.out.alloc _) GR4.out)) (by decide)).set_other (by simp) _),
            hide X4.out.put, hide (by rw [List.map_append]; exact ((Upd.refl w.heap.size [34] _).set X4.out (by simp) (by simp) _).row O4.out (by decide))⟩
    case rest =>
      obtain ⟨v2, G2, Z2, X2, O2⟩ := hcut
      clear x0 x1 x2 xl xf2 G Z X O KT
      have kn := next_spec G2.out.rd hs
      obtain ⟨x, hx⟩ : ∃ x, ((nx s T).toNat : Int) = x := ⟨_, rfl⟩
      rw [hx] at kn
      have HX := hide hx
      obtain ⟨p0, p1, p2, pf, pl⟩ := X2.out.cells
      obtain ⟨z0, z1, z2, zf, zl⟩ := Z2.out.cells
      have zf0 := zf 0
      have zf1 := zf 1
      have zf2 := zf 2
      have c1 := G2.out.rd.c1
      have f1 := G2.out.rd.f1
      have HL : Hid ((acc ++ [s.extract j T]).length = acc.length + 1) := by show _ = _; simp
      have ex : ∀ y : Nat, x = y → nx s T = UInt8.ofNat y → True := fun _ _ _ => trivial
      have bk : ∀ y : Nat, y < 256 → x = (y : Int) → nx s T = UInt8.ofNat y := fun y hy e => UInt8.toNat_inj.1 (by rw [UInt8.toNat_ofNat']; omega)
      have jle : j ≤ s.size := by omega
      have BK := hide bk
      have O2' := hide O2.out
      obtain ⟨A2, C2, rfl, _, _⟩ := own_form O2.out
      clear hx pf zf ex bk
      by_cases y1 : x = 125
      · have m : nx s T = 125 := BK.out 125 (by omega) y1
        have jl2 : T < s.size := lt_of_nx (by rw [m]; decide)
        have F : Hid (E = (T + 1, .ok (acc ++ [s.extract j T]))) := by
          have := D.out; rw [choice_end hf jle (by rw [HT.out]; exact m), HT.out] at this; exact this.symm
        subst y1
        clear D m BK
        go_wp2_with fail
        refine kn.mono ?_
        rintro e w3 ⟨rfl, n3, rfl⟩
        go_wp2_with fail
        refine bodyPost_ret (by simp [results, Tryd.results33, go_sem, z0, z1, z2, p0, p1, p2]; try rfl) rfl ?_
        obtain ⟨a5, c5, e5, t5, le5⟩ := tyT_of_own O2.out HL.out
        injection e5 with e5 _ e6
        subst e5 e6
        have sr : Sh (wc.drewN n3) rb 44 := Sh.of G2.out.rd.blk
        have sz : Sh (wc.drewN n3) w.heap.size 34 := Sh.of Z2.out
        refine HP.out _ _ ?_
        rw [F.out]
        refine ⟨((((G2.out.drewN _).put (T + 1) jl2 (by omega)).set_new lr (by simp) _).set_new lr (by simp) _).set_new lr (by simp) _, _, _, ?_, ((((t5.drewN _).set sr (by decide) _ _).set (sz.set _ _ _) (by decide) _ _).set ((sz.set _ _ _).set _ _ _) (by decide) _ _).set (((sz.set _ _ _).set _ _ _).set _ _ _) (by decide) _ _, by rw [HL.out]; exact le5⟩
        rw [HL.out]
      · have y1' : (x == 125) = false := by rw [beq_eq_false_iff_ne]; exact y1
        have m1 : nx s T ≠ 125 := fun q => y1 (by have := HX.out; rw [q] at this; exact this.symm)
        clear y1
        go_wp2_with fail
        refine kn.mono ?_
        rintro e w3 ⟨rfl, n3, rfl⟩
        have kn2 := next_at (G2.out.drewN n3).rd hs x HX.out
        by_cases y2 : x = 44
        · have m : nx s T = 44 := BK.out 44 (by omega) y2
          have jl2 : T < s.size := lt_of_nx (by rw [m]; decide)
          subst y2
          by_cases q : acc.length = 15
          · have F : Hid (E = (T, .error 3)) := by
              have := D.out; rw [choice_many hf jle (by rw [HT.out]; exact m) (by omega), HT.out] at this; exact this.symm
            clear D m BK m1
            go_wp2_with fail
            refine kn2.mono ?_
            rintro e w4 ⟨rfl, n4, rfl⟩
            have q2 : (((acc.length + 1 : Nat) : Int) == 16) = true := by rw [beq_iff_eq]; omega
            go_wp2_with fail
            refine bodyPost_ret (by simp [results, Tryd.results33, go_sem, z0, z1, z2, p0, p1, p2]; try rfl) rfl ?_
            exact HP.out _ _ (by rw [F.out]; exact ⟨(((G2.out.drewN _).set_new lr (by simp) _).set_new lr (by simp) _).set_new lr (by simp) _, rfl⟩)
          · obtain ⟨t1, f', hf', hst⟩ := choice_step (acc := acc) hf jle (by rw [HT.out]; exact m) (by omega)
            rw [HT.out] at hst hf'
            have D2 : Hid (choiceA s f' (T + 1) (acc ++ [s.extract j T]) = E) := by have := D.out; rw [hst] at this; exact this
            have q2 : (((acc.length + 1 : Nat) : Int) == 16) = false := by rw [beq_eq_false_iff_ne]; omega
            clear D m BK m1 hst
            go_wp2_with fail
            refine kn2.mono ?_
            rintro e w4 ⟨rfl, n4, rfl⟩
            go_wp2_with fail
            go_roundg (s.size - (T + 1))
            case measure => omega
            case rel => exact ⟨T + 1, f', acc ++ [s.extract j T], _, by omega, hf', by have := HL.out; omega, hide ((G2.out.drewN _).put (T + 1) jl2 (by omega)), hide (Zero3.set_other (Z2.out.upd (Upd.of_below (B := 0) (T := []) (below_drewN (Below.refl _ _) _)) (by simp)) (by show w.heap.size ≠ rb; omega) _), hide (BoxC.upd (BoxC.upd X2.out (Upd.of_below (B := 0) (T := []) (below_drewN (Below.refl _ _) _)) (by simp)) ((G2.out.drewN _).rd.chg _) (by decide)), hide (by rw [HL.out]; exact Upd.row ((G2.out.drewN _).rd.chg _) (Upd.row (Upd.of_below (B := 0) (T := []) (below_drewN (Below.refl _ _) _)) O2.out (by simp)) (by decide)), D2⟩
        · have y2' : (x == 44) = false := by rw [beq_eq_false_iff_ne]; exact y2
          have m2 : nx s T ≠ 44 := fun q => y2 (by have := HX.out; rw [q] at this; exact this.symm)
          have F : Hid (E = (T, .error 31)) := by
            have := D.out; rw [choice_bad hf jle (by rw [HT.out]; exact m1) (by rw [HT.out]; exact m2), HT.out] at this; exact this.symm
          clear D m1 m2 BK y2
          go_wp2_with fail
          refine kn2.mono ?_
          rintro e w4 ⟨rfl, n4, rfl⟩
          go_wp2_with fail
          refine bodyPost_ret (by simp [results, Tryd.results33, go_sem, z0, z1, z2, p0, p1, p2]; try rfl) rfl ?_
          exact HP.out _ _ (by rw [F.out]; exact ⟨(((G2.out.drewN _).set_new lr (by simp) _).set_new lr (by simp) _).set_new lr (by simp) _, rfl⟩)
end Go.Proofs.YtagahoelojfhcaaDoor
