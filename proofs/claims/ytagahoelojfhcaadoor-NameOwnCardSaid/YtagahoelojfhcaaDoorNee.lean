/- name: the reference's Read, Compile. -/
import Derived.Test.YtagahoelojfhcaaDoorNed
import Derived.Test.YtagahoelojfhcaaDoorNco
namespace Go.Proofs.YtagahoelojfhcaaDoor
set_option linter.unusedVariables false
set_option linter.unusedSimpArgs false
open Go.RowKit W
theorem piece_46 {s : ByteArray} {i : Nat} (h : nx s i = 46) : pieceA s i = (i, .error 31) := by
  simp only [pieceA]
  rw [h, if_neg (by decide), if_neg (by decide), if_neg (by decide), if_neg (by decide), if_pos (textE_stop (by rw [h]; decide))]
theorem piece_end {s : ByteArray} {i : Nat} (h : s.size ≤ i) : pieceA s i = (i, .error 31) := by
  have z := nx_ge h
  simp only [pieceA]
  rw [z, if_neg (by decide), if_neg (by decide), if_neg (by decide), if_neg (by decide), if_pos (textE_stop (by rw [z]; exact nB0))]
/-- The reading under way. -/
structure Cse (w W : World) (j : Nat) (d : Int) (s : ByteArray) (v : Value) (acc : List (List Gl)) : Prop where
  rd : Re W (w.heap.size + 1) s j d
  below : Below w.heap.size w W
  res : BoxP W w.heap.size (.slice none 0 0)
  p : BoxP W (w.heap.size + 2) v
  own : OwnN w.heap.size W v acc
theorem Cse.later {w W W' : World} {j : Nat} {d : Int} {s : ByteArray} {v : Value} {acc : List (List Gl)} (h : Cse w W j d s v acc) (b : Below W.heap.size W W') : Cse w W' j d s v acc :=
  ⟨h.rd.later b, h.below.trans (b.mono h.below.size), h.res.upd (Upd.of_below (B := 0) (T := []) b) (by simp), h.p.upd (Upd.of_below (B := 0) (T := []) b) (by simp), h.own.later b⟩
theorem Cse.go {w W W' : World} {i j : Nat} {d d' : Int} {s : ByteArray} {v : Value} {acc : List (List Gl)} (h : Cse w W i d s v acc) (g : Ge W W' (w.heap.size + 1) s j d') : Cse w W' j d' s v acc :=
  ⟨g.rd, h.below.trans ((g.upd.below (Nat.le_of_lt h.rd.lt)).mono (by omega)), h.res.upd g.upd (by decide), h.p.upd g.upd (by decide), h.own.upd g.upd (by decide) (by decide) (by decide)⟩
/-- What only an append of a piece has changed. -/
theorem Cse.grow {w W W' : World} {j : Nat} {d : Int} {s : ByteArray} {v : Value} {acc : List (List Gl)} (h : Cse w W j d s v acc) (u : Upd w.heap.size [34] W W') (ho : OwnN w.heap.size W' v acc) : Cse w W' j d s v acc :=
  ⟨h.rd.upd u (by decide), h.below.trans (u.below h.below.size), h.res.upd u (by decide), h.p.upd u (by decide), ho⟩
theorem Cse.app {w W w5 : World} {j : Nat} {d : Int} {s : ByteArray} {v v' : Value} {acc : List (List Gl)} (h : Cse w W j d s v acc) {l : List Gl} {a : Option Addr} {c : Nat} {xs : List Value} (ty : TyG w.heap.size W a l) (lc : l.length ≤ c) (XX : W.ownsRow w.heap.size 31 1 v acc.length xs)
    (XH : NCells w.heap.size W (fun i => xs[i]?) acc) (o : Obj) (hown : w5.ownsRow w.heap.size 31 1 v' (acc.length + 1) (xs ++ [.slice a l.length c])) (hg : (W.alloc o).grownBy w5 v.ownBlock) :
    BoxP w5 (w.heap.size + 2) v ∧ Cse w (w5.setCell ⟨w.heap.size + 2, 0, none⟩ v') j d s v' (acc ++ [l]) := by
  have U : Upd w.heap.size [31] W w5 := Upd.trans (Upd.of_below ((Below.refl _ _).alloc (Nat.le_refl _) o)) (Upd.of_grown (XX.alloc o) hg)
  have P5 := h.p.upd U (by decide)
  have V : Upd w.heap.size [27] w5 (w5.setCell ⟨w.heap.size + 2, 0, none⟩ v') := (Upd.refl _ _ _).set P5 (by omega) (by simp) _
  refine ⟨P5, (h.rd.upd U (by decide)).upd V (by decide), (h.below.trans (U.below h.below.size)).setCell (by simp) _, (h.res.upd U (by decide)).set_other (by simp) _, P5.put, ?_⟩
  exact (OwnN.more XH (by rw [XX.1, Nat.mul_one]) U ty lc hown).upd V (by decide) (by decide) (by decide)
/-- A node that is being read, with a fault or none. -/
def NodeSt (s : ByteArray) (f jj : Nat) (dd : Int) (na : List Gl) (N : Nat × Except Int (List Gl)) : Prop :=
  (dd = 0 ∧ s.size < f + jj ∧ nodeA s f jj na = N) ∨ (dd ≠ 0 ∧ N = (jj, .error dd) ∧ na ≠ [])
def PatSt (s : ByteArray) (f j : Nat) (d : Int) (acc : List (List Gl)) (E : Nat × Except Int (List (List Gl))) : Prop :=
  (d = 0 ∧ s.size < f + j ∧ patA s f j acc = E) ∨ (d ≠ 0 ∧ E = (j, .error d))
theorem cells_pd {W W' : World} {w : World} {v : Value} {acc : List Gl} (h : OwnG w.heap.size W v acc) (b : Below W.heap.size W W') : OwnG w.heap.size W' v acc := h.later b
set_option maxRecDepth 100000 in
set_option maxHeartbeats 16000000 in
theorem read_short {s : ByteArray} (hs : s.size ≤ 400) (w : World) : Calls Tryd.prog 16 #[.string s] w (CompRes w (patA s (s.size + 1) 0 [])) := by
  obtain ⟨E, hE⟩ : ∃ E, patA s (s.size + 1) 0 [] = E := ⟨_, rfl⟩
  rw [hE]
  have HE := hide hE
  clear hE
  go_enter Tryd.func16, Tryd.ntmps16
  go_wp2_with fail
  go_loopg [] s.size (fun k wr => ∃ (j f : Nat) (acc : List (List Gl)) (v : Value) (d : Int), (d = 0 → j + k = s.size) ∧ acc.length ≤ 16 ∧ (d = 0 → acc.length ≤ 15) ∧ Hid (Cse w wr j d s v acc) ∧ Hid (PatSt s f j d acc E))
  case atStart =>
    refine ⟨0, s.size + 1, [], .slice none 0 0, 0, by omega, by simp, by simp, ⟨⟨?_, by omega⟩, ?_, ?_, ?_, OwnN.none_ _ _⟩, hide (.inl ⟨rfl, by omega, HE⟩)⟩
    · exact new3b _ _ _ _
    · go_grown
    · exact new3a _ _ _ _
    · exact new3c _ _ _ _
  case round =>
    obtain ⟨j, f, acc, v, d, hj, ha, ha2, C, D⟩ := hrel
    have c2 := C.out.rd.c2
    by_cases d0 : d = 0
    · subst d0
      have hj := hj rfl
      have ha2 := ha2 rfl
      have hf : Hid (s.size < f + j ∧ patA s f j acc = E) := (D.out.resolve_right (fun q => q.1 rfl)).2
      have jle := C.out.rd.le
      obtain ⟨N, hN⟩ : ∃ N, nodeA s (s.size + 1) j [] = N := ⟨_, rfl⟩
      have HN := hide hN
      have lr := C.out.rd.lt
      have szw := C.out.below.size
      obtain ⟨wo, rfl⟩ : ∃ wo, wo = wr := ⟨_, rfl⟩
      clear hN D HE
      go_wp2_with fail
      clear c2
      go_loopg [7] (s.size + 1 - j) (fun k2 v7 w2 => ∃ (jj f2 : Nat) (na : List Gl) (dd : Int), (dd = 0 → jj + k2 = s.size + 1) ∧ (dd = 0 → j + na.length ≤ jj) ∧ jj ≤ s.size ∧ Hid (Ge wo w2 (w.heap.size + 1) s jj dd) ∧ Hid (OwnG wo.heap.size w2 v7 na) ∧ Hid (NodeSt s f2 jj dd na N))
      case atStart => exact ⟨j, s.size + 1, [], 0, by omega, by simp, jle, hide (Ge.refl C.out.rd), hide (OwnG.none_ _ _), hide (.inl ⟨rfl, by omega, HN.out⟩)⟩
      case round =>
        obtain ⟨jj, f2, na, dd, hjj, hna2, jjl, G2, O2, D2⟩ := hrel
        have C2 := hide (C.out.go G2.out)
        have c2 := C2.out.rd.c2
        obtain ⟨A, Cn, rfl, _, _⟩ : ∃ A C, u7 = .slice A na.length C ∧ na.length ≤ C ∧ (A = none → na.length = 0 ∧ C = 0) := by obtain ⟨xs, h1, _⟩ := O2.out.own; exact own_form h1
        by_cases dd0 : dd = 0
        · subst dd0
          have hjj := hjj rfl
          have hna2 := hna2 rfl
          have AL : Hid (s.size < f2 + jj ∧ nodeA s f2 jj na = N) := (D2.out.resolve_right (fun q => q.1 rfl)).2
          have kp := epiece_spec C2.out.rd hs
          obtain ⟨⟨j2, r⟩, hr⟩ : ∃ q, pieceA s jj = q := ⟨_, rfl⟩
          unfold PieceE at kp
          rw [hr] at kp
          have sz2 := G2.out.upd.size
          clear D2
          go_wp2_with fail
          clear c2
          cases r with
          | ok g =>
            have jlt : jj < s.size := Decidable.byContradiction fun q => by rw [piece_end (by omega)] at hr; cases hr
            have n46 : nx s jj ≠ 46 := fun q => by rw [piece_46 q] at hr; cases hr
            have gt := piece_gt hr
            have gle := piece_le (s := s) jlt
            rw [hr] at gle
            obtain ⟨f', hf', hst⟩ := node_step (acc := na) AL.out.1 jlt n46 hr
            have ST : Hid (nodeA s f' j2 (na ++ [g]) = N) := by show _ = _; rw [← hst]; exact AL.out.2
            clear hr hst n46
            refine Calls.mono kp ?_
            rintro e W3 ⟨g3, a, c, rfl, t3, l3⟩
            have C3 := hide (G2.out.trans g3)
            have O3 := hide (O2.out.upd g3.upd (by decide) (by decide))
            have T3 := hide (t3.less sz2)
            have L3 := hide l3
            clear g3 t3 l3 kp
            go_upto_region 8 with (fail)
            refine abs_wp (fun W => Hid (Ge wo W (w.heap.size + 1) s j2 0) ∧ Hid (OwnG wo.heap.size W (.slice A na.length Cn) na) ∧ Hid (TyT wo.heap.size W a g.al) ∧ W.cell? ⟨W3.heap.size, 0, none⟩ = some (.int .i64 g.k) ∧ W.cell? ⟨W3.heap.size, 1, none⟩ = some (.string g.t) ∧ W.cell? ⟨W3.heap.size, 2, none⟩ = some (.slice a g.al.length c) ∧ wo.heap.size ≤ W.heap.size) ⟨hide (C3.out.later ?_), hide (O3.out.later ?_), hide (TyT.later T3.out ?_), ?_, ?_, ?_, ?_⟩ ?_
            · go_grown
            · go_grown
            · go_grown
            · simp [go_sem]
            · simp [go_sem]
            · simp [go_sem]
            · (have := C3.out.upd.size; simp; omega)
            rintro W4 ⟨C4, O4, T4, p0, p1, p2, sz4⟩
            obtain ⟨xs, X4, XG⟩ := O4.out.own
            have XX := hide X4
            have XH := hide XG
            obtain ⟨i0, hi0, hz0, hz1, hz2⟩ := info_parts info_glob
            have HI2 : Hid (Tryd.prog.info? 34 = some i0 ∧ i0.zero = some (.agg #[.int .i64 0, .string ByteArray.empty, .slice none 0 0]) ∧ i0.size = 3 ∧ i0.bytes = 48) := ⟨hi0, hz0, hz1, hz2⟩
            clear hi0 hz0 hz1 hz2 X4 XG C3 O3 T3
            go_wp2_with (
              at_builtin
              refine wpList_append_own _ rfl _ _ 31 rfl wo.heap.size 34 i0 _ 3 48 Tryd.underlying31 HI2.out.1 HI2.out.2.1 HI2.out.2.2.1 HI2.out.2.2.2 ?a1 ?a2 (.slice A na.length Cn) na.length xs ?a3 ?a4 ⟨W4.heap.size, 0, none⟩ 1 1 [.int .i64 g.k, .string g.t, .slice a g.al.length c] ?a5 ?a6 ?a7 ?a8 ?a9 ?b1 ?b2 ?_
              case a1 => rfl
              case a2 => decide
              case a3 => rfl
              case a4 => exact XX.out.alloc _
              case a5 => rfl
              case a6 => rfl
              case a7 => exact cells_new _ _ _ _ rfl
              case a8 => exact glob_one _ _ _ _ _
              case a9 => (unfold maxLen; omega)
              case b1 => omega
              case b2 => (simp; omega)
              intro v' w5 hown' hgrow hnil)
            have U5 := hide (Upd.trans (Upd.of_below ((Below.refl W4.heap.size W4).alloc (Nat.le_refl _) _)) (Upd.of_grown (XX.out.alloc _) hgrow))
            go_roundg (s.size + 1 - j2)
            case measure => omega
            case rel => exact ⟨j2, f', na ++ [g], 0, fun _ => by omega, fun _ => by simp; omega, gle, hide ((C4.out.later ((Below.refl _ _).alloc (Nat.le_refl _) _)).grown_new lr hgrow (fun k hk => (XX.out.lt k hk).1)), hide (OwnG.more (g := g) (v := .slice none 0 0) XH.out XX.out.1 U5.out T4.out L3.out hown'), hide (.inl ⟨rfl, hf', ST.out⟩)⟩
          | error cc =>
            refine Calls.mono kp ?_
            rintro e W3 (⟨g3, m91, k, rfl⟩ | ⟨h31, hj2, g3, rfl⟩)
            · have jlt : jj < s.size := lt_of_nx (by rcases m91 with q | q <;> rw [q] <;> decide)
              have n46 : nx s jj ≠ 46 := by rcases m91 with q | q <;> rw [q] <;> decide
              have gle := piece_le (s := s) jlt
              rw [hr] at gle
              have ce := piece_err hr
              have cn : cc ≠ 0 := by omega
              have ST : Hid (N = (j2, .error cc)) := by show _ = _; rw [← AL.out.2]; exact node_bad AL.out.1 jlt n46 hr
              have C3 := hide (G2.out.trans g3)
              have O3 := hide (O2.out.upd g3.upd (by decide) (by decide))
              have T3 : Hid (TyT wo.heap.size W3 none []) := .inl rfl
              have L3 : Hid (([] : List ByteArray).length ≤ 0) := Nat.zero_le _
              clear hr n46 m91 g3 kp ce
              go_upto_region 8 with (fail)
              refine abs_wp (fun W => Hid (Ge wo W (w.heap.size + 1) s j2 cc) ∧ Hid (OwnG wo.heap.size W (.slice A na.length Cn) na) ∧ Hid (TyT wo.heap.size W none []) ∧ W.cell? ⟨W3.heap.size, 0, none⟩ = some (.int .i64 k) ∧ W.cell? ⟨W3.heap.size, 1, none⟩ = some (.string ⟨#[]⟩) ∧ W.cell? ⟨W3.heap.size, 2, none⟩ = some (.slice none 0 0) ∧ wo.heap.size ≤ W.heap.size) ⟨hide (C3.out.later ?_), hide (O3.out.later ?_), hide (TyT.later T3.out ?_), ?_, ?_, ?_, ?_⟩ ?_
              · go_grown
              · go_grown
              · go_grown
              · simp [go_sem]
              · simp [go_sem]
              · simp [go_sem]
              · (have := C3.out.upd.size; simp; omega)
              rintro W4 ⟨C4, O4, T4, p0, p1, p2, sz4⟩
              obtain ⟨xs, X4, XG⟩ := O4.out.own
              have XX := hide X4
              have XH := hide XG
              obtain ⟨i0, hi0, hz0, hz1, hz2⟩ := info_parts info_glob
              have HI2 : Hid (Tryd.prog.info? 34 = some i0 ∧ i0.zero = some (.agg #[.int .i64 0, .string ByteArray.empty, .slice none 0 0]) ∧ i0.size = 3 ∧ i0.bytes = 48) := ⟨hi0, hz0, hz1, hz2⟩
              clear hi0 hz0 hz1 hz2 X4 XG C3 O3 T3
              go_wp2_with (
                at_builtin
                refine wpList_append_own _ rfl _ _ 31 rfl wo.heap.size 34 i0 _ 3 48 Tryd.underlying31 HI2.out.1 HI2.out.2.1 HI2.out.2.2.1 HI2.out.2.2.2 ?a1 ?a2 (.slice A na.length Cn) na.length xs ?a3 ?a4 ⟨W4.heap.size, 0, none⟩ 1 1 [.int .i64 k, .string ⟨#[]⟩, .slice none 0 0] ?a5 ?a6 ?a7 ?a8 ?a9 ?b1 ?b2 ?_
                case a1 => rfl
                case a2 => decide
                case a3 => rfl
                case a4 => exact XX.out.alloc _
                case a5 => rfl
                case a6 => rfl
                case a7 => exact cells_new _ _ _ _ rfl
                case a8 => exact glob_one _ _ _ _ _
                case a9 => (unfold maxLen; omega)
                case b1 => omega
                case b2 => (simp; omega)
                intro v' w5 hown' hgrow hnil)
              have U5 := hide (Upd.trans (Upd.of_below ((Below.refl W4.heap.size W4).alloc (Nat.le_refl _) _)) (Upd.of_grown (XX.out.alloc _) hgrow))
              go_roundg (0)
              case measure => omega
              case rel => exact ⟨j2, 0, na ++ [⟨k, ⟨#[]⟩, []⟩], cc, fun q => absurd q cn, fun q => absurd q cn, gle, hide ((C4.out.later ((Below.refl _ _).alloc (Nat.le_refl _) _)).grown_new lr hgrow (fun k hk => (XX.out.lt k hk).1)), hide (OwnG.more (g := ⟨k, ⟨#[]⟩, []⟩) (v := .slice none 0 0) XH.out XX.out.1 U5.out T4.out L3.out hown'), hide (.inr ⟨cn, ST.out, by simp⟩)⟩
            · subst h31
              have hj2 : j2 = jj := hj2
              subst hj2
              have C3 := hide (G2.out.trans g3)
              have O3 := hide (O2.out.upd g3.upd (by decide) (by decide))
              have HR := hide hr
              clear g3 kp hr
              go_upto_region 9 with (fail)
              refine abs_wp (fun W => Hid (Ge wo W (w.heap.size + 1) s j2 0) ∧ Hid (OwnG wo.heap.size W (.slice A na.length Cn) na)) ⟨hide (C3.out.later ?_), hide (O3.out.later ?_)⟩ ?_
              · go_grown
              · go_grown
              rintro W4 ⟨G4, O4⟩
              have C4 := hide (C.out.go G4.out)
              clear C3 O3 C2 O2
              by_cases z : na = []
              · have z1 : (((na.length : Nat) : Int) == 0) = true := by rw [z]; rfl
                have z2 : na.length = 0 := by rw [z]; rfl
                have F : Hid (E = (j2, .error 31)) := by
                  have n : N = (j2, .error 31) := by
                    rw [← AL.out.2]
                    by_cases q : j2 < s.size ∧ nx s j2 ≠ 46
                    · exact node_bad AL.out.1 q.1 q.2 HR.out
                    · rw [node_stop AL.out.1 jjl (fun l => Decidable.byContradiction fun y => q ⟨l, y⟩), if_pos z]
                  have := hf.out.2; rw [pat_bad hf.out.1 jle (HN.out.trans n)] at this; exact this.symm
                have kf := fail_spec C4.out.rd 31
                clear z
                go_wp2_with fail
                refine Calls.mono kf ?_
                rintro e W5 ⟨rfl, g5⟩
                have C5 := hide (C4.out.go g5)
                have c1 := C5.out.rd.c1
                have c2 := C5.out.rd.c2
                obtain ⟨z0, zf, zl⟩ := C5.out.res.cells
                clear g5 kf C4 O4
                go_wp2_with fail
                go_region
                all_goals
                  go_wp2_with fail
                  refine bodyPost_ret (by simp [results, Tryd.results16, go_sem, z0]; try rfl) rfl ?_
                  rw [F.out]
                  exact ⟨C5.out.below.drew.setCell (by simp) _, rfl⟩
              · obtain ⟨PA, PC, hv, _, _⟩ : ∃ A C, v = .slice A acc.length C ∧ acc.length ≤ C ∧ (A = none → acc.length = 0 ∧ C = 0) := by obtain ⟨xs, h1, _⟩ := C4.out.own.own; exact own_form h1
                subst hv
                have z2 : na.length ≠ 0 := fun e => z (List.length_eq_zero_iff.1 e)
                have z1 : (((na.length : Nat) : Int) == 0) = false := by rw [beq_eq_false_iff_ne]; omega
                have ND : Hid (TyG w.heap.size W4 A na ∧ na.length ≤ Cn) := by
                  obtain ⟨a, c, e, ty, lc⟩ := O4.out.done
                  injection e with e1 _ e3
                  subst e1 e3
                  exact ⟨ty.less szw, lc⟩
                have TY := hide ND.out.1
                have LC := hide ND.out.2
                obtain ⟨xs, X4, XG⟩ := C4.out.own.own
                have XX := hide X4
                have XH := hide XG
                obtain ⟨i0, hi0, hz0, hz1, hz2⟩ := info_parts info_node
                have HI2 : Hid (Tryd.prog.info? 31 = some i0 ∧ i0.zero = some (.slice none 0 0) ∧ i0.size = 1 ∧ i0.bytes = 24) := ⟨hi0, hz0, hz1, hz2⟩
                have c2 := C4.out.rd.c2
                obtain ⟨p0, pf, bse⟩ := C4.out.p.cells
                have c1 := C4.out.rd.c1
                clear hi0 hz0 hz1 hz2 X4 XG ND
                go_upto_region 12 with (fail)
                by_cases je : j2 = s.size
                · have F : Hid (E = (0, .ok (acc ++ [na]))) := by
                    have n : N = (s.size, .ok na) := by rw [← AL.out.2, node_stop AL.out.1 jjl (fun l => by omega), if_neg z, je]
                    have := hf.out.2; rw [pat_end hf.out.1 jle (HN.out.trans n)] at this; exact this.symm
                  have je1 : ((j2 : Int) == (s.size : Int)) = true := by rw [beq_iff_eq]; omega
                  have je2 : (j2 == s.size) = true := by rw [beq_iff_eq]; omega
                  clear z
                  go_wp2_with (
                    at_builtin
                    refine wpList_append_own _ rfl _ _ 25 rfl w.heap.size 31 i0 _ 1 24 Tryd.underlying25 HI2.out.1 HI2.out.2.1 HI2.out.2.2.1 HI2.out.2.2.2 ?a1 ?a2 (.slice PA acc.length PC) acc.length xs ?a3 ?a4 ⟨W4.heap.size, 0, none⟩ 1 1 [.slice A na.length Cn] ?a5 ?a6 ?a7 ?a8 ?a9 ?b1 ?b2 ?_
                    case a1 => rfl
                    case a2 => decide
                    case a3 => rfl
                    case a4 => exact XX.out.alloc _
                    case a5 => rfl
                    case a6 => rfl
                    case a7 => exact cells_new _ _ _ _ rfl
                    case a8 => (intro u hu; rw [List.mem_singleton] at hu; subst hu; rfl)
                    case a9 => (unfold maxLen; omega)
                    case b1 => omega
                    case b2 => (simp; omega)
                    intro v5 w5 hown5 hgrow5 hnil5
                    obtain ⟨A5, C5, rfl, _, _⟩ := own_form hown5
                    obtain ⟨P5, K5⟩ := C4.out.app TY.out LC.out XX.out XH.out _ hown5 hgrow5
                    obtain ⟨q0, qf, ql⟩ := P5.cells
                    have K6 := hide K5
                    have rl := K5.rd.lt
                    have rl2 : w.heap.size + 1 < w5.heap.size := by simpa using rl
                    have k0 := K5.rd.c0
                    have k1 := K5.rd.c1
                    have k2 := K5.rd.f1
                    have kb := K5.rd.c2
                    have kf := fail_spec K5.rd
                    obtain ⟨k3, k4, k5⟩ := K5.p.cells
                    obtain ⟨k6, k7, k8⟩ := K5.res.cells
                    clear hown5 hgrow5 hnil5 K5 P5 c1 c2 p0 pf)
                  refine bodyPost_ret (by simp [results, Tryd.results16, go_sem, k6, k7, k8]; try rfl) rfl ?_
                  rw [F.out]
                  obtain ⟨a9, c9, e9, t9, l9⟩ := K6.out.own.done
                  have hl9 : (acc ++ [na]).length = acc.length + 1 := by simp
                  rw [hl9] at e9
                  injection e9 with e1 _ e3
                  subst e1 e3
                  refine ⟨K6.out.below.setCell (by simp) _, _, _, by rw [hl9]; rfl, ?_, l9⟩
                  exact t9.upd ((Upd.refl w.heap.size [27] _).set K6.out.res (by simp) (by simp) _) (by decide) (by decide) (by decide)
                · have jlt : j2 < s.size := by omega
                  have je1 : ((j2 : Int) == (s.size : Int)) = false := by rw [beq_eq_false_iff_ne]; omega
                  have je2 : (j2 == s.size) = false := by rw [beq_eq_false_iff_ne]; omega
                  have e0 : (nx s j2).toNat = s[j2].toNat := by rw [nx_lt jlt]
                  obtain ⟨x, hx⟩ : ∃ x, s[j2].toNat = x := ⟨_, rfl⟩
                  rw [hx] at e0
                  have jp : j < j2 := by have : 0 < na.length := by omega
                                         omega
                  by_cases y : x = 46
                  · have m : nx s j2 = 46 := UInt8.toNat_inj.1 (by rw [e0, y]; rfl)
                    have n : N = (j2, .ok na) := by rw [← AL.out.2, node_stop AL.out.1 jjl (fun l => m), if_neg z]
                    have y1 : ((x : Int) != 46) = false := by rw [y]; rfl
                    have y2 : (x != 46) = false := by rw [y]; rfl
                    by_cases q : acc.length + 1 = 16
                    · have F : Hid (E = (j2, .error 3)) := by
                        have := hf.out.2; rw [pat_many hf.out.1 jle (HN.out.trans n) jlt q] at this; exact this.symm
                      have q1 : (((acc.length : Nat) : Int) + 1 == 16) = true := by rw [beq_iff_eq]; omega
                      have QQ := hide q
                      subst y
                      clear z e0 m n q
                      go_wp2_with (
                        at_builtin
                        refine wpList_append_own _ rfl _ _ 25 rfl w.heap.size 31 i0 _ 1 24 Tryd.underlying25 HI2.out.1 HI2.out.2.1 HI2.out.2.2.1 HI2.out.2.2.2 ?a1 ?a2 (.slice PA acc.length PC) acc.length xs ?a3 ?a4 ⟨W4.heap.size, 0, none⟩ 1 1 [.slice A na.length Cn] ?a5 ?a6 ?a7 ?a8 ?a9 ?b1 ?b2 ?_
                        case a1 => rfl
                        case a2 => decide
                        case a3 => rfl
                        case a4 => exact XX.out.alloc _
                        case a5 => rfl
                        case a6 => rfl
                        case a7 => exact cells_new _ _ _ _ rfl
                        case a8 => (intro u hu; rw [List.mem_singleton] at hu; subst hu; rfl)
                        case a9 => (unfold maxLen; omega)
                        case b1 => omega
                        case b2 => (simp; omega)
                        intro v5 w5 hown5 hgrow5 hnil5
                        obtain ⟨A5, C5, rfl, _, _⟩ := own_form hown5
                        obtain ⟨P5, K5⟩ := C4.out.app TY.out LC.out XX.out XH.out _ hown5 hgrow5
                        obtain ⟨q0, qf, ql⟩ := P5.cells
                        have K6 := hide K5
                        have rl := K5.rd.lt
                        have rl2 : w.heap.size + 1 < w5.heap.size := by simpa using rl
                        have k0 := K5.rd.c0
                        have k1 := K5.rd.c1
                        have k2 := K5.rd.f1
                        have kb := K5.rd.c2
                        have kf := fail_spec K5.rd
                        obtain ⟨k3, k4, k5⟩ := K5.p.cells
                        obtain ⟨k6, k7, k8⟩ := K5.res.cells
                        clear hown5 hgrow5 hnil5 K5 P5 c1 c2 p0 pf)
                      refine Calls.mono (kf 3) ?_
                      rintro e W6 ⟨rfl, g6⟩
                      have C6 := hide (K6.out.go g6)
                      clear g6 kf
                      go_wp2_with fail
                      go_roundg 0
                      case measure => omega
                      case rel => exact ⟨j2, 0, acc ++ [na], _, 3, fun q => by omega, by simp; omega, fun q => by omega, C6, hide (.inr ⟨by decide, F.out⟩)⟩
                    · obtain ⟨f', hf', hst⟩ := pat_step hf.out.1 jle (HN.out.trans n) jlt q
                      have D2 : Hid (patA s f' (j2 + 1) (acc ++ [na]) = E) := by have := hf.out.2; rw [hst] at this; exact this
                      have q1 : (((acc.length : Nat) : Int) + 1 == 16) = false := by rw [beq_eq_false_iff_ne]; omega
                      have q2 : (acc.length + 1 == 16) = false := by rw [beq_eq_false_iff_ne]; omega
                      subst y
                      clear z e0 m n hst
                      go_wp2_with (
                        at_builtin
                        refine wpList_append_own _ rfl _ _ 25 rfl w.heap.size 31 i0 _ 1 24 Tryd.underlying25 HI2.out.1 HI2.out.2.1 HI2.out.2.2.1 HI2.out.2.2.2 ?a1 ?a2 (.slice PA acc.length PC) acc.length xs ?a3 ?a4 ⟨W4.heap.size, 0, none⟩ 1 1 [.slice A na.length Cn] ?a5 ?a6 ?a7 ?a8 ?a9 ?b1 ?b2 ?_
                        case a1 => rfl
                        case a2 => decide
                        case a3 => rfl
                        case a4 => exact XX.out.alloc _
                        case a5 => rfl
                        case a6 => rfl
                        case a7 => exact cells_new _ _ _ _ rfl
                        case a8 => (intro u hu; rw [List.mem_singleton] at hu; subst hu; rfl)
                        case a9 => (unfold maxLen; omega)
                        case b1 => omega
                        case b2 => (simp; omega)
                        intro v5 w5 hown5 hgrow5 hnil5
                        obtain ⟨A5, C5, rfl, _, _⟩ := own_form hown5
                        obtain ⟨P5, K5⟩ := C4.out.app TY.out LC.out XX.out XH.out _ hown5 hgrow5
                        obtain ⟨q0, qf, ql⟩ := P5.cells
                        have K6 := hide K5
                        have rl := K5.rd.lt
                        have rl2 : w.heap.size + 1 < w5.heap.size := by simpa using rl
                        have k0 := K5.rd.c0
                        have k1 := K5.rd.c1
                        have k2 := K5.rd.f1
                        have kb := K5.rd.c2
                        have kf := fail_spec K5.rd
                        obtain ⟨k3, k4, k5⟩ := K5.p.cells
                        obtain ⟨k6, k7, k8⟩ := K5.res.cells
                        clear hown5 hgrow5 hnil5 K5 P5 c1 c2 p0 pf)
                      go_roundg (s.size - (j2 + 1))
                      case measure => omega
                      case rel => exact ⟨j2 + 1, f', acc ++ [na], _, 0, fun _ => by omega, by simp; omega, fun _ => by simp; omega, hide (K6.out.go ((Ge.refl K6.out.rd).put (j2 + 1) jlt (by omega))), hide (.inl ⟨rfl, hf', D2.out⟩)⟩
                  · have m : nx s j2 ≠ 46 := fun q => y (by rw [← e0, q]; rfl)
                    have n : N = (j2, .error 31) := by rw [← AL.out.2]; exact node_bad AL.out.1 jlt m HR.out
                    have F : Hid (E = (j2, .error 31)) := by
                      have := hf.out.2; rw [pat_bad hf.out.1 jle (HN.out.trans n)] at this; exact this.symm
                    have y1 : ((x : Int) != 46) = true := by rw [bne_iff_ne]; omega
                    have y2 : (x != 46) = true := by rw [bne_iff_ne]; exact y
                    clear z e0 m n
                    go_wp2_with (
                      at_builtin
                      refine wpList_append_own _ rfl _ _ 25 rfl w.heap.size 31 i0 _ 1 24 Tryd.underlying25 HI2.out.1 HI2.out.2.1 HI2.out.2.2.1 HI2.out.2.2.2 ?a1 ?a2 (.slice PA acc.length PC) acc.length xs ?a3 ?a4 ⟨W4.heap.size, 0, none⟩ 1 1 [.slice A na.length Cn] ?a5 ?a6 ?a7 ?a8 ?a9 ?b1 ?b2 ?_
                      case a1 => rfl
                      case a2 => decide
                      case a3 => rfl
                      case a4 => exact XX.out.alloc _
                      case a5 => rfl
                      case a6 => rfl
                      case a7 => exact cells_new _ _ _ _ rfl
                      case a8 => (intro u hu; rw [List.mem_singleton] at hu; subst hu; rfl)
                      case a9 => (unfold maxLen; omega)
                      case b1 => omega
                      case b2 => (simp; omega)
                      intro v5 w5 hown5 hgrow5 hnil5
                      obtain ⟨A5, C5, rfl, _, _⟩ := own_form hown5
                      obtain ⟨P5, K5⟩ := C4.out.app TY.out LC.out XX.out XH.out _ hown5 hgrow5
                      obtain ⟨q0, qf, ql⟩ := P5.cells
                      have K6 := hide K5
                      have rl := K5.rd.lt
                      have rl2 : w.heap.size + 1 < w5.heap.size := by simpa using rl
                      have k0 := K5.rd.c0
                      have k1 := K5.rd.c1
                      have k2 := K5.rd.f1
                      have kb := K5.rd.c2
                      have kf := fail_spec K5.rd
                      obtain ⟨k3, k4, k5⟩ := K5.p.cells
                      obtain ⟨k6, k7, k8⟩ := K5.res.cells
                      clear hown5 hgrow5 hnil5 K5 P5 c1 c2 p0 pf)
                    refine Calls.mono (kf 31) ?_
                    rintro e W6 ⟨rfl, g6⟩
                    have C6 := hide (K6.out.go g6)
                    clear g6 kf
                    go_wp2_with fail
                    go_roundg 0
                    case measure => omega
                    case rel => exact ⟨j2, 0, acc ++ [na], _, 31, fun q => by omega, by simp; omega, fun q => by omega, C6, hide (.inr ⟨by decide, F.out⟩)⟩
        · have FN : Hid (N = (jj, .error dd) ∧ na ≠ []) := (D2.out.resolve_left (fun q => dd0 q.1)).2
          have z2 : na.length ≠ 0 := fun e => FN.out.2 (List.length_eq_zero_iff.1 e)
          have z1 : (((na.length : Nat) : Int) == 0) = false := by rw [beq_eq_false_iff_ne]; omega
          have db : (dd == 0) = false := by rw [beq_eq_false_iff_ne]; exact dd0
          have F : Hid (E = (jj, .error dd)) := by have := hf.out.2; rw [pat_bad hf.out.1 jle (HN.out.trans FN.out.1)] at this; exact this.symm
          have c1 := C2.out.rd.c1
          obtain ⟨z0, zf, zl⟩ := C2.out.res.cells
          clear D2
          go_wp2_with fail
          go_region
          all_goals
            go_wp2_with fail
            refine bodyPost_ret (by simp [results, Tryd.results16, go_sem, z0]; try rfl) rfl ?_
            rw [F.out]
            exact ⟨C2.out.below.drew.setCell (by simp) _, rfl⟩
    · have F : Hid (E = (j, .error d)) := (D.out.resolve_left (fun q => d0 q.1)).2
      have db : (d == 0) = false := by rw [beq_eq_false_iff_ne]; exact d0
      have c1 := C.out.rd.c1
      obtain ⟨z0, zf, zl⟩ := C.out.res.cells
      go_wp2_with fail
      go_region
      all_goals
        go_wp2_with fail
        refine bodyPost_ret (by simp [results, Tryd.results16, go_sem, z0]; try rfl) rfl ?_
        rw [F.out]
        exact ⟨C.out.below.drew.setCell (by simp) _, rfl⟩
end Go.Proofs.YtagahoelojfhcaaDoor
