/- name: Compile, all that it makes one's own. -/
import Derived.Test.YtagahoelojfhcaaDoorNmo
namespace Go.Proofs.YtagahoelojfhcaaDoor
set_option linter.unusedVariables false
set_option linter.unusedSimpArgs false
open Go.RowKit W
def CompOwn (w : World) (E : Nat × Except Int (List (List Gl))) (e : Ending) (w' : World) : Prop :=
  Below w.heap.size w w' ∧ match E.2 with
  | .error c => e = .returned (.tuple #[.agg #[.slice none 0 0], .int .i64 (E.1 : Int), .int .i64 c])
  | .ok p => ∃ v, e = .returned (.tuple #[.agg #[v], .int .i64 (E.1 : Int), .int .i64 0]) ∧ OwnM w.heap.size w'.heap.size w' v p
/-- Compile under way. -/
structure CstM (w W : World) (j : Nat) (s : ByteArray) (v : Value) (acc : List (List Gl)) : Prop where
  rd : Rd W (w.heap.size + 1) s j
  below : Below w.heap.size w W
  res : BoxP W w.heap.size (.slice none 0 0)
  p : BoxP W (w.heap.size + 2) v
  own : OwnM w.heap.size W.heap.size W v acc
theorem CstM.go {w W W' : World} {i j : Nat} {s : ByteArray} {v : Value} {acc : List (List Gl)} (h : CstM w W i s v acc) (g : Go1 W W' (w.heap.size + 1) s j) : CstM w W' j s v acc :=
  ⟨g.rd, h.below.trans ((g.upd.below (Nat.le_of_lt h.rd.lt)).mono (by omega)), h.res.upd g.upd (by decide), h.p.upd g.upd (by decide), (h.own.upd g.upd (by decide) (by decide) (by decide)).up g.upd.size⟩
theorem CstM.app {w W w5 : World} {C j : Nat} {s : ByteArray} {v v' u : Value} {acc : List (List Gl)} (h : CstM w W j s v acc) {l : List Gl} {xs : List Value} (og : OwnG C W u l) (l4 : l.length ≤ 400) (hC : w.heap.size ≤ C) (hC2 : C ≤ W.heap.size) (XX : W.ownsRow w.heap.size 31 1 v acc.length xs)
    (XH : MCells w.heap.size C W xs acc) (o : Obj) (hown : w5.ownsRow w.heap.size 31 1 v' (acc.length + 1) (xs ++ [u])) (hg : (W.alloc o).grownBy w5 v.ownBlock) :
    BoxP w5 (w.heap.size + 2) v ∧ CstM w (w5.setCell ⟨w.heap.size + 2, 0, none⟩ v') j s v' (acc ++ [l]) := by
  have U : Upd w.heap.size [31] W w5 := Upd.trans (Upd.of_below ((Below.refl _ _).alloc (Nat.le_refl _) o)) (Upd.of_grown (XX.alloc o) hg)
  have P5 := h.p.upd U (by decide)
  have V : Upd w.heap.size [27] w5 (w5.setCell ⟨w.heap.size + 2, 0, none⟩ v') := (Upd.refl _ _ _).set P5 (by omega) (by simp) _
  refine ⟨P5, (h.rd.upd U (by decide)).upd V (by decide), (h.below.trans (U.below h.below.size)).setCell (by simp) _, (h.res.upd U (by decide)).set_other (by simp) _, P5.put, ?_⟩
  exact ((OwnM.more (D := w5.heap.size) XH (by rw [XX.1, Nat.mul_one]) U og hC l4 U.size (Nat.le_trans hC2 U.size) hown).upd V (by decide) (by decide) (by decide)).up (by simp)
theorem CstM.at_ {w W : World} {i : Nat} {s : ByteArray} {v : Value} {acc : List (List Gl)} (h : CstM w W i s v acc) (j : Nat) (hj : j ≤ s.size) {x : Int} (hx : x = (j : Int)) : CstM w (W.setCell ⟨w.heap.size + 1, 1, none⟩ (.int .i64 x)) j s v acc :=
  h.go ((Go1.refl h.rd).put j hj hx)
set_option maxRecDepth 100000 in
set_option maxHeartbeats 8000000 in
theorem comp_own_long {s : ByteArray} (hs : 400 < s.size) (w : World) : Calls Tryd.prog 7 #[.string s] w (CompOwn w (400, .error 2)) := by
  go_enter Tryd.func7, Tryd.ntmps7
  go_wp2_with fail
  refine bodyPost_ret (by simp [results, Tryd.results7, go_sem]; try rfl) rfl ?_
  exact ⟨by go_grown, rfl⟩
set_option maxRecDepth 100000 in
set_option maxHeartbeats 8000000 in
theorem comp_own_short {s : ByteArray} (hs : s.size ≤ 400) (w : World) : Calls Tryd.prog 7 #[.string s] w (CompOwn w (patA s (s.size + 1) 0 [])) := by
  obtain ⟨E, hE⟩ : ∃ E, patA s (s.size + 1) 0 [] = E := ⟨_, rfl⟩
  rw [hE]
  have HE := hide hE
  clear hE
  go_enter Tryd.func7, Tryd.ntmps7
  go_wp2_with fail
  go_loopg [] s.size (fun k wr => ∃ (j f : Nat) (acc : List (List Gl)) (v : Value), j + k = s.size ∧ s.size < f + j ∧ acc.length ≤ 15 ∧ Hid (CstM w wr j s v acc) ∧ Hid (patA s f j acc = E))
  case atStart =>
    refine ⟨0, s.size + 1, [], .slice none 0 0, by omega, by omega, by simp, ⟨⟨?_, by omega⟩, ?_, ?_, ?_, OwnM.none_ _ _ _⟩, HE⟩
    · exact new3b _ _ _ _
    · go_grown
    · exact new3a _ _ _ _
    · exact new3c _ _ _ _
  case round =>
    obtain ⟨j, f, acc, v, hj, hf, ha, C, D⟩ := hrel
    have kn := node_spec C.out.rd hs
    go_wp2_with fail
    refine Calls.mono kn ?_
    rintro e W2 ⟨g2, he⟩
    obtain ⟨⟨j', r⟩, hr⟩ : ∃ q, nodeA s (s.size + 1) j [] = q := ⟨_, rfl⟩
    rw [hr] at g2 he
    have C2 := hide (C.out.go g2)
    have OM := hide (C.out.own.upd g2.upd (by decide) (by decide) (by decide))
    have SZ2 := hide g2.upd.size
    have sz1 := C.out.below.size
    have jle := C.out.rd.le
    have jl2 : j' ≤ s.size := g2.rd.le
    clear g2 kn C
    have c1 := C2.out.rd.c1
    have f1 := C2.out.rd.f1
    obtain ⟨z0, zf, zl⟩ := C2.out.res.cells
    obtain ⟨p0, pf, pl⟩ := C2.out.p.cells
    cases r with
    | error c =>
      have F : Hid (E = (j', .error c)) := by have := D.out; rw [pat_bad hf jle hr] at this; exact this.symm
      have cc := node_err hr
      have cn : (c == 0) = false := by rw [beq_eq_false_iff_ne]; omega
      have cn2 : (c != 0) = true := by simp; omega
      simp only at he
      subst he
      clear D hr cc
      go_wp2_with fail
      go_region
      all_goals
        go_wp2_with fail
        refine bodyPost_ret (by simp [results, Tryd.results7, go_sem, z0]; try rfl) rfl ?_
        rw [F.out]
        exact ⟨C2.out.below.drew.setCell (by simp) _, rfl⟩
    | ok l =>
      simp only at he
      obtain ⟨a, c, he, _, _, og, l4⟩ := he
      subst he
      have TY := hide og
      have LC := hide (Nat.le_trans l4 hs)
      clear og l4
      obtain ⟨A, C, rfl, _, _⟩ : ∃ A C, v = .slice A acc.length C ∧ acc.length ≤ C ∧ (A = none → acc.length = 0 ∧ C = 0) := by obtain ⟨xs, h1, _⟩ := C2.out.own.own; exact own_form h1
      by_cases y : j' < s.size ∧ acc.length + 1 = 16
      · have F : Hid (E = (j', .error 3)) := by have := D.out; rw [pat_many hf jle hr y.1 y.2] at this; exact this.symm
        have e1 : decide ((j' : Int) < (s.size : Int)) = true := by simpa using y.1
        have e2 : (((acc.length : Nat) : Int) + 1 == 16) = true := by rw [beq_iff_eq]; omega
        have y1 := y.1
        clear D hr y
        go_wp2_with fail
        go_region
        all_goals
          go_wp2_with fail
          refine bodyPost_ret (by simp [results, Tryd.results7, go_sem, z0]; try rfl) rfl ?_
          rw [F.out]
          exact ⟨C2.out.below.drew.setCell (by simp) _, rfl⟩
      · have e1 : decide ((j' : Int) < (s.size : Int)) = false ∨ (((acc.length : Nat) : Int) + 1 == 16) = false := by
          by_cases q : j' < s.size
          · right; rw [beq_eq_false_iff_ne]; intro e; exact y ⟨q, by omega⟩
          · left; simpa using q
        have cut : Hid (∀ P : Prop, (decide ((j' : Int) < (s.size : Int)) = false → P) → (decide ((j' : Int) < (s.size : Int)) = true → (((acc.length : Nat) : Int) + 1 == 16) = false → P) → P) := by
          intro P h1 h2
          by_cases q : decide ((j' : Int) < (s.size : Int)) = true
          · exact h2 q (e1.resolve_left (by rw [q]; decide))
          · exact h1 (by simpa using q)
        obtain ⟨xs, X4, XG⟩ := OM.out.own
        have xl : xs.length = acc.length * 1 := X4.1
        have XX := hide X4
        have XH := hide XG
        have c3 : acc.length + 1 ≤ maxLen := by unfold maxLen; omega
        obtain ⟨i0, hi0, hz0, hz1, hz2⟩ := info_parts info_node
        have HI2 : Hid (Tryd.prog.info? 31 = some i0 ∧ i0.zero = some (.slice none 0 0) ∧ i0.size = 1 ∧ i0.bytes = 24) := ⟨hi0, hz0, hz1, hz2⟩
        clear hi0 hz0 hz1 hz2 X4 XG xl c3 e1
        have bse : w.heap.size + 2 < W2.heap.size := pl
        go_upto_region 10 with (fail)
        all_goals
          go_wp2_with (
            at_builtin
            refine wpList_append_own _ rfl _ _ 25 rfl w.heap.size 31 i0 _ 1 24 Tryd.underlying25 HI2.out.1 HI2.out.2.1 HI2.out.2.2.1 HI2.out.2.2.2 ?a1 ?a2 (.slice A acc.length C) acc.length xs ?a3 ?a4 ⟨W2.heap.size, 0, none⟩ 1 1 [.slice a l.length c] ?a5 ?a6 ?a7 ?a8 ?a9 ?b1 ?b2 ?_
            case a1 => rfl
            case a2 => decide
            case a3 => rfl
            case a4 => exact XX.out.alloc _
            case a5 => rfl
            case a6 => rfl
            case a7 => exact cells_new _ _ _ _ rfl
            case a8 => (intro u hu; rw [List.mem_singleton] at hu; subst hu; rfl)
            case a9 => (unfold maxLen; omega)
            case b1 => omega
            case b2 => (simp; omega)
            intro v5 w5 hown5 hgrow5 hnil5
            obtain ⟨A5, C5, rfl, _, _⟩ := own_form hown5
            obtain ⟨P5, K5⟩ := C2.out.app TY.out LC.out sz1 SZ2.out XX.out XH.out _ hown5 hgrow5
            obtain ⟨q0, qf, ql⟩ := P5.cells
            have K6 := hide K5
            have rl := K5.rd.lt
            have rl2 : w.heap.size + 1 < w5.heap.size := by simpa using rl
            have k1 := K5.rd.c1
            have k2 := K5.rd.f1
            have k3 := K5.p.cells
            obtain ⟨k3, k4, k5⟩ := k3
            have k6 := K5.res.cells
            obtain ⟨k6, k7, k8⟩ := k6
            clear hown5 hgrow5 hnil5 K5 P5 c1 f1 z0 zf p0 pf)
        · have jlt : j' < s.size := by omega
          have nm : acc.length + 1 ≠ 16 := by
            refine cut.out _ (fun e => ?_) (fun _ e => ?_)
            · intro _; simp at e; omega
            · rw [beq_eq_false_iff_ne] at e; omega
          obtain ⟨f', hf', hst⟩ := pat_step hf jle hr jlt nm
          have D2 : Hid (patA s f' (j' + 1) (acc ++ [l]) = E) := by have := D.out; rw [hst] at this; exact this
          have jg := node_gt hr
          go_roundg (s.size - (j' + 1))
          case measure => omega
          case rel => exact ⟨j' + 1, f', acc ++ [l], _, by omega, hf', by simp; omega, hide (K6.out.at_ (j' + 1) jlt (by omega)), D2⟩
        · have je : j' = s.size := by omega
          have F : Hid (E = (0, .ok (acc ++ [l]))) := by have := D.out; rw [pat_end hf jle (by rw [hr, je])] at this; exact this.symm
          refine bodyPost_ret (by simp [results, Tryd.results7, go_sem, k6, k7, k8]; try rfl) rfl ?_
          rw [F.out]
          exact ⟨K6.out.below.setCell (by simp) _, _, rfl, (K6.out.own.upd ((Upd.refl w.heap.size [27] _).set K6.out.res (by simp) (by simp) _) (by decide) (by decide) (by decide)).up (by simp)⟩
theorem comp_own_spec (s : ByteArray) (w : World) : Calls Tryd.prog 7 #[.string s] w (CompOwn w (compA s)) := by
  unfold compA
  by_cases h : 400 < s.size
  · rw [if_pos h]; exact comp_own_long h w
  · rw [if_neg h]; exact comp_own_short (by omega) w
end Go.Proofs.YtagahoelojfhcaaDoor
