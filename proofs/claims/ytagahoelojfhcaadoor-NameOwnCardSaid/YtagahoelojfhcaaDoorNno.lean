/- name: the reader's node. -/
import Derived.Test.YtagahoelojfhcaaDoorNpi
namespace Go.Proofs.YtagahoelojfhcaaDoor
set_option linter.unusedVariables false
set_option linter.unusedSimpArgs false
open Go.RowKit W
def NodeRes (w : World) (rb : Nat) (s : ByteArray) (E : Nat × Except Int (List Gl)) (e : Ending) (w' : World) : Prop :=
  Go1 w w' rb s E.1 ∧ match E.2 with
  | .error c => e = .returned (.tuple #[.slice none 0 0, .int .i64 c])
  | .ok l => ∃ a c, e = .returned (.tuple #[.slice a l.length c, .int .i64 0]) ∧ TyG w.heap.size w' a l ∧ l.length ≤ c ∧ OwnG w.heap.size w' (.slice a l.length c) l ∧ l.length ≤ s.size
theorem cells_new (W : World) (l : List Value) (t : TypeId) (n : Nat) (hn : W.heap.size = n) : ∀ j u, l[j]? = some u → (W.alloc (.cells l.toArray t)).cell? (Addr.add ⟨n, 0, none⟩ j) = some u := by
  intro j u h
  subst hn
  rw [Go.WideShapes.add_plain, Nat.zero_add, cell_of_row _ W.heap.size j l.toArray t (0, 0) (heap_alloc_new _ _)]
  simpa using h
theorem info_glob : (Tryd.prog.info? 34).map (fun i => (i.zero, i.size, i.bytes)) = some (some (.agg #[.int .i64 0, .string ByteArray.empty, .slice none 0 0]), 3, 48) := by kernel_rfl
theorem glob_one (k : Int) (t : ByteArray) (a : Option Addr) (n c : Nat) : ∀ u ∈ [Value.int .i64 k, .string t, .slice a n c], u.oneCell' = true := by
  intro u hu
  simp only [List.mem_cons, List.not_mem_nil, or_false] at hu
  rcases hu with rfl | rfl | rfl <;> rfl
/-- What is known when a piece has been read. -/
structure Pd (w W : World) (rb j b : Nat) (s : ByteArray) (v : Value) (acc : List Gl) (g : Gl) (a : Option Addr) (c : Nat) : Prop where
  go : Go1 w W rb s j
  c0 : W.cell? ⟨b, 0, none⟩ = some (.int .i64 g.k)
  c1 : W.cell? ⟨b, 1, none⟩ = some (.string g.t)
  c2 : W.cell? ⟨b, 2, none⟩ = some (.slice a g.al.length c)
  own : OwnG w.heap.size W v acc
  ty : TyT w.heap.size W a g.al
  le : g.al.length ≤ c
set_option maxRecDepth 100000 in
set_option maxHeartbeats 8000000 in
theorem node_spec {w : World} {rb i : Nat} {s : ByteArray} (h : Rd w rb s i) (hs : s.size ≤ 400) : Calls Tryd.prog 15 #[.pointer (some ⟨rb, 0, none⟩)] w (NodeRes w rb s (nodeA s (s.size + 1) i [])) := by
  obtain ⟨E, hE⟩ : ∃ E, nodeA s (s.size + 1) i [] = E := ⟨_, rfl⟩
  rw [hE]
  have HE := hide hE
  have lr := h.lt
  have le := h.le
  have H := hide h
  clear hE h
  go_enter Tryd.func15, Tryd.ntmps15
  go_wp2_with fail
  go_loopg [4] (s.size - i) (fun k v wr => ∃ (j f : Nat) (acc : List Gl), j + k = s.size ∧ s.size < f + j ∧ acc.length ≤ j ∧ Hid (Go1 w wr rb s j) ∧ Hid (OwnG w.heap.size wr v acc) ∧ Hid (nodeA s f j acc = E))
  case atStart => exact ⟨i, s.size + 1, [], by omega, by omega, by simp, hide (Go1.refl H.out), hide (OwnG.none_ _ _), HE⟩
  case round =>
    obtain ⟨j, f, acc, hj, hf, ha, G, O, D⟩ := hrel
    obtain ⟨A, C, rfl, _, _⟩ : ∃ A C, u4 = .slice A acc.length C ∧ acc.length ≤ C ∧ (A = none → acc.length = 0 ∧ C = 0) := by obtain ⟨xs, h1, _⟩ := O.out.own; exact own_form h1
    have jle := G.out.rd.le
    have c0 := G.out.rd.c0
    have c1 := G.out.rd.c1
    obtain ⟨x, hx⟩ : ∃ x, ((nx s j).toNat : Int) = x := ⟨_, rfl⟩
    have kn := fun n => next_at (G.out.drewN n).rd hs x hx
    have HX := hide hx
    clear hx HE H
    by_cases hlt : j < s.size
    · have hlt' : decide ((j : Int) < (s.size : Int)) = true := by simpa using hlt
      by_cases y : x = 46
      · have m : nx s j = 46 := UInt8.toNat_inj.1 (show (nx s j).toNat = 46 by have := HX.out; omega)
        have F : Hid (E = if acc = [] then (j, .error 31) else (j, .ok acc)) := by have := D.out; rw [node_stop hf jle (fun _ => m)] at this; exact this.symm
        subst y
        clear D m
        go_wp2_with fail
        go_quiet ((go_at_call 21; exact Calls.quiet_of (kn _)))
        have ND := hide O.out.done
        by_cases z : acc = []
        · have z1 : (((acc.length : Nat) : Int) == 0) = true := by rw [z]; rfl
          have z2 : acc.length = 0 := by rw [z]; rfl
          rw [if_pos z] at F
          clear z
          go_wp2_with fail
          go_returns
          exact ⟨by rw [F.out]; exact G.out.drewN _, by rw [F.out]; rfl⟩
        · have z2 : acc.length ≠ 0 := fun e => z (List.length_eq_zero_iff.1 e)
          have z1 : (((acc.length : Nat) : Int) == 0) = false := by rw [beq_eq_false_iff_ne]; omega
          have z3 : 0 < acc.length := by omega
          rw [if_neg z] at F
          clear z z2
          go_wp2_with fail
          go_returns
          obtain ⟨a, c, e, ty, lc⟩ := ND.out
          injection e with e1 _ e3
          subst e1 e3
          exact ⟨by rw [F.out]; exact G.out.drewN _, by rw [F.out]; exact ⟨_, _, rfl, ty.later (below_drewN (Below.refl _ _) _), lc, O.out.later (below_drewN (Below.refl _ _) _), by omega⟩⟩
      · have m : nx s j ≠ 46 := fun q => y (by have := HX.out; rw [q] at this; exact this.symm)
        have y1 : (x == 46) = false := by rw [beq_eq_false_iff_ne]; exact y
        have y2 : (x != 46) = true := by simp [y]
        clear y
        go_wp2_with fail
        go_quiet ((go_at_call 21; exact Calls.quiet_of (kn _)))
        go_wp2_with fail
        refine abs_calls (fun W => Hid (Go1 w W rb s j) ∧ Hid (OwnG w.heap.size W (.slice A acc.length C) acc)) ⟨G.out.drewN _, O.out.later (below_drewN (Below.refl _ _) _)⟩ ?_
        rintro W1 ⟨G1, O1⟩
        clear c0 c1 kn G O
        refine Calls.mono (piece_spec G1.out.rd hlt hs) ?_
        rintro e W2 ⟨g2, he⟩
        obtain ⟨⟨j', r⟩, hr⟩ : ∃ q, pieceA s j = q := ⟨_, rfl⟩
        have G2 : Hid (Go1 w W2 rb s j') := by have := G1.out.trans g2; rw [hr] at this; exact this
        have O2 := hide (O1.out.upd g2.upd (by decide) (by decide))
        rw [hr] at he
        have sz1 := G1.out.upd.size
        clear g2
        cases r with
        | error c =>
          have F : Hid (E = (j', .error c)) := by have := D.out; rw [node_bad hf hlt m hr] at this; exact this.symm
          have cc := piece_err hr
          have cn : (c == 0) = false := by rw [beq_eq_false_iff_ne]; omega
          have cn2 : (c != 0) = true := by simp; omega
          simp only at he
          subst he
          clear D hr m cc
          go_wp2_with fail
          go_returns
          exact ⟨by rw [F.out]; exact G2.out.later ((Below.refl _ _).alloc (Nat.le_refl _) _), by rw [F.out]; rfl⟩
        | ok g =>
          obtain ⟨f', hf', hst⟩ := node_step (acc := acc) hf hlt m hr
          have D2 : Hid (nodeA s f' j' (acc ++ [g]) = E) := by have := D.out; rw [hst] at this; exact this
          have jg := piece_gt hr
          simp only at he
          obtain ⟨a, c, he, ty, lc⟩ := he
          subst he
          have TY := hide (ty.less (C := w.heap.size) sz1)
          have LC := hide lc
          clear D hr m hst ty lc
          go_upto_region 6 with (fail)
          refine abs_wp (fun W => Hid (Pd w W rb j' W2.heap.size s (.slice A acc.length C) acc g a c)) ⟨?_, ?_, ?_, ?_, ?_, ?_, ?_⟩ ?_
          · first | exact ((G2.out.later ((Below.refl _ _).alloc (Nat.le_refl _) _)).set_new lr (by simp; omega) _).set_new lr (by simp; omega) _ |>.set_new lr (by simp; omega) _ | exact G2.out.later ((Below.refl _ _).alloc (Nat.le_refl _) _)
          · simp [go_sem]
          · simp [go_sem]
          · simp [go_sem]
          · exact O2.out.later (by go_grown)
          · exact TY.out.later (by go_grown)
          · exact LC.out
          rintro W4 P4
          obtain ⟨xs, X4, XG⟩ := P4.out.own.own
          have xl : xs.length = acc.length * 3 := X4.1
          have XX := hide X4
          have XH := hide XG
          have p0 := P4.out.c0
          have p1 := P4.out.c1
          have p2 := P4.out.c2
          have sz4 := P4.out.go.upd.size
          have jl4 := P4.out.go.rd.le
          have c3 : acc.length + 1 ≤ maxLen := by unfold maxLen; omega
          obtain ⟨i0, hi0, hz0, hz1, hz2⟩ := info_parts info_glob
          have HI2 : Hid (Tryd.prog.info? 34 = some i0 ∧ i0.zero = some (.agg #[.int .i64 0, .string ByteArray.empty, .slice none 0 0]) ∧ i0.size = 3 ∧ i0.bytes = 48) := ⟨hi0, hz0, hz1, hz2⟩
          clear hi0 hz0 hz1 hz2 X4 XG xl G2 O2 TY LC c3
          go_wp2_with (
            at_builtin
            refine wpList_append_own _ rfl _ _ 31 rfl w.heap.size 34 i0 _ 3 48 Tryd.underlying31 HI2.out.1 HI2.out.2.1 HI2.out.2.2.1 HI2.out.2.2.2 ?a1 ?a2 (.slice A acc.length C) acc.length xs ?a3 ?a4 ⟨W4.heap.size, 0, none⟩ 1 1 [.int .i64 g.k, .string g.t, .slice a g.al.length c] ?a5 ?a6 ?a7 ?a8 ?a9 ?b1 ?b2 ?_
            case a1 => rfl
            case a2 => decide
            case a3 => rfl
            case a4 => exact XX.out.alloc _
            case a5 => rfl
            case a6 => rfl
            case a7 => exact cells_new _ _ _ _ rfl
            case a8 => exact glob_one _ _ _ _ _
            case a9 => (unfold maxLen; omega)
            case b1 => omega
            case b2 => (simp; omega)
            intro v' w5 hown' hgrow hnil)
          go_roundg (s.size - j')
          case measure => omega
          case rel => exact ⟨j', f', acc ++ [g], by omega, hf', by simp; omega, hide ((P4.out.go.later ((Below.refl _ _).alloc (Nat.le_refl _) _)).grown_new lr hgrow (fun k hk => (XX.out.lt k hk).1)), hide (OwnG.more (v := .slice none 0 0) XH.out XX.out.1 (Upd.trans (Upd.of_below ((Below.refl _ _).alloc (Nat.le_refl _) _)) (Upd.of_grown (XX.out.alloc _) hgrow)) P4.out.ty P4.out.le hown'), D2⟩
    · have nlt : decide ((j : Int) < (s.size : Int)) = false := by simpa using hlt
      have F : Hid (E = if acc = [] then (j, .error 31) else (j, .ok acc)) := by have := D.out; rw [node_stop hf jle (fun q => absurd q hlt)] at this; exact this.symm
      clear D kn
      go_wp2_with fail
      go_quiet (fail)
      have ND := hide O.out.done
      by_cases z : acc = []
      · have z1 : (((acc.length : Nat) : Int) == 0) = true := by rw [z]; rfl
        have z2 : acc.length = 0 := by rw [z]; rfl
        rw [if_pos z] at F
        clear z
        go_wp2_with fail
        go_returns
        exact ⟨by rw [F.out]; exact G.out.drewN _, by rw [F.out]; rfl⟩
      · have z2 : acc.length ≠ 0 := fun e => z (List.length_eq_zero_iff.1 e)
        have z1 : (((acc.length : Nat) : Int) == 0) = false := by rw [beq_eq_false_iff_ne]; omega
        have z3 : 0 < acc.length := by omega
        rw [if_neg z] at F
        clear z z2
        go_wp2_with fail
        go_returns
        obtain ⟨a, c, e, ty, lc⟩ := ND.out
        injection e with e1 _ e3
        subst e1 e3
        exact ⟨by rw [F.out]; exact G.out.drewN _, by rw [F.out]; exact ⟨_, _, rfl, ty.later (below_drewN (Below.refl _ _) _), lc, O.out.later (below_drewN (Below.refl _ _) _), by omega⟩⟩
end Go.Proofs.YtagahoelojfhcaaDoor
