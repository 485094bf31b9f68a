/- Flush: what it answers is the caller's own. (gen_pown.py) -/
import Derived.Test.YthaphijkfedihaaPadd
namespace Go.Proofs.Ythaphijkfedihaa
set_option linter.unusedVariables false
set_option linter.unusedSimpArgs false
open Go.RowKit W
def FlOwn (B g : Nat) (size : Int) (l : List UInt8) (w : World) (e : Ending) (w' : World) : Prop :=
  ∃ a c, e = .returned (.slice a l.length c) ∧ w'.ownsRow w.heap.size 5 1 (.slice a l.length c) l.length (rowB l) ∧ (∃ v2, PkV B w' g size v2 [] ∧ ∀ k, (Value.slice a l.length c).ownBlock = some k → v2.ownBlock ≠ some k) ∧ Upd B TP w w'
set_option maxRecDepth 100000 in
set_option maxHeartbeats 4000000 in
theorem flush_own (B : Nat) (g : Nat) (size : Int) (l : List UInt8) (w : World) (h : Pk B w g size l) (hl : l.length ≤ 140737488355328) : Calls Try.prog 11 #[.pointer (some ⟨g, 0, none⟩)] w (FlOwn B g size l w) := by
  obtain ⟨v, h⟩ := h
  have k := pmade B g size v l w h
  obtain ⟨A, c, rfl, hc, hn⟩ := own_form h.own
  have c2 := h.c2
  have f2 := h.fr 2
  by_cases z : l.length = 0
  · have F : Hid (FlOwn B g size l w (.returned (.slice none 0 0)) w) := by
      obtain rfl := List.eq_nil_of_length_eq_zero z
      exact ⟨none, 0, rfl, ⟨rfl, .inl ⟨rfl, rfl⟩⟩, ⟨_, h, fun k e => by cases e⟩, Upd.refl _ _ _⟩
    rw [z] at c2
    clear h z
    go_enter Try.func11, Try.ntmps11
    go_wp2_with (go_at_call 27; refine k.mono ?_; rintro e w1 ⟨rfl, rfl⟩)
    go_returns
    exact F.out
  · have hz : 0 < l.length := by omega
    have PK := hide h
    obtain ⟨n, hnn⟩ : ∃ n, n = l.length := ⟨_, rfl⟩
    have NN := hide hnn
    rw [← hnn] at c2 hl hz hc hn
    have zb : ((n : Int) == 0) = false := by rw [beq_eq_false_iff_ne]; omega
    clear h z hnn
    obtain ⟨i0, hi0, hz0, hz1, hz2⟩ := info_parts info_u8
    have mk : ∀ w, (Instr.makeSlice 35 (.int .i64 (n : Int)) (.int .i64 (n : Int))).run Try.prog w = .ok (.slice (some ⟨w.heap.size, 0, none⟩) n n) (w.alloc (.cells (madeCells (Value.cells (.int .u8 0)) n) 5)) := by
      intro w
      have := run_make (P := Try.prog) w 35 5 i0 (.int .u8 0) Try.underlying35 hi0 hz0 .i64 .i64 n n (by omega) (Int.le_refl _) (by rw [hz2]; omega) (by omega)
      rw [hz1] at this
      simpa using this
    have zs : (madeCells (Value.cells (.int .u8 0)) n).size = n := size_madeCells _ _
    obtain ⟨Z, hZ⟩ : ∃ Z, Z = madeCells (Value.cells (.int .u8 0)) n := ⟨_, rfl⟩
    rw [← hZ] at mk zs
    clear hi0 hz0 hz1 hz2 hZ
    have cells := fun g' (e : A = some ⟨g', 0, none⟩) => PK.out.own.cells (g := g') (by rw [e]; rfl)
    obtain ⟨g', hA⟩ : ∃ g', A = some ⟨g', 0, none⟩ := by
      rcases PK.out.own.2 with ⟨e, _⟩ | ⟨g', cap, cur, e, _⟩
      · injection e with e; exact absurd (hn e).1 (by omega)
      · injection e with e; exact ⟨g', e⟩
    subst hA
    replace cells := cells g' rfl
    have NE : Hid (g' ≠ w.heap.size) := by
      have := (PK.out.own.lt g' rfl).2
      show _ ≠ _; omega
    have LT := PK.out.lt
    go_enter Try.func11, Try.ntmps11
    go_wp2_with fail
    refine k.mono ?_
    rintro e w1 ⟨rfl, rfl⟩
    have N0 := heap_alloc_new w (.cells Z 5)
    go_wp2_with (
      with_reducible refine wpList_copy_own (o := ⟨some 26, _, _, _, _, _⟩) rfl _ _ _ _ rfl 5 Try.underlying35 (by kernel_rfl) w.heap.size 0 n n ⟨g', 0, none⟩ n c rfl rfl Z 5 N0 (rowB l) ?a1 ?a2 ?a3 (rowB_one l) ?_
      case a1 => rw [rowB_len, ← NN.out]; exact (Nat.min_self n).symm
      case a2 => intro j v hv; rw [World.cell?_alloc_lt w _ _ (by rw [Go.WideShapes.add_plain]; exact (PK.out.own.lt g' rfl).2)]; exact cells j v hv
      case a3 => rw [rowB_len, ← NN.out, zs]; omega
      refine abs_list (fun W => Below w.heap.size w W ∧ W.heap[w.heap.size]? = some (.cells (rowB l).toArray 5 (0, 0)) ∧ w.heap.size < W.heap.size) ⟨below_setRow (by go_grown) (Nat.le_refl _) _, ?b1, by simp [World.setRow]⟩ ?_
      case b1 =>
        rw [setRow_heap _ _ Z _ _ _ N0]
        congr 2
        rw [rowB_len, ← NN.out, List.drop_eq_nil_of_le (by rw [Array.length_toList, zs]; omega)]
        simp
      intro W hW
      obtain ⟨bW, nW, sW⟩ := hW
      have PW := PK.out.upd (Upd.of_below (B := B) (T := []) bW) (by simp) (by simp)
      have d2 := PW.c2
      rw [← NN.out] at d2
      have e2 := PW.fr 2
      have sl : ∀ v, (Instr.slice 35 (.slice (some ⟨g', 0, none⟩) n c) none (some (.int .i64 0)) none).run Try.prog v = .ok (.slice (some ⟨g', 0, none⟩) 0 c) v := by
        intro v
        have := run_slice_h (P := Try.prog) (w := v) 35 (some ⟨g', 0, none⟩) n c (by kernel_rfl) .i64 0 (by omega) (by omega)
        rw [size_b] at this
        simpa [Result.andThen, sliced, add0] using this
      have o2 : W.ownsRow B 5 1 (.slice (some ⟨g', 0, none⟩) 0 c) ([] : List UInt8).length (rowB []) := by
        rcases PW.own.2 with ⟨e, _⟩ | ⟨h, cap, cur, e, hb, hh, hn, hm, hs, _⟩
        · cases e
        · injection e with e1 e2' e3
          injection e1 with e1
          injection e1 with e1
          subst e1 e3
          exact ⟨rfl, .inr ⟨_, _, cur, rfl, hb, hh, Nat.zero_le _, hm, hs, by simp [rowB]⟩⟩
      have ST := hide (PW.store (Upd.refl _ _ _) o2)
      have F : Hid (FlOwn B g size l w (.returned (.slice (some ⟨w.heap.size, 0, none⟩) n n)) (W.setCell ⟨g, 2, none⟩ (.slice (some ⟨g', 0, none⟩) 0 c))) := by
        have lt := PK.out.lt
        have h1 := (PK.out.own.lt g' rfl).2
        refine ⟨some ⟨w.heap.size, 0, none⟩, n, by rw [NN.out], ?_, ⟨_, ST.out.1, fun k e => ?_⟩, (Upd.of_below bW).trans ST.out.2⟩
        · refine ⟨by rw [rowB_len, Nat.mul_one], .inr ⟨w.heap.size, n, (rowB l).toArray, by rw [NN.out], Nat.le_refl _, ?_, by rw [NN.out]; exact Nat.le_refl _, by unfold maxLen; omega, by rw [List.size_toArray, rowB_len, Nat.mul_one, NN.out], by rw [List.toList_toArray, Nat.mul_one, List.take_of_length_le (by rw [rowB_len]; exact Nat.le_refl _)]⟩⟩
          rw [Below.heap_setCell W ⟨g, 2, none⟩ _ w.heap.size (by show w.heap.size ≠ g; omega)]
          exact nW
        · have e : some w.heap.size = some k := e
          injection e with e
          show some g' ≠ some k
          simp only [ne_eq, Option.some.injEq]
          omega
      clear bW nW sW PW o2 ST mk zs N0 cells NE)
    go_returns
    exact F.out
end Go.Proofs.Ythaphijkfedihaa
