/- wire: packers. -/
import Derived.Test.YthaphijkfedihaaUpd
import Derived.Test.YthaphijkfedihaaSame5
import Derived.Lib.AppendStr
import Derived.Laws.CopyOwn
import Derived.Laws.MakeOwn
import Derived.LaidEqlPtr
namespace Go.Proofs.Ythaphijkfedihaa
set_option linter.unusedVariables false
set_option linter.unusedSimpArgs false
open Go.RowKit W
/-- Bytes as cells. -/
def rowB (l : List UInt8) : List Value := l.map fun x => .int .u8 (x.toNat : Int)
theorem rowB_len (l : List UInt8) : (rowB l).length = l.length := by simp [rowB]
theorem rowB_app (l m : List UInt8) : rowB (l ++ m) = rowB l ++ rowB m := by simp [rowB]
theorem rowB_str (s : ByteArray) : Lib.strCells s = rowB (lst s) := rfl
theorem rowB_one (l : List UInt8) : ∀ u ∈ rowB l, u.oneCell' = true := by
  intro u hu
  obtain ⟨x, _, rfl⟩ := List.mem_map.1 hu
  rfl
abbrev TP : List TypeId := [61, 5]
/-- A packer that NewPacker made: what it holds. -/
structure PkV (B : Nat) (w : World) (g : Nat) (size : Int) (v : Value) (l : List UInt8) : Prop where
  blk : w.heap[g]? = some (.cells #[.pointer (some ⟨g, 0, none⟩), .int .i64 size, v] 61 (0, 0))
  own : w.ownsRow B 5 1 v l.length (rowB l)
  le : B ≤ g
def Pk (B : Nat) (w : World) (g : Nat) (size : Int) (l : List UInt8) : Prop := ∃ v, PkV B w g size v l
theorem PkV.c0 {B g : Nat} {w : World} {size : Int} {v : Value} {l : List UInt8} (h : PkV B w g size v l) : w.cell? ⟨g, 0, none⟩ = some (.pointer (some ⟨g, 0, none⟩)) := by simp [World.cell?, h.blk]
theorem PkV.c1 {B g : Nat} {w : World} {size : Int} {v : Value} {l : List UInt8} (h : PkV B w g size v l) : w.cell? ⟨g, 1, none⟩ = some (.int .i64 size) := by simp [World.cell?, h.blk]
theorem PkV.c2 {B g : Nat} {w : World} {size : Int} {v : Value} {l : List UInt8} (h : PkV B w g size v l) : w.cell? ⟨g, 2, none⟩ = some v := by simp [World.cell?, h.blk]
theorem PkV.fr {B g : Nat} {w : World} {size : Int} {v : Value} {l : List UInt8} (h : PkV B w g size v l) (i : Nat) : w.frozen? ⟨g, i, none⟩ = false := by simp [World.frozen?, h.blk]
theorem PkV.lt {B g : Nat} {w : World} {size : Int} {v : Value} {l : List UInt8} (h : PkV B w g size v l) : g < w.heap.size := blk_lt h.blk
theorem PkV.upd {B g : Nat} {T : List TypeId} {w w' : World} {size : Int} {v : Value} {l : List UInt8} (h : PkV B w g size v l) (u : Upd B T w w') (h1 : 61 ∉ T) (h2 : 5 ∉ T) : PkV B w' g size v l :=
  ⟨u.blk h.blk h1, u.row h.own h2, h.le⟩
theorem own_u8 {w w' : World} {base n k : Nat} {v : Value} {xs : List Value} (h : w.ownsRow base 5 1 v n xs) (f : ∀ k, v.ownBlock = some k → w'.heap[k]? = w.heap[k]?) : w'.ownsRow base 5 1 v n xs := by
  refine ⟨h.1, h.2.imp id ?_⟩
  rintro ⟨g, cap, cur, rfl, hb, hh, r⟩
  exact ⟨g, cap, cur, rfl, hb, (f g rfl).trans hh, r⟩
/-- The held bytes are another row now. -/
theorem PkV.store {B g : Nat} {w w1 : World} {size : Int} {v v' : Value} {l l' : List UInt8} (h : PkV B w g size v l) (u : Upd B [5] w w1) (ho : w1.ownsRow B 5 1 v' l'.length (rowB l')) :
    PkV B (w1.setCell ⟨g, 2, none⟩ v') g size v' l' ∧ Upd B TP w (w1.setCell ⟨g, 2, none⟩ v') := by
  have b1 := u.blk h.blk (by decide)
  have ne : ∀ k, v'.ownBlock = some k → k ≠ g := by
    rintro k hk rfl
    obtain ⟨_, cs, hc⟩ := own_blk ho hk
    rw [b1] at hc
    injection hc with hc
    injection hc with _ hc
    exact absurd hc (by decide)
  refine ⟨⟨?_, ?_, h.le⟩, (u.more (Nat.le_refl _) (by intro t ht; simp at ht; subst ht; simp [TP])).set b1 h.le (by simp [TP]) v'⟩
  · simp [World.setCell, Array.getElem?_modify, b1]
  · exact own_u8 ho (k := 0) (fun k hk => Below.heap_setCell w1 ⟨g, 2, none⟩ v' k (ne k hk))
theorem info_u8 : (Try.prog.info? 5).map (fun i => (i.zero, i.size, i.bytes)) = some (some (.int .u8 0), 1, 1) := by kernel_rfl
theorem info_pk : (Try.prog.info? 61).map (fun i => (i.zero.isSome, i.size, i.bytes)) = some (true, 3, 40) := by kernel_rfl
theorem ptr_same (a : Option Addr) (w : World) : (binOp .eql 23 (.pointer a) (.pointer a)).run Try.prog w = .ok (.bool true) w := by
  cases a with
  | none => kernel_rfl
  | some a =>
    obtain ⟨j, hj, _⟩ := Option.map_eq_some_iff.1 info_pk
    exact run_eql_ptr_same w a Try.underlying23 hj
theorem pmade (B : Nat) (g : Nat) (size : Int) (v : Value) (l : List UInt8) (w : World) (h : PkV B w g size v l) : CalcN 27 #[.pointer (some ⟨g, 0, none⟩)] w (.bool true) := by
  have c := h.c0
  have q := ptr_same (some ⟨g, 0, none⟩)
  go_enter Try.func27, Try.ntmps27
  go_wp2
  go_returns
  exact ⟨rfl, rfl⟩
def NewPk (n : Int) (w : World) (e : Ending) (w' : World) : Prop := ∃ g, e = .returned (.tuple #[.pointer (some ⟨g, 0, none⟩), .int .i64 0]) ∧ Pk w.heap.size w' g n [] ∧ Below w.heap.size w w'
theorem newp_ok (n : Int) (h1 : 1 ≤ n) (h2 : n ≤ 65536) (w : World) : Calls Try.prog 8 #[.int .i64 n] w (NewPk n w) := by
  go_enter Try.func8, Try.ntmps8
  go_wp2
  go_returns
  refine ⟨w.heap.size, rfl, ⟨.slice none 0 0, ⟨?_, ⟨rfl, .inl ⟨rfl, rfl⟩⟩, Nat.le_refl _⟩⟩, by go_grown⟩
  exact heap_alloc_new w _
theorem newp_bad (n : Int) (h : n < 1 ∨ 65536 < n) (w : World) : CalcN 8 #[.int .i64 n] w (.tuple #[.pointer none, .int .i64 50]) := by
  rcases h with h | h
  · go_enter Try.func8, Try.ntmps8
    go_wp2
    go_returns
    exact ⟨rfl, rfl⟩
  · go_enter Try.func8, Try.ntmps8
    go_wp2
    go_returns
    exact ⟨rfl, rfl⟩
theorem held_spec (B : Nat) (g : Nat) (size : Int) (l : List UInt8) (w : World) (h : Pk B w g size l) : CalcN 15 #[.pointer (some ⟨g, 0, none⟩)] w (.int .i64 l.length) := by
  obtain ⟨v, h⟩ := h
  have k := pmade B g size v l w h
  obtain ⟨A, c, rfl, _, _⟩ := own_form h.own
  have c2 := h.c2
  clear h
  go_enter Try.func15, Try.ntmps15
  go_wp2_with (go_at_call 27; refine k.mono ?_; rintro e w1 ⟨rfl, rfl⟩)
  go_returns
  exact ⟨rfl, rfl⟩
/-- Bytes that fill a block. -/
def BytesT (w : World) (a : Option Addr) (l : List UInt8) : Prop := l = [] ∨ ∃ b, a = some ⟨b, 0, none⟩ ∧ w.heap[b]? = some (.cells (rowB l).toArray 5 (0, 0))
theorem BytesT.is {w : World} {a : Option Addr} {l : List UInt8} (h : BytesT w a l) : IsBytes w a l := by
  rcases h with h | ⟨b, rfl, h⟩
  · exact .inl h
  · refine .inr ⟨b, 0, rfl, blk_lt h, fun j hj => ?_⟩
    rw [Nat.zero_add, cell_of_row w b j _ _ (0, 0) h]
    simp [rowB, hj]
theorem BytesT.upd {B : Nat} {T : List TypeId} {w w' : World} {a : Option Addr} {l : List UInt8} (h : BytesT w a l) (u : Upd B T w w') (hT : 5 ∉ T) : BytesT w' a l := by
  rcases h with h | ⟨b, rfl, h⟩
  · exact .inl h
  · exact .inr ⟨b, rfl, u.blk h hT⟩
/-- What is answered of the bytes that were held. -/
def FlPost (B g : Nat) (size : Int) (l : List UInt8) (w : World) (e : Ending) (w' : World) : Prop :=
  ∃ a c, e = .returned (.slice a l.length c) ∧ l.length ≤ c ∧ (a = none → l.length = 0 ∧ c = 0) ∧ BytesT w' a l ∧ (∃ v2, PkV B w' g size v2 [] ∧ ∀ b o, a = some ⟨b, o, none⟩ → v2.ownBlock ≠ some b ∧ b ≠ g) ∧ Upd B TP w w'
set_option maxRecDepth 100000 in
set_option maxHeartbeats 4000000 in
theorem flush_spec (B : Nat) (g : Nat) (size : Int) (l : List UInt8) (w : World) (h : Pk B w g size l) (hl : l.length ≤ 140737488355328) : Calls Try.prog 11 #[.pointer (some ⟨g, 0, none⟩)] w (FlPost B g size l w) := by
  obtain ⟨v, h⟩ := h
  have k := pmade B g size v l w h
  obtain ⟨A, c, rfl, hc, hn⟩ := own_form h.own
  have c2 := h.c2
  have f2 := h.fr 2
  by_cases z : l.length = 0
  · have F : Hid (FlPost B g size l w (.returned (.slice none 0 0)) w) := by
      obtain rfl := List.eq_nil_of_length_eq_zero z
      exact ⟨none, 0, rfl, Nat.le_refl _, fun _ => ⟨rfl, rfl⟩, .inl rfl, ⟨_, h, fun b o e => by cases e⟩, Upd.refl _ _ _⟩
    rw [z] at c2
    clear h z
    go_enter Try.func11, Try.ntmps11
    go_wp2_with (go_at_call 27; refine k.mono ?_; rintro e w1 ⟨rfl, rfl⟩)
    go_returns
    exact F.out
  · have hz : 0 < l.length := by omega
    have PK := hide h
    obtain ⟨n, hnn⟩ : ∃ n, n = l.length := ⟨_, rfl⟩
    have NN := hide hnn
    rw [← hnn] at c2 hl hz hc hn
    have zb : ((n : Int) == 0) = false := by rw [beq_eq_false_iff_ne]; omega
    clear h z hnn
    obtain ⟨i0, hi0, hz0, hz1, hz2⟩ := info_parts info_u8
    have mk : ∀ w, (Instr.makeSlice 35 (.int .i64 (n : Int)) (.int .i64 (n : Int))).run Try.prog w = .ok (.slice (some ⟨w.heap.size, 0, none⟩) n n) (w.alloc (.cells (madeCells (Value.cells (.int .u8 0)) n) 5)) := by
      intro w
      have := run_make (P := Try.prog) w 35 5 i0 (.int .u8 0) Try.underlying35 hi0 hz0 .i64 .i64 n n (by omega) (Int.le_refl _) (by rw [hz2]; omega) (by omega)
      rw [hz1] at this
      simpa using this
    have zs : (madeCells (Value.cells (.int .u8 0)) n).size = n := size_madeCells _ _
    obtain ⟨Z, hZ⟩ : ∃ Z, Z = madeCells (Value.cells (.int .u8 0)) n := ⟨_, rfl⟩
    rw [← hZ] at mk zs
    clear hi0 hz0 hz1 hz2 hZ
    have cells := fun g' (e : A = some ⟨g', 0, none⟩) => PK.out.own.cells (g := g') (by rw [e]; rfl)
    obtain ⟨g', hA⟩ : ∃ g', A = some ⟨g', 0, none⟩ := by
      rcases PK.out.own.2 with ⟨e, _⟩ | ⟨g', cap, cur, e, _⟩
      · injection e with e; exact absurd (hn e).1 (by omega)
      · injection e with e; exact ⟨g', e⟩
    subst hA
    replace cells := cells g' rfl
    have NE : Hid (g' ≠ w.heap.size) := by
      have := (PK.out.own.lt g' rfl).2
      show _ ≠ _; omega
    have LT := PK.out.lt
    go_enter Try.func11, Try.ntmps11
    go_wp2_with fail
    refine k.mono ?_
    rintro e w1 ⟨rfl, rfl⟩
    have N0 := heap_alloc_new w (.cells Z 5)
    go_wp2_with (
      with_reducible refine wpList_copy_own (o := ⟨some 26, _, _, _, _, _⟩) rfl _ _ _ _ rfl 5 Try.underlying35 (by kernel_rfl) w.heap.size 0 n n ⟨g', 0, none⟩ n c rfl rfl Z 5 N0 (rowB l) ?a1 ?a2 ?a3 (rowB_one l) ?_
      case a1 => rw [rowB_len, ← NN.out]; exact (Nat.min_self n).symm
      case a2 => intro j v hv; rw [World.cell?_alloc_lt w _ _ (by rw [Go.WideShapes.add_plain]; exact (PK.out.own.lt g' rfl).2)]; exact cells j v hv
      case a3 => rw [rowB_len, ← NN.out, zs]; omega
      refine abs_list (fun W => Below w.heap.size w W ∧ W.heap[w.heap.size]? = some (.cells (rowB l).toArray 5 (0, 0)) ∧ w.heap.size < W.heap.size) ⟨below_setRow (by go_grown) (Nat.le_refl _) _, ?b1, by simp [World.setRow]⟩ ?_
      case b1 =>
        rw [setRow_heap _ _ Z _ _ _ N0]
        congr 2
        rw [rowB_len, ← NN.out, List.drop_eq_nil_of_le (by rw [Array.length_toList, zs]; omega)]
        simp
      intro W hW
      obtain ⟨bW, nW, sW⟩ := hW
      have PW := PK.out.upd (Upd.of_below (B := B) (T := []) bW) (by simp) (by simp)
      have d2 := PW.c2
      rw [← NN.out] at d2
      have e2 := PW.fr 2
      have sl : ∀ v, (Instr.slice 35 (.slice (some ⟨g', 0, none⟩) n c) none (some (.int .i64 0)) none).run Try.prog v = .ok (.slice (some ⟨g', 0, none⟩) 0 c) v := by
        intro v
        have := run_slice_h (P := Try.prog) (w := v) 35 (some ⟨g', 0, none⟩) n c (by kernel_rfl) .i64 0 (by omega) (by omega)
        rw [size_b] at this
        simpa [Result.andThen, sliced, add0] using this
      have o2 : W.ownsRow B 5 1 (.slice (some ⟨g', 0, none⟩) 0 c) ([] : List UInt8).length (rowB []) := by
        rcases PW.own.2 with ⟨e, _⟩ | ⟨h, cap, cur, e, hb, hh, hn, hm, hs, _⟩
        · cases e
        · injection e with e1 e2' e3
          injection e1 with e1
          injection e1 with e1
          subst e1 e3
          exact ⟨rfl, .inr ⟨_, _, cur, rfl, hb, hh, Nat.zero_le _, hm, hs, by simp [rowB]⟩⟩
      have ST := hide (PW.store (Upd.refl _ _ _) o2)
      have F : Hid (FlPost B g size l w (.returned (.slice (some ⟨w.heap.size, 0, none⟩) n n)) (W.setCell ⟨g, 2, none⟩ (.slice (some ⟨g', 0, none⟩) 0 c))) := by
        refine ⟨some ⟨w.heap.size, 0, none⟩, n, by rw [NN.out], by rw [NN.out]; exact Nat.le_refl _, (fun e => by cases e), ?_, ⟨_, ST.out.1, fun b o e => ?_⟩, (Upd.of_below bW).trans ST.out.2⟩
        rotate_left
        · have h1 := (PK.out.own.lt g' rfl).2
          have h2 := PK.out.lt
          simp only [Option.some.injEq, Addr.mk.injEq] at e
          obtain ⟨rfl, _⟩ := e
          refine ⟨?_, Nat.ne_of_gt h2⟩
          show some g' ≠ some w.heap.size
          simp only [ne_eq, Option.some.injEq]
          omega
        have lt := PK.out.lt
        refine .inr ⟨w.heap.size, rfl, ?_⟩
        rw [Below.heap_setCell W ⟨g, 2, none⟩ _ w.heap.size (by show w.heap.size ≠ g; omega)]
        exact nW
      clear bW nW sW PW o2 ST mk zs N0 cells NE)
    go_returns
    exact F.out
end Go.Proofs.Ythaphijkfedihaa
