/- sink: sinks that New did not make. -/
import Derived.Test.YtbahhlgcebgfeaaDoorSnk10
namespace Go.Proofs.YtbahhlgcebgfeaaDoor
set_option linter.unusedVariables false
set_option linter.unusedSimpArgs false
open Go.RowKit W
set_option maxRecDepth 100000 in
set_option maxHeartbeats 4000000 in
theorem made_nil (w : World) : Calls Tryd.prog 21 #[.pointer none] w fun e w' => e = .returned (.bool false) ∧ w' = w := by
  go_enter Tryd.func21, Tryd.ntmps21
  go_wp2_with fail
  go_returns
  exact ⟨rfl, rfl⟩
theorem eq_nilsink (b : Nat) (w : World) : (binOp .eql 24 (.pointer none) (.pointer (some ⟨b, 0, none⟩))).run Tryd.prog w = .ok (.bool false) w := by
  have h : ∀ d : Nat, (Op.equalIn (d + 1) 24 (.pointer none) (.pointer (some ⟨b, 0, none⟩))).run Tryd.prog w = .ok false w := fun d => by
    simp [Op.equalIn, run_underlying Tryd.underlying24]
  simp only [binOp]
  simp [Op.equal, Op.maxDepth, h 9999]
set_option maxRecDepth 100000 in
set_option maxHeartbeats 4000000 in
theorem made_zero {w : World} {g : Nat} (c0 : w.cell? ⟨g, 0, none⟩ = some (.pointer none)) : Calls Tryd.prog 21 #[.pointer (some ⟨g, 0, none⟩)] w fun e w' => e = .returned (.bool false) ∧ w' = w := by
  have e1 := eq_nilsink g
  go_enter Tryd.func21, Tryd.ntmps21
  go_wp2_with fail
  go_returns
  exact ⟨rfl, rfl⟩
theorem unframe {w : World} {p : Value} (K : ∀ W, Below w.heap.size w W → Calls Tryd.prog 21 #[p] W fun e w' => e = .returned (.bool false) ∧ w' = W) (id : Int) (v : Value) :
    Calls Tryd.prog 12 #[p, .int .i64 id, v] w fun e w' => e = .returned (.int .i64 4) ∧ w' = w := by
  go_enter Tryd.func12, Tryd.ntmps12
  go_wp2_with (go_at_call 21; refine Calls.mono (K _ (Below.refl _ _)) ?_; rintro e w1 ⟨rfl, rfl⟩)
  go_returns
  exact ⟨rfl, rfl⟩
theorem unreport {w : World} {p : Value} (K : ∀ W, Below w.heap.size w W → Calls Tryd.prog 21 #[p] W fun e w' => e = .returned (.bool false) ∧ w' = W) :
    Calls Tryd.prog 15 #[p] w fun e w' => e = .returned (.agg #[.slice none 0 0, .slice none 0 0, .slice none 0 0, .int .i64 0]) ∧ Below w.heap.size w w' := by
  go_enter Tryd.func15, Tryd.ntmps15
  go_wp2_with (go_at_call 21; refine Calls.mono (K _ (ba w _)) ?_; rintro e w1 ⟨rfl, rfl⟩)
  go_returns
  exact ⟨rfl, ba w _⟩
/-- A sink that New did not make, and the row of it and of none. -/
structure Nz (w X : World) : Prop where
  z : X.heap[w.heap.size]? = some (.cells #[.pointer none, .slice none 0 0, .slice none 0 0, .bool false, .int .i64 0, .slice none 0 0, .slice none 0 0, .int .i64 0] 45 (0, 0))
  r : X.heap[w.heap.size + 1]? = some (.cells #[.pointer none, .pointer (some ⟨w.heap.size, 0, none⟩)] 24 (0, 0))
  be : Below w.heap.size w X
theorem Nz.next {w X Y : World} (h : Nz w X) (b : Below X.heap.size X Y) : Nz w Y :=
  ⟨(b.block _ (blk_lt h.z)).trans h.z, (b.block _ (blk_lt h.r)).trans h.r, h.be.trans (b.mono h.be.size)⟩
theorem Nz.make (w : World) : Nz w ((w.alloc (.cells #[.pointer none, .slice none 0 0, .slice none 0 0, .bool false, .int .i64 0, .slice none 0 0, .slice none 0 0, .int .i64 0] 45)).alloc (.cells #[.pointer none, .pointer (some ⟨w.heap.size, 0, none⟩)] 24)) := by
  refine ⟨((ba _ _).block _ (by simp)).trans (heap_alloc_new w _), ?_, (ba w _).trans ((ba _ _).mono (by simp))⟩
  have := heap_alloc_new (w.alloc (.cells #[.pointer none, .slice none 0 0, .slice none 0 0, .bool false, .int .i64 0, .slice none 0 0, .slice none 0 0, .int .i64 0] 45)) (.cells #[.pointer none, .pointer (some ⟨w.heap.size, 0, none⟩)] 24)
  simpa using this
theorem Nz.cells {w X : World} (h : Nz w X) : X.cell? ⟨w.heap.size + 1, 0, none⟩ = some (.pointer none) ∧ X.cell? ⟨w.heap.size + 1, 1, none⟩ = some (.pointer (some ⟨w.heap.size, 0, none⟩)) ∧ X.cell? ⟨w.heap.size, 0, none⟩ = some (.pointer none) := by
  refine ⟨?_, ?_, ?_⟩
  · simp [World.cell?, h.r]
  · simp [World.cell?, h.r]
  · simp [World.cell?, h.z]
theorem zero_rep (w : World) : Rep w none none none [] [] [] := ⟨.inl rfl, fun x hx => (by cases hx), .inl rfl, .inl rfl⟩
theorem zero_same (w : World) : Calls Tryd.prog 14 #[.agg #[.slice none 0 0, .slice none 0 0, .slice none 0 0, .int .i64 0], .agg #[.slice none 0 0, .slice none 0 0, .slice none 0 0, .int .i64 0]] w fun e w' => e = .returned (.bool true) ∧ Below w.heap.size w w' :=
  same_same (w := w) (C := []) (C' := []) (wh := []) (lo := []) (c := 0) (cw := 0) (cl := 0) (c' := 0) (cw' := 0) (cl' := 0) 0 (zero_rep w) (zero_rep w) rfl (Nat.zero_le _) (Nat.zero_le _) (Nat.zero_le _)
set_option maxRecDepth 100000 in
set_option maxHeartbeats 4000000 in
theorem sink_nils {w : World} {ea : Addr} (ef : w.cell? ⟨0, 0, none⟩ = some (EV ea)) (id : Int) (v : Value) :
    Calls Tryd.prog 4 #[.int .i64 id, v] w fun e w' => e = .returned (.bool true) ∧ Below w.heap.size w w' := by
  have EF := hide ef
  clear ef
  go_enter Tryd.func4, Tryd.ntmps4
  go_wp2_with fail
  refine abs_wp (fun X => Hid (Nz w X)) (hide (Nz.make w)) ?_
  rintro W0 N0
  obtain ⟨c0, c1, c2⟩ := N0.out.cells
  have KN := fun W => unframe (w := W) (fun W _ => made_nil W) id v
  have KM := fun W => unreport (w := W) (fun W _ => made_nil W)
  have ZF := fun W (h : Nz w W) => unframe (w := W) (p := .pointer (some ⟨w.heap.size, 0, none⟩)) (fun Y b => made_zero (h.next b).cells.2.2) id v
  have ZM := fun W (h : Nz w W) => unreport (w := W) (p := .pointer (some ⟨w.heap.size, 0, none⟩)) (fun Y b => made_zero (h.next b).cells.2.2)
  refine wp_loop_rounds 3 ?_
  rw [rounds_succ]
  go_wp2_with (first
    | (go_at_call 12; refine Calls.mono (KN _) ?_; rintro e w1 ⟨rfl, rfl⟩)
    | (go_at_call 15; refine Calls.mono (KM _) ?_; rintro e w2 ⟨rfl, k2⟩; have N2 := hide (N0.out.next k2); clear k2)
    | (go_at_call 14; refine Calls.mono (zero_same _) ?_; rintro e w3 ⟨rfl, k3⟩; have N3 := hide (N2.out.next k3); obtain ⟨d0, d1, d2⟩ := N3.out.cells; clear k3))
  rw [rounds_succ]
  go_wp2_with (first
    | (go_at_call 12; refine Calls.mono (ZF _ N3.out) ?_; rintro e w4 ⟨rfl, rfl⟩)
    | (go_at_call 15; refine Calls.mono (ZM _ N3.out) ?_; rintro e w5 ⟨rfl, k5⟩; have N5 := hide (N3.out.next k5); clear k5)
    | (go_at_call 14; refine Calls.mono (zero_same _) ?_; rintro e w6 ⟨rfl, k6⟩; have N6 := hide (N5.out.next k6); clear k6))
  rw [rounds_succ]
  go_wp2_with (go_at_call 16; refine Calls.mono (awake_is ((N6.out.be.cell (p := ⟨0, 0, none⟩) (cellb_lt EF.out)).trans EF.out)) ?_; rintro e w7 ⟨rfl, k7⟩; have K7 := hide (N6.out.be.trans (k7.mono N6.out.be.size)))
  go_returns
  exact ⟨rfl, K7.out⟩
end Go.Proofs.YtbahhlgcebgfeaaDoor
