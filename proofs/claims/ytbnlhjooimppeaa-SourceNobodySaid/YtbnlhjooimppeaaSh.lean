/- source: tables that nobody made; SourceNobody. -/
import Derived.Test.YtbnlhjooimppeaaSg
namespace Go.Proofs.Ytbnlhjooimppeaa
set_option linter.unusedVariables false
set_option linter.unusedSimpArgs false
open Go.RowKit W Go.Maps
theorem abs_callsS {P : Program} {f : Nat} {args : Array Value} {Q : Ending → World → Prop} {w : World} (F : World → Prop) (hF : F w) (h : ∀ W, F W → Calls P f args W Q) : Calls P f args w Q := h w hF
/-- No table, or one that New did not make. -/
def UnT (w : World) (v : Value) : Prop := v = .pointer none ∨ ∃ b, v = .pointer (some ⟨b, 0, none⟩) ∧ w.cell? ⟨b, 0, none⟩ = some (.pointer none) ∧ b < w.heap.size
theorem UnT.later {w w' : World} {v : Value} (h : UnT w v) (k : Below w.heap.size w w') : UnT w' v := by
  rcases h with h | ⟨b, h, c, l⟩
  · exact .inl h
  · exact .inr ⟨b, h, (k.cell (p := ⟨b, 0, none⟩) l).trans c, Nat.lt_of_lt_of_le l k.size⟩
set_option maxRecDepth 100000 in
theorem tmade_not {w : World} {v : Value} (h : UnT w v) : CalcN 61 #[v] w (.bool false) := by
  rcases h with rfl | ⟨b, rfl, c0, lt⟩
  · go_enter Try.func61, Try.ntmps61
    go_wp2
    go_returns
    exact ⟨rfl, rfl⟩
  · have q : ∀ w, (binOp .eql 62 (.pointer none) (.pointer (some ⟨b, 0, none⟩))).run Try.prog w = .ok (.bool false) w := fun _ => by kernel_rfl
    go_enter Try.func61, Try.ntmps61
    go_wp2
    go_returns
    exact ⟨rfl, rfl⟩
set_option maxRecDepth 100000 in
theorem thear_not {w : World} {v : Value} (h : UnT w v) (nm : ByteArray) (a n : Int) : CalcN 39 #[v, .string nm, .int .i64 a, .int .i64 n] w (.int .i64 4) := by
  have k := tmade_not h
  clear h
  go_enter Try.func39, Try.ntmps39
  go_wp2_with (go_at_call 61; refine k.mono ?_; rintro e w' ⟨rfl, rfl⟩)
  go_returns
  exact ⟨rfl, rfl⟩
set_option maxRecDepth 100000 in
theorem ttick_not {w : World} {v : Value} (h : UnT w v) (n : Int) : CalcN 38 #[v, .int .i64 n] w (.slice none 0 0) := by
  have k := tmade_not h
  clear h
  go_enter Try.func38, Try.ntmps38
  go_wp2_with (go_at_call 61; refine k.mono ?_; rintro e w' ⟨rfl, rfl⟩)
  go_returns
  exact ⟨rfl, rfl⟩
set_option maxRecDepth 100000 in
theorem tmark_not {w : World} {v : Value} (h : UnT w v) : CalcN 35 #[v] w (.int .i64 0) := by
  have k := tmade_not h
  clear h
  go_enter Try.func35, Try.ntmps35
  go_wp2_with (go_at_call 61; refine k.mono ?_; rintro e w' ⟨rfl, rfl⟩)
  go_returns
  exact ⟨rfl, rfl⟩
set_option maxRecDepth 100000 in
theorem tall_not {w : World} {v : Value} (h : UnT w v) : CalcN 37 #[v] w (.slice none 0 0) := by
  have k := tmade_not h
  clear h
  go_enter Try.func37, Try.ntmps37
  go_wp2_with (go_at_call 61; refine k.mono ?_; rintro e w' ⟨rfl, rfl⟩)
  go_returns
  exact ⟨rfl, rfl⟩
set_option maxRecDepth 100000 in
theorem tget_not {w : World} {v : Value} (h : UnT w v) (nm : ByteArray) : Calls Try.prog 40 #[v, .string nm] w fun e w' => e = .returned (.tuple #[.agg #[.string ByteArray.empty, .int .i64 0, .int .i64 0], .bool false]) ∧ Below w.heap.size w w' := by
  have k := fun W (b : Below w.heap.size w W) => tmade_not (h.later b)
  clear h
  go_enter Try.func40, Try.ntmps40
  go_wp2_with (go_at_call 61; (with_reducible refine Calls.mono (k _ (by go_grown)) ?_); rintro e w' ⟨rfl, rfl⟩)
  go_returns
  exact ⟨rfl, by go_grown⟩
set_option maxRecDepth 100000 in
set_option maxHeartbeats 8000000 in
theorem law_SourceNobody (s : ByteArray) (a n : Int) (hs : s.size ≤ 140737488351232) (W : World) :
    Calls Try.prog 13 #[.string s, .int .i64 a, .int .i64 n] W fun e w' => e = .returned (.bool true) ∧ Below W.heap.size W w' := by
  have kg := fun W v (h : UnT W v) => tget_not h s
  have ka := alive11_spec
  have kh := fun W v (h : UnT W v) => thear_not h s a n
  have kt := fun W v (h : UnT W v) => ttick_not h n
  have km := fun W v (h : UnT W v) => tmark_not h
  have kl := fun W v (h : UnT W v) => tall_not h
  go_enter Try.func13, Try.ntmps13
  go_wp2_with fail
  have U0 : UnT (W.alloc (.cells #[.pointer none, .pointer none] 93)) (.pointer (some ⟨W.heap.size, 0, none⟩)) := .inr ⟨_, rfl, by simp [go_sem], by simp⟩
  refine (kg _ _ (.inl rfl)).mono ?_
  rintro e w1 ⟨rfl, b1⟩
  have z1 := b1.size
  have U1 := U0.later b1
  have B1 : Hid (Below W.heap.size W w1) := hide (((Below.refl _ _).alloc (Nat.le_refl _) _).trans (b1.mono (by simp)))
  clear U0 b1
  go_wp2_with fail
  have zz := B1.out.size
  have U2 := U1.later ((Below.refl w1.heap.size w1).alloc (Nat.le_refl _) (.cells #[.string ByteArray.empty, .int .i64 0, .int .i64 0] 82))
  refine (kg _ _ U2).mono ?_
  rintro e w2 ⟨rfl, b2⟩
  have c0 : w2.cell? ⟨w1.heap.size, 0, none⟩ = some (.string ByteArray.empty) := (b2.cell (p := ⟨w1.heap.size, 0, none⟩) (by simp)).trans (by simp [go_sem])
  have c1 : w2.cell? ⟨w1.heap.size, 1, none⟩ = some (.int .i64 0) := (b2.cell (p := ⟨w1.heap.size, 1, none⟩) (by simp)).trans (by simp [go_sem])
  have c2 : w2.cell? ⟨w1.heap.size, 2, none⟩ = some (.int .i64 0) := (b2.cell (p := ⟨w1.heap.size, 2, none⟩) (by simp)).trans (by simp [go_sem])
  have U3 := U2.later b2
  have B2 : Hid (Below W.heap.size W w2) := hide ((B1.out.alloc zz _).trans (b2.mono (by simp; omega)))
  have l1 : w1.heap.size < w2.heap.size := by have := b2.size; simp at this; omega
  clear U1 U2 b2
  go_wp2_with fail
  refine abs_callsS (fun V => Hid (Below W.heap.size W V) ∧ UnT V (.pointer (some ⟨W.heap.size, 0, none⟩)) ∧ V.cell? ⟨w1.heap.size, 0, none⟩ = some (.string ByteArray.empty) ∧ V.cell? ⟨w1.heap.size, 1, none⟩ = some (.int .i64 0) ∧ V.cell? ⟨w1.heap.size, 2, none⟩ = some (.int .i64 0) ∧ V.cell? ⟨w2.heap.size, 0, none⟩ = some (.string ByteArray.empty) ∧ V.cell? ⟨w2.heap.size, 1, none⟩ = some (.int .i64 0) ∧ V.cell? ⟨w2.heap.size, 2, none⟩ = some (.int .i64 0) ∧ w1.heap.size < V.heap.size ∧ w2.heap.size < V.heap.size) ?_ ?_
  · have zb := B2.out.size
    have bz := (Below.refl w2.heap.size w2).alloc (Nat.le_refl _) (.cells #[.string ByteArray.empty, .int .i64 0, .int .i64 0] 82)
    exact ⟨hide (B2.out.alloc zb _), U3.later bz, (bz.cell (p := ⟨w1.heap.size, 0, none⟩) l1).trans c0, (bz.cell (p := ⟨w1.heap.size, 1, none⟩) l1).trans c1, (bz.cell (p := ⟨w1.heap.size, 2, none⟩) l1).trans c2, by simp [go_sem], by simp [go_sem], by simp [go_sem], by simp; omega, by simp⟩
  rintro V ⟨BV, UV, p0, p1, p2, p3, p4, p5, g1, g2⟩
  refine (ka _).mono ?_
  rintro e w3 ⟨rfl, b3⟩
  have q0 := (b3.cell (p := ⟨w1.heap.size, 0, none⟩) g1).trans p0
  have q1 := (b3.cell (p := ⟨w1.heap.size, 1, none⟩) g1).trans p1
  have q2 := (b3.cell (p := ⟨w1.heap.size, 2, none⟩) g1).trans p2
  have q3 := (b3.cell (p := ⟨w2.heap.size, 0, none⟩) g2).trans p3
  have q4 := (b3.cell (p := ⟨w2.heap.size, 1, none⟩) g2).trans p4
  have q5 := (b3.cell (p := ⟨w2.heap.size, 2, none⟩) g2).trans p5
  have U4 := UV.later b3
  have B3 := hide (BV.out.trans (b3.mono BV.out.size))
  have kh0 := kh w3 _ (.inl rfl)
  have kh1 := kh w3 _ U4
  have kt0 := kt w3 _ (.inl rfl)
  have kt1 := kt w3 _ U4
  have km0 := km w3 _ (.inl rfl)
  have km1 := km w3 _ U4
  have kl0 := kl w3 _ (.inl rfl)
  have kl1 := kl w3 _ U4
  clear kg ka kh kt km kl U3 UV b3 c0 c1 c2 p0 p1 p2 p3 p4 p5
  go_wp2_with (first
    | (go_at_call 39; (first | (with_reducible refine Calls.mono kh0 ?_) | (with_reducible refine Calls.mono kh1 ?_)); rintro e w' ⟨rfl, rfl⟩)
    | (go_at_call 38; (first | (with_reducible refine Calls.mono kt0 ?_) | (with_reducible refine Calls.mono kt1 ?_)); rintro e w' ⟨rfl, rfl⟩)
    | (go_at_call 35; (first | (with_reducible refine Calls.mono km0 ?_) | (with_reducible refine Calls.mono km1 ?_)); rintro e w' ⟨rfl, rfl⟩)
    | (go_at_call 37; (first | (with_reducible refine Calls.mono kl0 ?_) | (with_reducible refine Calls.mono kl1 ?_)); rintro e w' ⟨rfl, rfl⟩))
  go_returns
  exact ⟨rfl, B3.out⟩
end Go.Proofs.Ytbnlhjooimppeaa
