/- alarm: alive; AlarmNobody. -/
import Derived.Test.YtnlefakicjojdaaAlbk
import Derived.Test.YtnlefakicjojdaaAlno
namespace Go.Proofs.Ytnlefakicjojdaa
set_option linter.unusedVariables false
set_option linter.unusedSimpArgs false
open Go.RowKit W Go.Maps
def sA : St := ⟨3, 3, 1, 0, 0, 0, 1, 0⟩
theorem feed25 {w : World} {bb mb b : Nat} (h : BookA w bb mb [(upR, st0, b)]) :
    Calls Try.prog 12 #[.pointer (some ⟨bb, 0, none⟩), .string ⟨#[117, 112]⟩, .int .i64 1, .agg #[.bool true, .int .i64 0, .int .u64 25]] w fun e w' => ∃ g, e = .returned (.tuple #[.slice (some ⟨g, 0, none⟩) 1 1, .int .i64 0]) ∧ Row w' g 0 [.string ⟨#[117, 112]⟩, .int .i64 1, .int .i64 1, .int .i64 3, .bool false, .bool true, .int .i64 0, .int .u64 25] ∧ BookA w' bb mb [(upR, sA, b)] ∧ Mod [b] w w' ∧ w.heap.size ≤ g := by
  have k := feed_any h upR st0 List.mem_cons_self (by decide) 1 0 25 true ⟨⟨by decide, by decide⟩, ⟨by decide, by decide⟩⟩
  have e1 : feE st0 1 = 0 := rfl
  have e2 : feS upR st0 1 true (V 0 25) = sA := rfl
  have e3 : feO upR st0 1 true 0 25 = some [.string ⟨#[117, 112]⟩, .int .i64 1, .int .i64 1, .int .i64 3, .bool false, .bool true, .int .i64 0, .int .u64 25] := rfl
  rw [e1, e2, e3] at k
  refine Calls.mono k ?_
  rintro e w' ⟨v, rfl, ⟨g, rfl, row⟩, fr, bk, m⟩
  rw [updL_one] at bk
  exact ⟨g, rfl, row, bk, m, fr g rfl⟩
theorem feed19 {w : World} {bb mb b : Nat} (h : BookA w bb mb [(upR, sA, b)]) :
    Calls Try.prog 12 #[.pointer (some ⟨bb, 0, none⟩), .string ⟨#[117, 112]⟩, .int .i64 2, .agg #[.bool true, .int .i64 0, .int .u64 19]] w fun e w' => e = .returned (.tuple #[.slice none 0 0, .int .i64 0]) ∧ Mod [b] w w' := by
  have k := feed_any h upR sA List.mem_cons_self (by decide) 2 0 19 true ⟨⟨by decide, by decide⟩, ⟨by decide, by decide⟩⟩
  have e1 : feE sA 2 = 0 := rfl
  have e3 : feO upR sA 2 true 0 19 = none := rfl
  rw [e1, e3] at k
  refine Calls.mono k ?_
  rintro e w' ⟨v, rfl, rfl, fr, bk, m⟩
  exact ⟨rfl, m⟩
theorem stateA {w : World} {bb mb b : Nat} (h : BookA w bb mb [(upR, sA, b)]) : CalcN 17 #[.pointer (some ⟨bb, 0, none⟩), .string ⟨#[117, 112]⟩] w (.tuple #[.int .i64 3, .bool true]) :=
  state_any h upR sA List.mem_cons_self (by decide)
set_option maxRecDepth 100000 in
set_option maxHeartbeats 4000000 in
theorem alive_spec (w : World) : Calls Try.prog 11 #[] w fun e w' => e = .returned (.bool true) ∧ Below w.heap.size w w' := by
  have ku := up_spec
  unfold ruV at ku
  simp only [upR] at ku
  go_enter Try.func11, Try.ntmps11
  go_wp2_with (go_at_call 26; refine (ku _).mono ?_; rintro e w1 ⟨rfl, b1⟩)
  have s1 := b1.size
  have R1 : Row (w1.alloc (.cells (ruL upR).toArray 53)) w1.heap.size 0 (ruL upR) := Row.new w1 _ _ _ rfl
  have B1 := hide (b1.alloc s1 (.cells (ruL upR).toArray 53))
  refine Calls.mono (new_one upR upOk (by decide) upMay _ _ 1 (rules_one R1)) ?_
  rintro e w2 ⟨bb, mb, b, rfl, bk, l1, l2, l3, k2⟩
  have B2 : Hid (Below w.heap.size w w2) := B1.out.trans (k2.mono B1.out.size)
  have BK := hide bk
  have LB : Hid (w.heap.size ≤ b) := by have := B1.out.size; exact Nat.le_trans this l3
  clear B1 R1 bk l1 l2 l3 k2 b1 s1
  go_wp2_with (first | (go_at_call 27; refine (of25 _).mono ?_; rintro e w3 ⟨rfl, b3⟩))
  refine Calls.mono (feed25 (BK.out.later b3)) ?_
  rintro e w4 ⟨g, rfl, row, bk4, m4, lg⟩
  have B3 : Hid (Below w.heap.size w w3) := B2.out.trans (b3.mono B2.out.size)
  have B4 : Hid (Below w.heap.size w w4) := B3.out.trans (m4.below B3.out.size (by have := LB.out; intro x hx; simp at hx; omega))
  have BK4 := hide bk4
  have t2 := row.at0 2 _ rfl
  have t3 := row.at0 3 _ rfl
  have tl := row.lt
  clear bk4 m4 lg b3 BK B2 B3 row
  go_wp2_with (first | (go_at_call 17; refine Calls.mono (stateA BK4.out) ?_; rintro e w' ⟨rfl, rfl⟩) | (go_at_call 27; refine (of19 _).mono ?_; rintro e w5 ⟨rfl, b5⟩))
  refine Calls.mono (feed19 (BK4.out.later b5)) ?_
  rintro e w6 ⟨rfl, m6⟩
  have B5 : Below w.heap.size w w5 := B4.out.trans (b5.mono B4.out.size)
  have B6 : Below w.heap.size w w6 := B5.trans (m6.below B5.size (by have := LB.out; intro x hx; simp at hx; omega))
  clear m6 b5 t2 t3
  go_wp2_with fail
  go_returns
  exact ⟨rfl, B6⟩
end Go.Proofs.Ytnlefakicjojdaa
