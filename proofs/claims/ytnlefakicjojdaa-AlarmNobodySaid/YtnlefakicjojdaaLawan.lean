/- AlarmNobody. -/
import Derived.Test.YtnlefakicjojdaaAlav
namespace Go.Proofs.Ytnlefakicjojdaa
set_option linter.unusedVariables false
set_option linter.unusedSimpArgs false
open Go.RowKit W Go.Maps
def opV (kd : Int) (nm : ByteArray) (t : Int) (is : Bool) (v1 v0 : Int) : Value := .agg #[.int .i64 kd, .string nm, .int .i64 t, .bool is, .int .i64 v1, .int .u64 v0]
set_option maxRecDepth 100000 in
set_option maxHeartbeats 4000000 in
theorem law_AlarmNobody (kd : Int) (nm : ByteArray) (t : Int) (is : Bool) (v1 v0 : Int) (w : World) :
    Calls Try.prog 8 #[opV kd nm t is v1 v0] w fun e w' => e = .returned (.bool true) ∧ Below w.heap.size w w' := by
  have N1 := fun (W : World) => Unm.later (w := W) (w' := W) (v := .pointer none) (.inl rfl) (Below.refl _ _)
  have fn := fun (W : World) => feed_not (N1 W) nm t v1 v0 is
  have mn := fun (W : World) => mute_not (N1 W) nm t
  have sn := fun (W : World) => state_not (N1 W) nm
  have RO := hide (Row.new w [.int .i64 kd, .string nm, .int .i64 t, .bool is, .int .i64 v1, .int .u64 v0] 40 _ rfl)
  have B0 : Below w.heap.size w (w.alloc (.cells [.int .i64 kd, .string nm, .int .i64 t, .bool is, .int .i64 v1, .int .u64 v0].toArray 40)) := (Below.refl _ _).alloc (Nat.le_refl _) _
  clear N1
  unfold opV
  go_enter Try.func8, Try.ntmps8
  go_wp2_with fail
  refine (fn _).mono ?_
  rintro e w3 ⟨rfl, k3⟩
  have U3 : Hid (Unm w3 (.pointer (some ⟨w.heap.size + 1, 0, none⟩))) := Unm.later (.inr ⟨w.heap.size + 1, rfl, by simp [go_sem], by simp⟩) k3
  have B3 : Hid (Below w.heap.size w w3) := (B0.alloc (by simp) _).trans (k3.mono (by simp; omega))
  have R3 := hide ((RO.out.later ((Below.refl _ _).alloc (Nat.le_refl _) _)).later k3)
  have c1 := R3.out.at0 1 _ rfl
  have c2 := R3.out.at0 2 _ rfl
  have c3 := R3.out.at0 3 _ rfl
  have c4 := R3.out.at0 4 _ rfl
  have c5 := R3.out.at0 5 _ rfl
  have l3 := R3.out.lt
  clear k3 B0 RO
  go_wp2_with fail
  refine (feed_not U3.out nm t v1 v0 is).mono ?_
  rintro e w4 ⟨rfl, k4⟩
  have U4 := hide (U3.out.later k4)
  have B4 : Hid (Below w.heap.size w w4) := B3.out.trans (k4.mono B3.out.size)
  have R4 := hide (R3.out.later k4)
  have c1 := R4.out.at0 1 _ rfl
  have c2 := R4.out.at0 2 _ rfl
  have l4 := R4.out.lt
  have sc := state_not U4.out nm
  clear k4 c3 c4 c5 l3
  go_wp2_with (first | (go_at_call 17; first | (with_reducible refine Calls.mono (sn _) ?_; rintro e w' ⟨rfl, rfl⟩) | (with_reducible refine Calls.mono sc ?_; rintro e w' ⟨rfl, rfl⟩)))
  refine (alive_spec _).mono ?_
  rintro e w5 ⟨rfl, k5⟩
  have U5 := hide (U4.out.later k5)
  have B5 : Below w.heap.size w w5 := B4.out.trans (k5.mono B4.out.size)
  have R5 := hide (R4.out.later k5)
  have c1 := R5.out.at0 1 _ rfl
  have c2 := R5.out.at0 2 _ rfl
  have l5 := R5.out.lt
  have mc := mute_not U5.out nm t
  clear k5 l4 sc
  go_wp2_with (first | (go_at_call 15; first | (with_reducible refine Calls.mono (mn _) ?_; rintro e w' ⟨rfl, rfl⟩) | (with_reducible refine Calls.mono mc ?_; rintro e w' ⟨rfl, rfl⟩)))
  go_returns
  exact ⟨rfl, B5⟩
end Go.Proofs.Ytnlefakicjojdaa
