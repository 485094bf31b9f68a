/- sink: errors.Is at the one sentinel; made; New. -/
import Derived.Test.YtbahhlgcebgfeaaDoorTl
import Derived.LaidEql
import Derived.LaidEqlPtr
import Derived.Stop.Asserts
import Derived.RowKitTokens
namespace Go.Proofs.YtbahhlgcebgfeaaDoor
set_option linter.unusedVariables false
set_option linter.unusedSimpArgs false
open Go.RowKit W Go.Extern.Stop Go.Stop Go.Extern Go.Extern.Rtype
theorem isTypeOf (v : Value) (w : World) : (Extern.ReflectliteType.typeOf #[.iface 90 v]).run Tryd.prog w = .ok (.iface 80 (.agg #[.pointer (some ⟨1, 90, none⟩)])) w := by kernel_rfl
theorem isComparable (w : World) : ((Extern.ReflectliteType.method fun t => do noPackHeld "Comparable" t; (fun a => Value.bool a.comparable) <$> typeInfo t) #[.agg #[.pointer (some ⟨1, 90, none⟩)]]).run Tryd.prog w = .ok (.bool true) w := by kernel_rfl
theorem isMethodComparable (v : Value) (w : World) : (Go.method 127 80 v "Comparable").run Tryd.prog w = .ok (51, v) w := by kernel_rfl
theorem isComp : (Tryd.prog.info? 90).map (·.comparable) = some true := by kernel_rfl
theorem isSize : (Tryd.prog.info? 116).map (·.size) = some 1 := by kernel_rfl
abbrev EV (a : Addr) : Value := .iface 90 (.pointer (some a))
/-- errors.Is(x, x), x a pointer to an errors.errorString. -/
theorem is_same (a : Addr) (w : World) :
    Calls Tryd.prog 28 #[EV a, EV a] w fun e w' => e = .returned (.bool true) ∧ w = w' := by
  obtain ⟨i, hi, hcmp⟩ := Option.map_eq_some_iff.1 isComp
  obtain ⟨j, hj, hjs⟩ := Option.map_eq_some_iff.1 isSize
  have h8 := @run_callFunc_extern Tryd.prog 30 _ Extern.ReflectliteType.typeOf Tryd.func30 (by kernel_rfl) (by kernel_rfl) (by kernel_rfl) (by kernel_rfl)
  have h32 := @run_callFunc_extern Tryd.prog 51 _ (Extern.ReflectliteType.method fun t => do noPackHeld "Comparable" t; pure (.bool (← typeInfo t).comparable)) Tryd.func51 (by kernel_rfl) (by kernel_rfl) (by kernel_rfl) (by kernel_rfl)
  have tT := isTypeOf
  have cT := isComparable
  have mR := isMethodComparable
  have heq := run_eql_iface_ptr_same (P := Tryd.prog) w a Tryd.underlying68 Tryd.underlying90 hi hcmp hj
  go_enter Tryd.func28, Tryd.ntmps28
  go_wp2
  refine wp_loop_rounds 1 ?_
  rw [rounds_succ]
  go_wp2
  go_ret
  exact ⟨rfl, rfl⟩
/-- errors.Is(nil, x). -/
theorem is_nil (b : Addr) (w : World) :
    Calls Tryd.prog 28 #[.nilIface, EV b] w fun e w' => e = .returned (.bool false) ∧ w = w' := by
  have hn := run_eql_iface_nil_left (P := Tryd.prog) w 90 (.pointer (some b)) Tryd.underlying68
  go_enter Tryd.func28, Tryd.ntmps28
  go_wp2
  go_ret
  exact ⟨rfl, rfl⟩
/-- The block of a sink that New made. -/
def SB (w : World) (g : Nat) (pv cv : Value) (hd : Bool) (last : Int) (wv lv : Value) (n : Int) : Prop :=
  w.heap[g]? = some (.cells #[.pointer (some ⟨g, 0, none⟩), pv, cv, .bool hd, .int .i64 last, wv, lv, .int .i64 n] 45 (0, 0))
theorem SB.cells {w : World} {g : Nat} {pv cv wv lv : Value} {hd : Bool} {last n : Int} (h : SB w g pv cv hd last wv lv n) :
    w.cell? ⟨g, 0, none⟩ = some (.pointer (some ⟨g, 0, none⟩)) ∧ w.cell? ⟨g, 1, none⟩ = some pv ∧ w.cell? ⟨g, 2, none⟩ = some cv ∧ w.cell? ⟨g, 3, none⟩ = some (.bool hd) ∧ w.cell? ⟨g, 4, none⟩ = some (.int .i64 last) ∧ w.cell? ⟨g, 5, none⟩ = some wv ∧ w.cell? ⟨g, 6, none⟩ = some lv ∧ w.cell? ⟨g, 7, none⟩ = some (.int .i64 n) ∧ (∀ i, w.frozen? ⟨g, i, none⟩ = false) ∧ g < w.heap.size := by
  unfold SB at h
  refine ⟨?_, ?_, ?_, ?_, ?_, ?_, ?_, ?_, fun i => ?_, blk_lt h⟩
  all_goals simp [World.cell?, World.frozen?, h]
theorem SB.chg {w w' : World} {g : Nat} {pv cv wv lv : Value} {hd : Bool} {last n : Int} (h : SB w g pv cv hd last wv lv n) {S : Nat → Prop} (c : Chg S w w') (f : ¬ S g) : SB w' g pv cv hd last wv lv n := (c.block g (blk_lt h) f).trans h
theorem SB.set {w : World} {g : Nat} {pv cv wv lv : Value} {hd : Bool} {last n : Int} (h : SB w g pv cv hd last wv lv n) :
    (∀ v, SB (w.setCell ⟨g, 1, none⟩ v) g v cv hd last wv lv n) ∧ (∀ v, SB (w.setCell ⟨g, 2, none⟩ v) g pv v hd last wv lv n) ∧ (∀ b, SB (w.setCell ⟨g, 3, none⟩ (.bool b)) g pv cv b last wv lv n) ∧ (∀ t, SB (w.setCell ⟨g, 4, none⟩ (.int .i64 t)) g pv cv hd t wv lv n) ∧ (∀ v, SB (w.setCell ⟨g, 5, none⟩ v) g pv cv hd last v lv n) ∧ (∀ v, SB (w.setCell ⟨g, 6, none⟩ v) g pv cv hd last wv v n) ∧ (∀ t, SB (w.setCell ⟨g, 7, none⟩ (.int .i64 t)) g pv cv hd last wv lv t) := by
  unfold SB at *
  refine ⟨fun v => ?_, fun v => ?_, fun v => ?_, fun v => ?_, fun v => ?_, fun v => ?_, fun v => ?_⟩
  all_goals simp [World.setCell, Array.getElem?_modify, h]
theorem info_sink : (Tryd.prog.info? 45).isSome = true := by kernel_rfl
theorem eq_sink (b : Nat) (w : World) : (binOp .eql 24 (.pointer (some ⟨b, 0, none⟩)) (.pointer (some ⟨b, 0, none⟩))).run Tryd.prog w = .ok (.bool true) w := by
  obtain ⟨j, hj⟩ := Option.isSome_iff_exists.1 info_sink
  exact run_eql_ptr_same w ⟨b, 0, none⟩ Tryd.underlying24 hj
set_option maxRecDepth 100000 in
theorem smade {w : World} {g : Nat} (c0 : w.cell? ⟨g, 0, none⟩ = some (.pointer (some ⟨g, 0, none⟩))) : CalcN 21 #[.pointer (some ⟨g, 0, none⟩)] w (.bool true) := by
  have q := eq_sink g
  go_enter Tryd.func21, Tryd.ntmps21
  go_wp2
  go_returns
  exact ⟨rfl, rfl⟩
end Go.Proofs.YtbahhlgcebgfeaaDoor
