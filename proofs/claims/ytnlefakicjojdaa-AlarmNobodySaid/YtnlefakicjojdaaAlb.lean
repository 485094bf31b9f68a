/- alarm: the book: New's watches; find. -/
import Derived.Test.YtnlefakicjojdaaAlm
import Derived.Test.YtnlefakicjojdaaAly
import Derived.LaidEqlPtr
namespace Go.Proofs.Ytnlefakicjojdaa
set_option linter.unusedVariables false
set_option linter.unusedSimpArgs false
open Go.RowKit W Go.Maps
def st0 : St := ⟨1, 1, 0, 0, 0, 0, -1, 0⟩
def NewW (w : World) (R : Ru) (e : Ending) (w' : World) : Prop := ∃ b, e = .returned (.pointer (some ⟨b, 0, none⟩)) ∧ w.heap.size ≤ b ∧ WatchAt w' b R st0 ∧ Below w.heap.size w w'
set_option maxRecDepth 100000 in
set_option maxHeartbeats 4000000 in
theorem newWatch_spec (R : Ru) (w : World) : Calls Try.prog 24 #[ruV R] w (NewW w R) := by
  have KE := fun (W : World) (b : Nat) (lv : Value) (k : Row W b 0 (wlx R ⟨0, 1, 0, 0, 0, 0, -1, 0⟩ lv)) => enter_any k 1
  have ce : entS ⟨0, 1, 0, 0, 0, 0, -1, 0⟩ 1 = st0 := rfl
  rw [ce] at KE
  unfold ruV
  go_enter Try.func24, Try.ntmps24
  go_wp2_with fail
  refine (KE _ _ .nilFunc (Row.new' _ _ _ _ (by simp))).mono ?_
  rintro e w2 k
  have P := hide k
  obtain ⟨rfl, _, _⟩ := k
  go_wp2_with fail
  go_returns
  refine ⟨_, rfl, by omega, P.out.2.1, (((Below.refl _ _).alloc (Nat.le_refl _) _).alloc (by simp) _).trans (P.out.2.2.below (by simp; omega) (by intro x hx; simp at hx; omega))⟩
/-- A watch's pointer, as a number. -/
def ptrElem {H : Type} : Value → Option (DataW H × List MemPlace)
  | .pointer none => some (.lit (.int .i64 (-1)), [])
  | .pointer (some a) => if a.off = 0 ∧ a.spot = none then some (.lit (.int .i64 a.block), []) else none
  | _ => none
def pd {H : Type} : Option Nat → DataW H
  | none => .lit (.int .i64 (-1))
  | some b => .lit (.int .i64 b)
def pv : Option Nat → Value
  | none => .pointer none
  | some b => .pointer (some ⟨b, 0, none⟩)
theorem ptrElem_pv {H : Type} (o : Option Nat) : ptrElem (H := H) (pv o) = some (pd o, []) := by
  cases o <;> simp [ptrElem, pv, pd]
theorem ptrElem_inv {H : Type} {v : Value} {o : Option Nat} {ps : List MemPlace} (h : ptrElem (H := H) v = some (pd o, ps)) : v = pv o := by
  unfold ptrElem at h
  split at h
  · cases o with
    | none => rfl
    | some b => simp [pd] at h
  · rename_i a
    split at h
    · rename_i q
      obtain ⟨b, off, spot⟩ := a
      simp at q
      obtain ⟨rfl, rfl⟩ := q
      cases o with
      | none => simp [pd] at h
      | some c => simp [pd] at h; simp [pv, h]
    · cases h
  · cases h
abbrev Ent := Ru × St × Nat
/-- The watch's block of a name. -/
def blkOf (L : List Ent) (nm : ByteArray) : Option Nat := (L.find? fun x => decide (x.1.nm = nm)).map fun x => x.2.2
abbrev kS (nm : ByteArray) : Lit := .string nm.data.toList
theorem lawS : Keyed Try.prog 9 := string_keyed Try.underlying9
theorem zeroP (w : World) : (zeroValue 70).run Try.prog w = .ok (.pointer none) w := by kernel_rfl
/-- The map at mb leads from each name to its watch. -/
def MapAt (w : World) (mb : Nat) (L : List Ent) : Prop := ∃ D : DataW Unit, w.ownsMap Try.prog 9 (ptrElem (H := Unit)) mb L.length D ∧ ∀ nm : ByteArray, D.atKey (kS nm) (pd none) = pd (blkOf L nm)
theorem MapAt.mod {l : List Nat} {w w' : World} {mb : Nat} {L : List Ent} (h : MapAt w mb L) (k : Mod l w w') (n : mb ∉ l) : MapAt w' mb L := by
  obtain ⟨D, o, s⟩ := h
  have lm := o.lt
  obtain ⟨es, clock, hb, r⟩ := o
  exact ⟨D, ⟨es, clock, (k.block mb lm n).trans hb, r⟩, s⟩
theorem MapAt.lt {w : World} {mb : Nat} {L : List Ent} (h : MapAt w mb L) : mb < w.heap.size := by
  obtain ⟨D, o, s⟩ := h
  exact o.lt
theorem MapAt.look {w : World} {mb : Nat} {L : List Ent} (h : MapAt w mb L) (nm : ByteArray) (hs : nm.size ≤ maxLen) : (Instr.lookup 66 (.map (some mb)) (.string nm) false).run Try.prog w = .ok (pv (blkOf L nm)) w := by
  obtain ⟨D, o, s⟩ := h
  obtain ⟨v, ps, hr, hv⟩ := o.lookup lawS Try.underlying66 (zeroP w) (ptrElem_pv none) (Go.WideMaps.keyOf_string_mk Try.underlying9 hs)
  rw [s nm] at hv
  rw [hr, ptrElem_inv hv]
/-- A book that New made. -/
structure BookA (w : World) (bb mb : Nat) (L : List Ent) : Prop where
  c0 : w.cell? ⟨bb, 0, none⟩ = some (.pointer (some ⟨bb, 0, none⟩))
  c1 : w.cell? ⟨bb, 1, none⟩ = some (.map (some mb))
  lt : bb < w.heap.size
  ne : mb ≠ bb
  map : MapAt w mb L
  wat : ∀ x ∈ L, WatchAt w x.2.2 x.1 x.2.1
  ok : ∀ x ∈ L, RuOk x.1 ∧ x.2.2 ≠ bb ∧ x.2.2 ≠ mb
  names : L.Pairwise fun x y => x.1.nm ≠ y.1.nm ∧ x.2.2 ≠ y.2.2
theorem BookA.mod {l : List Nat} {w w' : World} {bb mb : Nat} {L : List Ent} (h : BookA w bb mb L) (k : Mod l w w') (h1 : bb ∉ l) (h2 : mb ∉ l) (h3 : ∀ x ∈ L, x.2.2 ∉ l) : BookA w' bb mb L :=
  ⟨(k.cell h.lt h1).trans h.c0, (k.cell h.lt h1).trans h.c1, Nat.lt_of_lt_of_le h.lt k.size, h.ne, h.map.mod k h2, fun x hx => (h.wat x hx).mod k (h3 x hx), h.ok, h.names⟩
theorem BookA.later {w w' : World} {bb mb : Nat} {L : List Ent} (h : BookA w bb mb L) (k : Below w.heap.size w w') : BookA w' bb mb L := h.mod (Mod.of_below (l := []) k) (by simp) (by simp) (by simp)
theorem infoBookA : (Try.prog.info? 68).isSome = true := by kernel_rfl
theorem eq_ptrA (b : Nat) (w : World) : (binOp .eql 24 (.pointer (some ⟨b, 0, none⟩)) (.pointer (some ⟨b, 0, none⟩))).run Try.prog w = .ok (.bool true) w := by
  obtain ⟨j, hj⟩ := Option.isSome_iff_exists.1 infoBookA
  exact run_eql_ptr_same w ⟨b, 0, none⟩ Try.underlying24 hj
set_option maxRecDepth 100000 in
theorem madeA_ok {w : World} {bb mb : Nat} {L : List Ent} (h : BookA w bb mb L) :
    CalcN 47 #[.pointer (some ⟨bb, 0, none⟩)] w (.bool true) := by
  have c0 := h.c0
  have q := eq_ptrA bb
  clear h
  go_enter Try.func47, Try.ntmps47
  go_wp2
  go_returns
  exact ⟨rfl, rfl⟩
set_option maxRecDepth 100000 in
theorem find_spec {w : World} {bb mb : Nat} {L : List Ent} (h : BookA w bb mb L) (nm : ByteArray) (hs : nm.size ≤ maxLen) :
    CalcN 28 #[.pointer (some ⟨bb, 0, none⟩), .string nm] w (.tuple #[pv (blkOf L nm), .int .i64 (if (blkOf L nm).isSome then 0 else 231)]) := by
  have k := madeA_ok h
  have c1 := h.c1
  have hl := h.map.look nm hs
  clear h
  generalize blkOf L nm = o at hl ⊢
  cases o with
  | none =>
    simp only [pv] at hl ⊢
    go_enter Try.func28, Try.ntmps28
    go_wp2_with fail
    refine k.mono ?_
    rintro e w' ⟨rfl, rfl⟩
    go_wp2_with fail
    go_returns
    exact ⟨rfl, rfl⟩
  | some b =>
    simp only [pv] at hl ⊢
    go_enter Try.func28, Try.ntmps28
    go_wp2_with fail
    refine k.mono ?_
    rintro e w' ⟨rfl, rfl⟩
    go_wp2_with fail
    go_returns
    exact ⟨rfl, rfl⟩
end Go.Proofs.Ytnlefakicjojdaa
