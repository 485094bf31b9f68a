/- Maps with texts as keys, plainly: what stands at each key. -/
import Derived.Test.YtdfmfkibafcbcaaChg
import Derived.Maps.Ext
import Derived.Maps.RangeWalk
import Derived.Maps.OwnSet
import Derived.Maps.OwnOps
namespace Go.Proofs.Ytdfmfkibafcbcaa
set_option linter.unusedVariables false
set_option linter.unusedSimpArgs false
open Go.RowKit W Go.Maps
/-- How a map's elements read. -/
structure ElR (α : Type) where
  R : Value → Option (DataW Unit × List MemPlace)
  enc : α → Value
  dat : α → DataW Unit
  ok : ∀ a, R (enc a) = some (dat a, [])
  inv : ∀ v a ps, R v = some (dat a, ps) → v = enc a
abbrev kSt (nm : ByteArray) : Lit := .string nm.data.toList
theorem kSt_inj {a b : ByteArray} (h : kSt a = kSt b) : a = b := by
  injection h with h
  exact ByteArray.ext (Array.toList_inj.1 h)
theorem keyedS : Keyed Try.prog 9 := string_keyed Try.underlying9
theorem keyS {nm : ByteArray} (h : nm.size ≤ maxLen) : keyOf Try.prog 9 (.string nm) = some (kSt nm) := Go.WideMaps.keyOf_string_mk Try.underlying9 h
theorem own_tight {H : Type} {P : Program} {k : TypeId} {R : Value → Option (DataW H × List MemPlace)} {w : World} {b n : Nat} {D : DataW H} (h : w.ownsMap P k R b n D) : w.ownsMap P k R b (Maps.size D) D := by
  obtain ⟨es, clock, hb, F, hs, rfl⟩ := h
  exact ⟨es, clock, hb, F, by simp [Maps.size, length_sorted], rfl⟩
section
variable {α : Type} (E : ElR α)
/-- The map in block mb holds n keys, M's. -/
def MapG (w : World) (mb n : Nat) (M : ByteArray → Option α) : Prop :=
  ∃ D : DataW Unit, w.ownsMap Try.prog 9 E.R mb n D ∧ Maps.size D = n ∧ (∀ key, has D (kSt key) = (M key).isSome) ∧ ∀ key a, M key = some a → ∀ z, D.atKey (kSt key) z = E.dat a
variable {E}
theorem MapG.lt {w : World} {mb n : Nat} {M : ByteArray → Option α} (h : MapG E w mb n M) : mb < w.heap.size := by
  obtain ⟨D, o, _⟩ := h; exact o.lt
theorem MapG.block {w : World} {mb n : Nat} {M : ByteArray → Option α} (h : MapG E w mb n M) : ∃ es c, w.heap[mb]? = some (.map es c) := by
  obtain ⟨D, ⟨es, c, hb, _⟩, _⟩ := h; exact ⟨es, c, hb⟩
theorem MapG.chg {S : Nat → Prop} {w w' : World} {mb n : Nat} {M : ByteArray → Option α} (h : MapG E w mb n M) (c : Chg S w w') (hm : ¬ S mb) : MapG E w' mb n M := by
  have lt := h.lt
  obtain ⟨D, ⟨es, clock, hb, r⟩, q⟩ := h
  exact ⟨D, ⟨es, clock, (c.block mb lt hm).trans hb, r⟩, q⟩
theorem MapG.new (w : World) : MapG E (w.alloc (.map #[] 0)) w.heap.size 0 (fun _ => none) :=
  ⟨.map [], World.ownsMap_made w _ _ _, rfl, fun key => rfl, fun key a h => by cases h⟩
/-- 'v, ok := m[key]'. -/
theorem MapG.look {w : World} {mb n : Nat} {M : ByteArray → Option α} {t e : TypeId} (h : MapG E w mb n M) (ht : Try.prog.underlying t = some (.map 9 e)) {z : α} (hz : (zeroValue e).run Try.prog w = .ok (E.enc z) w) (key : ByteArray) (hs : key.size ≤ maxLen) :
    (Instr.lookup t (.map (some mb)) (.string key) true).run Try.prog w = .ok (.tuple #[E.enc ((M key).getD z), .bool (M key).isSome]) w := by
  obtain ⟨D, o, _, h1, h2⟩ := h
  obtain ⟨v, ps, hr, hv⟩ := o.look_ok keyedS ht hz (E.ok z) (keyS hs)
  rw [hr, h1 key]
  have : v = E.enc ((M key).getD z) := by
    cases e : M key with
    | none =>
      rw [atKey_of_not_has (by rw [h1 key, e]; rfl)] at hv
      exact E.inv _ _ _ hv
    | some a =>
      rw [h2 key a e] at hv
      exact E.inv _ _ _ hv
  rw [this]
/-- 'm[key]'. -/
theorem MapG.look1 {w : World} {mb n : Nat} {M : ByteArray → Option α} {t e : TypeId} (h : MapG E w mb n M) (ht : Try.prog.underlying t = some (.map 9 e)) {z : α} (hz : (zeroValue e).run Try.prog w = .ok (E.enc z) w) (key : ByteArray) (hs : key.size ≤ maxLen) :
    (Instr.lookup t (.map (some mb)) (.string key) false).run Try.prog w = .ok (E.enc ((M key).getD z)) w := by
  obtain ⟨D, o, _, h1, h2⟩ := h
  obtain ⟨v, ps, hr, hv⟩ := o.lookup keyedS ht hz (E.ok z) (keyS hs)
  rw [hr]
  have : v = E.enc ((M key).getD z) := by
    cases e : M key with
    | none =>
      rw [atKey_of_not_has (by rw [h1 key, e]; rfl)] at hv
      exact E.inv _ _ _ hv
    | some a =>
      rw [h2 key a e] at hv
      exact E.inv _ _ _ hv
  rw [this]
def updM (M : ByteArray → Option α) (key : ByteArray) (o : Option α) : ByteArray → Option α := fun k => if k = key then o else M k
/-- 'm[key] = v'. -/
theorem MapG.put {w : World} {mb n : Nat} {M : ByteArray → Option α} {t e : TypeId} (h : MapG E w mb n M) (ht : Try.prog.underlying t = some (.map 9 e)) (hn : n < maxLen) (key : ByteArray) (hs : key.size ≤ maxLen) (a : α) :
    ∃ w', (Instr.mapUpdate t (.map (some mb)) (.string key) (E.enc a)).run Try.prog w = .ok () w' ∧ MapG E w' mb (if (M key).isSome then n else n + 1) (updM M key (some a)) ∧ w.mapTurned w' mb := by
  obtain ⟨D, o, hsz, h1, h2⟩ := h
  obtain ⟨w', hr, o', tn⟩ := o.store keyedS ht hn (keyS hs) (E.ok a)
  have td := o.tidy keyedS
  have im := o.isMap
  have sz : Maps.size (D.put (kSt key) (E.dat a)) = if (M key).isSome then n else n + 1 := by rw [size_put td, h1 key, hsz]
  refine ⟨w', hr, ⟨_, by rw [← sz]; exact own_tight o', sz, fun k => ?_, fun k b hb z => ?_⟩, tn⟩
  · unfold updM
    by_cases e : k = key
    · subst e; rw [if_pos rfl, has_put_same im (show WideAt.IsKeyLit (kSt k) from trivial)]; rfl
    · rw [if_neg e, has_put_other (fun q => e (kSt_inj q)), h1 k]
  · unfold updM at hb
    by_cases e : k = key
    · subst e
      rw [if_pos rfl] at hb
      cases hb
      exact atKey_put_same im (show WideAt.IsKeyLit (kSt k) from trivial) _ _
    · rw [if_neg e] at hb
      rw [atKey_put_other (fun q => e (kSt_inj q))]
      exact h2 k b hb z
/-- 'delete(m, key)'. -/
theorem MapG.del {w : World} {mb n : Nat} {M : ByteArray → Option α} {t e : TypeId} (h : MapG E w mb n M) (ht : Try.prog.underlying t = some (.map 9 e)) (key : ByteArray) (hs : key.size ≤ maxLen) (ty : TypeId) :
    ∃ w', (Builtin.delete_ #[t, 9] ty #[.map (some mb), .string key]).run Try.prog w = .ok (.tuple #[]) w' ∧ MapG E w' mb (if (M key).isSome then n - 1 else n) (updM M key none) ∧ w.mapTurned w' mb := by
  obtain ⟨D, o, hsz, h1, h2⟩ := h
  obtain ⟨w', hr, o', tn⟩ := o.drop keyedS ht (keyS hs) ty
  have td := o.tidy keyedS
  have sz : Maps.size (D.del (kSt key)) = if (M key).isSome then n - 1 else n := by
    have := size_del (k := kSt key) td
    rw [h1 key, hsz] at this
    cases e : (M key).isSome <;> simp [e] at this ⊢ <;> omega
  refine ⟨w', hr, ⟨_, by rw [← sz]; exact own_tight o', sz, fun k => ?_, fun k b hb z => ?_⟩, tn⟩
  · unfold updM
    by_cases e : k = key
    · subst e; rw [if_pos rfl, has_del_same]; rfl
    · rw [if_neg e, has_del_other (fun q => e (kSt_inj q)), h1 k]
  · unfold updM at hb
    by_cases e : k = key
    · subst e; rw [if_pos rfl] at hb; cases hb
    · rw [if_neg e] at hb
      rw [atKey_del_other (fun q => e (kSt_inj q))]
      exact h2 k b hb z
theorem MapG.len_ {w : World} {mb n : Nat} {M : ByteArray → Option α} {t e : TypeId} (h : MapG E w mb n M) (ht : Try.prog.underlying t = some (.map 9 e)) (ty : TypeId) : (Builtin.len_ #[t] ty #[.map (some mb)]).run Try.prog w = .ok (.int .i64 n) w := by
  obtain ⟨D, o, hsz, _⟩ := h
  rw [o.len ht ty, hsz]
theorem MapG.ext {w : World} {mb n : Nat} {M M' : ByteArray → Option α} (h : MapG E w mb n M) (e : ∀ k, M k = M' k) : MapG E w mb n M' := by
  have : M = M' := funext e
  exact this ▸ h
end
theorem mapTurned_chg {w w' : World} {mb : Nat} (h : w.mapTurned w' mb) : Chg (· = mb) w w' := Chg.grown h.grown (fun k e => by injection e with e; exact e.symm)
end Go.Proofs.Ytdfmfkibafcbcaa
