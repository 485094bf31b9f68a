/- window's Book: a set as a map's keys and as a rising list; worlds that changed in named blocks alone. -/
import Derived.Test.YtnlefakicjojdaaInts
import Derived.Maps.OwnSet
import Derived.Maps.OwnOps
import Derived.Maps.RangeWalk
import Derived.Maps.Ext
namespace Go.Proofs.Ytnlefakicjojdaa
set_option linter.unusedVariables false
set_option linter.unusedSimpArgs false
open Go.RowKit W Go.Maps
/-- Of the blocks of w none but those of l have changed. -/
structure Mod (l : List Nat) (w w' : World) : Prop where
  os : w'.os = w.os
  tape : w'.tape = w.tape
  output : w'.output = w.output
  size : w.heap.size ≤ w'.heap.size
  block : ∀ k, k < w.heap.size → k ∉ l → w'.heap[k]? = w.heap[k]?
theorem Mod.refl (l : List Nat) (w : World) : Mod l w w := ⟨rfl, rfl, rfl, Nat.le_refl _, fun _ _ _ => rfl⟩
theorem Mod.trans {l : List Nat} {a b c : World} (h : Mod l a b) (k : Mod l b c) : Mod l a c :=
  ⟨k.os.trans h.os, k.tape.trans h.tape, k.output.trans h.output, Nat.le_trans h.size k.size, fun j hj hl => (k.block j (Nat.lt_of_lt_of_le hj h.size) hl).trans (h.block j hj hl)⟩
theorem Mod.of_below {l : List Nat} {a b : World} (h : Below a.heap.size a b) : Mod l a b := ⟨h.os, h.tape, h.output, h.size, fun k hk _ => h.block k hk⟩
theorem Mod.more {l m : List Nat} {a b : World} (h : Mod l a b) (hs : ∀ x ∈ l, x ∈ m) : Mod m a b := ⟨h.os, h.tape, h.output, h.size, fun k hk hm => h.block k hk fun q => hm (hs k q)⟩
theorem Mod.below {l : List Nat} {a b : World} {B : Nat} (h : Mod l a b) (hB : B ≤ a.heap.size) (hl : ∀ x ∈ l, B ≤ x) : Below B a b :=
  ⟨h.os, h.tape, h.output, h.size, fun k hk => h.block k (Nat.lt_of_lt_of_le hk hB) fun q => by have := hl k q; omega⟩
theorem Mod.alloc {l : List Nat} {a b : World} (h : Mod l a b) (o : Obj) : Mod l a (b.alloc o) := h.trans (.of_below ((Below.refl _ _).alloc (Nat.le_refl _) o))
theorem Mod.drew {l : List Nat} {a b : World} (h : Mod l a b) : Mod l a b.drew := ⟨h.os, h.tape, h.output, h.size, h.block⟩
theorem Mod.setCell {l : List Nat} {a b : World} (h : Mod l a b) {p : Addr} (hp : p.block ∈ l) (u : Value) : Mod l a (b.setCell p u) :=
  ⟨h.os, h.tape, h.output, by simpa [World.setCell] using h.size, fun k hk hl => (Below.heap_setCell b p u k (fun e => hl (e ▸ hp))).trans (h.block k hk hl)⟩
theorem Mod.grown {l : List Nat} {a b c : World} {row : Option Nat} (h : Mod l a b) (g : b.grownBy c row) (hr : ∀ k, row = some k → k ∈ l ∨ a.heap.size ≤ k) : Mod l a c :=
  ⟨g.os.trans h.os, g.tape.trans h.tape, g.output.trans h.output, Nat.le_trans h.size g.size, fun k hk hl => by
    refine (g.block k (Nat.lt_of_lt_of_le hk h.size) fun e => ?_).trans (h.block k hk hl)
    rcases hr k e.symm with q | q
    · exact hl q
    · omega⟩
theorem Mod.cell {l : List Nat} {a b : World} (h : Mod l a b) {k o : Nat} (hk : k < a.heap.size) (hl : k ∉ l) : b.cell? ⟨k, o, none⟩ = a.cell? ⟨k, o, none⟩ := World.cell?_of_block (h.block k hk hl)
theorem Mod.frozen {l : List Nat} {a b : World} (h : Mod l a b) {k o : Nat} (hk : k < a.heap.size) (hl : k ∉ l) : b.frozen? ⟨k, o, none⟩ = a.frozen? ⟨k, o, none⟩ := by
  unfold World.frozen?; rw [h.block k hk hl]
theorem IsInts.mod {k : IntKind} {l : List Nat} {w w' : World} {a : Option Addr} {xs : List Int} (h : IsInts k w a xs) (b : Mod l w w') (hn : ∀ g, a = some g → g.block ∉ l) : IsInts k w' a xs := by
  rcases h with h | ⟨g, o, rfl, h⟩
  · exact .inl h
  · exact .inr ⟨g, o, rfl, ⟨fun j hj => (b.cell h.lt (hn _ rfl)).trans (h.cell j hj), Nat.lt_of_lt_of_le h.lt b.size⟩⟩
/-- A number put into a rising list. -/
def insS (x : Int) : List Int → List Int
  | [] => [x]
  | y :: r => if x < y then x :: y :: r else y :: insS x r
theorem insS_mem (x y : Int) : ∀ S : List Int, y ∈ insS x S ↔ y = x ∨ y ∈ S
  | [] => by simp [insS]
  | z :: r => by
    unfold insS
    split
    · simp
    · rw [List.mem_cons, insS_mem x y r, List.mem_cons]
      constructor
      · rintro (h | h | h)
        · exact .inr (.inl h)
        · exact .inl h
        · exact .inr (.inr h)
      · rintro (h | h | h)
        · exact .inr (.inl h)
        · exact .inl h
        · exact .inr (.inr h)
theorem insS_len (x : Int) : ∀ S : List Int, (insS x S).length = S.length + 1
  | [] => rfl
  | z :: r => by
    unfold insS
    split
    · rfl
    · rw [List.length_cons, insS_len x r, List.length_cons]
theorem insS_up (x : Int) : ∀ {S : List Int}, S.Pairwise (· < ·) → x ∉ S → (insS x S).Pairwise (· < ·)
  | [], _, _ => by simp [insS]
  | z :: r, h, n => by
    obtain ⟨h1, h2⟩ := List.pairwise_cons.1 h
    have nz : x ≠ z := fun e => n (by simp [e])
    unfold insS
    split
    · rename_i lt
      refine List.pairwise_cons.2 ⟨fun y hy => ?_, h⟩
      rcases List.mem_cons.1 hy with rfl | hy
      · exact lt
      · have := h1 y hy; omega
    · refine List.pairwise_cons.2 ⟨fun y hy => ?_, insS_up x h2 (fun q => n (by simp [q]))⟩
      rcases (insS_mem x y r).1 hy with rfl | hy
      · omega
      · exact h1 y hy
/-- Two rising lists with the same members are one. -/
theorem up_one {S T : List Int} (hs : S.Pairwise (· < ·)) (ht : T.Pairwise (· < ·)) (h : ∀ x, x ∈ S ↔ x ∈ T) : S = T := by
  have ns : S.Nodup := hs.imp (fun {a b} q => by omega)
  have nt : T.Nodup := ht.imp (fun {a b} q => by omega)
  refine List.Perm.eq_of_pairwise (le := (· < ·)) (fun a b _ _ h1 h2 => by omega) hs ht ?_
  exact (List.perm_ext_iff_of_nodup ns nt).2 h
abbrev kl (x : Int) : Lit := .int .i64 x
theorem kl_ne {x y : Int} (h : x ≠ y) : kl x ≠ kl y := fun e => h (by injection e)
/-- The map's keys are the set's. -/
structure SetOf (D : DataW Unit) (S : List Int) : Prop where
  has : ∀ x, Maps.has D (kl x) = decide (x ∈ S)
  size : Maps.size D = S.length
theorem SetOf.nil : SetOf (.map []) [] := ⟨fun x => by simp [Maps.has], rfl⟩
theorem isKey_i64 (x : Int) : WideAt.IsKeyLit (kl x) := trivial
theorem SetOf.put {D : DataW Unit} {S : List Int} (h : SetOf D S) (t : Tidy D) {x : Int} (n : x ∉ S) (d : DataW Unit) : SetOf (D.put (kl x) d) (insS x S) := by
  refine ⟨fun y => ?_, ?_⟩
  · by_cases e : y = x
    · subst e
      rw [has_put_same t.isMap (isKey_i64 y)]
      simp [insS_mem]
    · rw [has_put_other (kl_ne e), h.has]
      simp [insS_mem, e]
  · rw [size_put t, h.has, h.size, insS_len]
    simp [n]
theorem SetOf.again {D : DataW Unit} {S : List Int} (h : SetOf D S) (t : Tidy D) {x : Int} (n : x ∈ S) (d : DataW Unit) : SetOf (D.put (kl x) d) S := by
  refine ⟨fun y => ?_, ?_⟩
  · by_cases e : y = x
    · subst e
      rw [has_put_same t.isMap (isKey_i64 y)]
      simp [n]
    · rw [has_put_other (kl_ne e), h.has]
  · rw [size_put t, h.has, h.size]
    simp [n]
theorem owns_tight {H : Type} {P : Program} {k : TypeId} {R : Value → Option (DataW H × List MemPlace)} {w : World} {b n : Nat} {D : DataW H} (h : w.ownsMap P k R b n D) : w.ownsMap P k R b (Maps.size D) D := by
  obtain ⟨es, clock, hb, F, hs, rfl⟩ := h
  exact ⟨es, clock, hb, F, by simp [Maps.size, length_sorted], rfl⟩
end Go.Proofs.Ytnlefakicjojdaa
