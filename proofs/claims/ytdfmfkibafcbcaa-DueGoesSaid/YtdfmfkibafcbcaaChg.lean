/- Worlds in which only old blocks of a set have changed. -/
import Derived.Test.YtdfmfkibafcbcaaUpd
import Derived.Maps.AppendAt
import Derived.Laws.AppendOwnNone
namespace Go.Proofs.Ytdfmfkibafcbcaa
set_option linter.unusedVariables false
set_option linter.unusedSimpArgs false
open Go.RowKit W
/-- Only old blocks of S have changed. -/
structure Chg (S : Nat → Prop) (a b : World) : Prop where
  os : b.os = a.os
  tape : b.tape = a.tape
  output : b.output = a.output
  size : a.heap.size ≤ b.heap.size
  block : ∀ k, k < a.heap.size → ¬ S k → b.heap[k]? = a.heap[k]?
theorem Chg.refl (S : Nat → Prop) (a : World) : Chg S a a := ⟨rfl, rfl, rfl, Nat.le_refl _, fun _ _ _ => rfl⟩
theorem Chg.trans {S S' : Nat → Prop} {a b c : World} (h : Chg S a b) (k : Chg S' b c) (f : ∀ j, j < a.heap.size → S' j → S j) : Chg S a c :=
  ⟨k.os.trans h.os, k.tape.trans h.tape, k.output.trans h.output, Nat.le_trans h.size k.size, fun j hj hS => by
    rw [k.block j (Nat.lt_of_lt_of_le hj h.size) (fun q => hS (f j hj q)), h.block j hj hS]⟩
theorem Chg.mono {S S' : Nat → Prop} {a b : World} (h : Chg S a b) (f : ∀ k, S k → S' k) : Chg S' a b := ⟨h.os, h.tape, h.output, h.size, fun k hk q => h.block k hk (fun s => q (f k s))⟩
theorem Chg.of_below {S : Nat → Prop} {a b : World} (h : Below a.heap.size a b) : Chg S a b := ⟨h.os, h.tape, h.output, h.size, fun k hk _ => h.block k hk⟩
theorem Chg.below {S : Nat → Prop} {B : Nat} {a b : World} (h : Chg S a b) (hS : ∀ k, S k → B ≤ k) (hB : B ≤ a.heap.size) : Below B a b :=
  ⟨h.os, h.tape, h.output, h.size, fun k hk => h.block k (Nat.lt_of_lt_of_le hk hB) (fun q => by have := hS k q; omega)⟩
theorem Chg.set {S : Nat → Prop} {a : World} {g i : Nat} (u : Value) (h : S g) : Chg S a (a.setCell ⟨g, i, none⟩ u) :=
  ⟨rfl, rfl, rfl, by simp, fun k hk hS => Below.heap_setCell a ⟨g, i, none⟩ u k (fun e => hS (e ▸ h))⟩
theorem Chg.grown {S : Nat → Prop} {a b : World} {row : Option Nat} (h : a.grownBy b row) (f : ∀ k, row = some k → S k) : Chg S a b :=
  ⟨h.os, h.tape, h.output, h.size, fun k hk hS => h.block k hk (fun e => hS (f k e.symm))⟩
theorem Chg.drewN {S : Nat → Prop} {a b : World} (h : Chg S a b) (n : Nat) : Chg S a (b.drewN n) := ⟨h.os, h.tape, h.output, h.size, h.block⟩
theorem Chg.drew {S : Nat → Prop} {a b : World} (h : Chg S a b) : Chg S a b.drew := ⟨h.os, h.tape, h.output, h.size, h.block⟩
theorem Chg.alloc {S : Nat → Prop} {a b : World} (h : Chg S a b) (o : Obj) : Chg S a (b.alloc o) := h.trans (.of_below (S := S) ((Below.refl _ _).alloc (Nat.le_refl _) o)) (fun _ _ q => q)
theorem Chg.cell {S : Nat → Prop} {a b : World} (h : Chg S a b) {k o : Nat} (hk : k < a.heap.size) (hl : ¬ S k) : b.cell? ⟨k, o, none⟩ = a.cell? ⟨k, o, none⟩ := World.cell?_of_block (h.block k hk hl)
theorem chg_row {S : Nat → Prop} {a b : World} {base n e sz : Nat} {v : Value} {xs : List Value} (h : a.ownsRow base e sz v n xs) (c : Chg S a b) (f : ∀ k, v.ownBlock = some k → ¬ S k) : b.ownsRow base e sz v n xs := by
  refine ⟨h.1, h.2.imp id ?_⟩
  rintro ⟨g, cap, cur, rfl, hb, hh, r⟩
  exact ⟨g, cap, cur, rfl, hb, (c.block g (blk_lt hh) (f g rfl)).trans hh, r⟩
/-- A cell of an own row is written. -/
theorem row_put {w : World} {base e sz g n c : Nat} {xs : List Value} (o : w.ownsRow base e sz (.slice (some ⟨g, 0, none⟩) n c) n xs) (i : Nat) (hi : i < n * sz) (u : Value) :
    (w.setCell ⟨g, i, none⟩ u).ownsRow base e sz (.slice (some ⟨g, 0, none⟩) n c) n (xs.set i u) := by
  obtain ⟨hl, h⟩ := o
  rcases h with ⟨e, _⟩ | ⟨g', cap, cur, e, hb, hh, hn, hm, hs, ht⟩
  · cases e
  · injection e with e1 e2 e3
    injection e1 with e1
    injection e1 with e1
    subst e1 e3
    refine ⟨by rw [List.length_set]; exact hl, .inr ⟨g, c, cur.setIfInBounds i u, rfl, hb, ?_, hn, hm, by rw [Array.size_setIfInBounds]; exact hs, ?_⟩⟩
    · simp [World.setCell, Array.getElem?_modify, hh]
    · rw [Array.toList_setIfInBounds, List.take_set, ht]
/-- An own row's cells. -/
theorem row_look {w : World} {base e sz g n c : Nat} {xs : List Value} (o : w.ownsRow base e sz (.slice (some ⟨g, 0, none⟩) n c) n xs) : (∀ i u, xs[i]? = some u → w.cell? ⟨g, i, none⟩ = some u) ∧ (∀ i, w.frozen? ⟨g, i, none⟩ = false) ∧ g < w.heap.size ∧ base ≤ g := by
  refine ⟨fun i u hu => ?_, fun i => ?_, ?_, ?_⟩
  · obtain ⟨hl, h⟩ := o
    rcases h with ⟨e, _⟩ | ⟨g', cap, cur, e, hb, hh, hn, hm, hs, ht⟩
    · cases e
    · injection e with e1 e2 e3
      injection e1 with e1
      injection e1 with e1
      subst e1 e3
      rw [← ht] at hu
      have hi : i < n * sz := by
        have := (List.getElem?_eq_some_iff.1 hu).1
        rw [List.length_take] at this
        omega
      rw [List.getElem?_take_of_lt hi] at hu
      simp [World.cell?, hh]
      simpa using hu
  · obtain ⟨_, cs, h⟩ := own_blk o (k := g) rfl
    simp [World.frozen?, h]
  · obtain ⟨_, cs, h⟩ := own_blk o (k := g) rfl
    exact blk_lt h
  · exact (own_blk o (k := g) rfl).1
/-- Two own rows of unlike types lie apart. -/
theorem own_ne {w : World} {b1 b2 e1 e2 s1 s2 n1 n2 : Nat} {u v : Value} {xs ys : List Value} (h : w.ownsRow b1 e1 s1 u n1 xs) (k : w.ownsRow b2 e2 s2 v n2 ys) (ne : e1 ≠ e2) {j : Nat} (hu : u.ownBlock = some j) : v.ownBlock ≠ some j := by
  intro hv
  obtain ⟨_, c1, h1⟩ := own_blk h hu
  obtain ⟨_, c2, h2⟩ := own_blk k hv
  rw [h1] at h2
  injection h2 with h2
  injection h2 with _ h2
  exact ne h2
theorem own_ne_blk {w : World} {b1 e1 s1 n1 g e2 : Nat} {u : Value} {xs : List Value} {cs : Array Value} {fr : Nat × Nat} (h : w.ownsRow b1 e1 s1 u n1 xs) (hg : w.heap[g]? = some (.cells cs e2 fr)) (ne : e1 ≠ e2) {j : Nat} (hu : u.ownBlock = some j) : j ≠ g := by
  rintro rfl
  obtain ⟨_, c1, h1⟩ := own_blk h hu
  rw [h1] at hg
  injection hg with hg
  injection hg with _ hg
  exact ne hg
theorem own_old {w : World} {b1 e1 s1 n1 : Nat} {u : Value} {xs : List Value} (h : w.ownsRow b1 e1 s1 u n1 xs) {j : Nat} (hu : u.ownBlock = some j) : b1 ≤ j ∧ j < w.heap.size := by
  obtain ⟨hb, c1, h1⟩ := own_blk h hu
  exact ⟨hb, blk_lt h1⟩
/-- Two values whose own blocks are apart. -/
def Apt (u v : Value) : Prop := ∀ k, u.ownBlock = some k → v.ownBlock ≠ some k
theorem Apt.symm {u v : Value} (h : Apt u v) : Apt v u := fun k e q => h k q e
theorem Apt.nil (v : Value) : Apt (.slice none 0 0) v := fun k e => by cases e
theorem Apt.moved {w : World} {b1 e1 s1 n1 : Nat} {u u' v : Value} {xs : List Value} (h : Apt u v) (k : w.ownsRow b1 e1 s1 v n1 xs) (m : u'.ownBlock = u.ownBlock ∨ u'.ownBlock = some w.heap.size) : Apt u' v := by
  intro j hj q
  rcases m with e | e
  · exact h j (e ▸ hj) q
  · rw [e] at hj
    injection hj with hj
    have := (own_old k q).2
    omega
end Go.Proofs.Ytdfmfkibafcbcaa
