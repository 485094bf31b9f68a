/- Worlds in which only blocks of some types have changed, none below B. -/
import Derived.Test.YtdfmfkibafcbcaaOwnl
import Derived.Laws.Rows
import Derived.Laws.AppendOwn
namespace Go.Proofs.Ytdfmfkibafcbcaa
set_option linter.unusedVariables false
set_option linter.unusedSimpArgs false
open Go.RowKit W
/-- Old blocks that lie below B, or are no cells of a type among T, are as they were. -/
structure Upd (B : Nat) (T : List TypeId) (a b : World) : Prop where
  os : b.os = a.os
  tape : b.tape = a.tape
  output : b.output = a.output
  size : a.heap.size ≤ b.heap.size
  block : ∀ k, k < a.heap.size → (k < B ∨ ∀ cs t fr, a.heap[k]? = some (.cells cs t fr) → t ∉ T) → b.heap[k]? = a.heap[k]?
theorem Upd.refl (B : Nat) (T : List TypeId) (a : World) : Upd B T a a := ⟨rfl, rfl, rfl, Nat.le_refl _, fun _ _ _ => rfl⟩
theorem Upd.trans {B : Nat} {T : List TypeId} {a b c : World} (h : Upd B T a b) (k : Upd B T b c) : Upd B T a c :=
  ⟨k.os.trans h.os, k.tape.trans h.tape, k.output.trans h.output, Nat.le_trans h.size k.size, fun j hj hc => by
    have e := h.block j hj hc
    rw [k.block j (Nat.lt_of_lt_of_le hj h.size) (hc.imp id (fun f cs t fr g => f cs t fr (e ▸ g))), e]⟩
theorem Upd.more {B B' : Nat} {T T' : List TypeId} {a b : World} (h : Upd B T a b) (hB : B' ≤ B) (hT : ∀ t ∈ T, t ∈ T') : Upd B' T' a b :=
  ⟨h.os, h.tape, h.output, h.size, fun k hk hc => h.block k hk (hc.imp (fun q => Nat.lt_of_lt_of_le q hB) (fun f cs t fr g q => f cs t fr g (hT t q)))⟩
theorem Upd.of_below {B : Nat} {T : List TypeId} {a b : World} (h : Below a.heap.size a b) : Upd B T a b := ⟨h.os, h.tape, h.output, h.size, fun k hk _ => h.block k hk⟩
theorem Upd.below {B : Nat} {T : List TypeId} {a b : World} (h : Upd B T a b) (hB : B ≤ a.heap.size) : Below B a b :=
  ⟨h.os, h.tape, h.output, h.size, fun k hk => h.block k (Nat.lt_of_lt_of_le hk hB) (.inl hk)⟩
theorem Upd.alloc {B : Nat} {T : List TypeId} {a b : World} (h : Upd B T a b) (o : Obj) : Upd B T a (b.alloc o) := h.trans (.of_below ((Below.refl _ _).alloc (Nat.le_refl _) o))
theorem Upd.drewN {B : Nat} {T : List TypeId} {a b : World} (h : Upd B T a b) (n : Nat) : Upd B T a (b.drewN n) := h.trans (.of_below (below_drewN (Below.refl _ _) n))
/-- A row is grown. -/
theorem Upd.grown {B : Nat} {T : List TypeId} {a b c : World} {row : Option Nat} (h : Upd B T a b) (g : b.grownBy c row) (hr : ∀ k, row = some k → B ≤ k ∧ ∃ cs t fr, b.heap[k]? = some (.cells cs t fr) ∧ t ∈ T) : Upd B T a c :=
  h.trans ⟨g.os, g.tape, g.output, g.size, fun k hk hc => g.block k hk (fun e => by
    obtain ⟨h1, cs, t, fr, h2, h3⟩ := hr k e.symm
    rcases hc with q | q
    · omega
    · exact q cs t fr h2 h3)⟩
theorem Upd.set {B : Nat} {T : List TypeId} {a b : World} (h : Upd B T a b) {g : Nat} {i : Nat} {cs : Array Value} {t : TypeId} {fr : Nat × Nat} (hg : b.heap[g]? = some (.cells cs t fr)) (hB : B ≤ g) (ht : t ∈ T) (u : Value) : Upd B T a (b.setCell ⟨g, i, none⟩ u) :=
  h.trans ⟨rfl, rfl, rfl, by simp, fun k hk hc => by
    by_cases e : k = g
    · subst e
      rcases hc with q | q
      · omega
      · exact absurd ht (q _ _ _ hg)
    · exact Below.heap_setCell b ⟨g, i, none⟩ u k e⟩
/-- A row of another type stays. -/
theorem Upd.row {B base size n : Nat} {T : List TypeId} {a b : World} {e : TypeId} {v : Value} {xs : List Value} (h : Upd B T a b) (ho : a.ownsRow base e size v n xs) (he : e ∉ T) : b.ownsRow base e size v n xs := by
  refine ⟨ho.1, ho.2.imp id ?_⟩
  rintro ⟨g, cap, cur, hv, hb, hh, r⟩
  refine ⟨g, cap, cur, hv, hb, ?_, r⟩
  have lt : g < a.heap.size := by
    rcases Nat.lt_or_ge g a.heap.size with q | q
    · exact q
    · rw [Array.getElem?_eq_none q] at hh; cases hh
  rw [h.block g lt (.inr fun cs t fr q => by rw [hh] at q; injection q with q; injection q with _ q; rw [← q]; exact he)]
  exact hh
/-- A block of another type stays. -/
theorem Upd.blk {B g : Nat} {T : List TypeId} {a b : World} {t : TypeId} {cs : Array Value} {fr : Nat × Nat} (h : Upd B T a b) (hg : a.heap[g]? = some (.cells cs t fr)) (ht : t ∉ T) : b.heap[g]? = some (.cells cs t fr) := by
  have lt : g < a.heap.size := by
    rcases Nat.lt_or_ge g a.heap.size with q | q
    · exact q
    · rw [Array.getElem?_eq_none q] at hg; cases hg
  rw [h.block g lt (.inr fun cs' t' fr' q => by rw [hg] at q; injection q with q; injection q with _ q; rw [← q]; exact ht)]
  exact hg
theorem blk_lt {a : World} {g : Nat} {o : Obj} (hg : a.heap[g]? = some o) : g < a.heap.size := by
  rcases Nat.lt_or_ge g a.heap.size with q | q
  · exact q
  · rw [Array.getElem?_eq_none q] at hg; cases hg
/-- What an owned row's block is. -/
theorem own_blk {w : World} {base size n k : Nat} {e : TypeId} {v : Value} {xs : List Value} (ho : w.ownsRow base e size v n xs) (hk : v.ownBlock = some k) : base ≤ k ∧ ∃ cs, w.heap[k]? = some (.cells cs e (0, 0)) := by
  rcases ho.2 with ⟨rfl, _⟩ | ⟨g, cap, cur, rfl, hb, hh, _⟩
  · simp [Value.ownBlock] at hk
  · simp [Value.ownBlock] at hk
    subst hk
    exact ⟨hb, cur, hh⟩
theorem own_form {w : World} {base size n : Nat} {e : TypeId} {v : Value} {xs : List Value} (ho : w.ownsRow base e size v n xs) : ∃ A c, v = .slice A n c ∧ n ≤ c ∧ (A = none → n = 0 ∧ c = 0) := by
  rcases ho.2 with ⟨rfl, rfl⟩ | ⟨g, cap, cur, rfl, hb, hh, hn, _⟩
  · exact ⟨none, 0, rfl, Nat.le_refl _, fun _ => ⟨rfl, rfl⟩⟩
  · exact ⟨_, cap, rfl, hn, fun q => by cases q⟩
end Go.Proofs.Ytdfmfkibafcbcaa
