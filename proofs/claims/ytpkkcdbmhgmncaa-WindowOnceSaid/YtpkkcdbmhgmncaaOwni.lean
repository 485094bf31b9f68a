/- Lists of int64 that a call makes: a row of one's own; appending to it. (out of XTmerge) -/
import Derived.Test.YtpkkcdbmhgmncaaInts
import Derived.Test.YtpkkcdbmhgmncaaTmath
import Derived.Deep.DeepCutAuto
import Derived.Deep.AppendLies
import Derived.Laws.OwnMore
import Derived.OwnWalk
import Derived.Laws.AppendOwnNone
import Derived.Laws.MakeOwn
namespace Go.Proofs.Ytpkkcdbmhgmncaa
set_option linter.unusedVariables false
set_option linter.unusedSimpArgs false
open Go.RowKit W T9
theorem info_w64 : (Try.prog.info? 2).map (fun i => (i.zero, i.size, i.bytes)) = some (some (.int .i64 0), 1, 8) := by kernel_rfl
theorem size_i64 (w : World) : (Go.sizeOf (Try.prog.elem 27)).run Try.prog w = .ok 1 w := by kernel_rfl
theorem addz (x : Addr) : x.add 0 = x := by unfold Addr.add; simp
/-- l[1:] of a slice of numbers. -/
theorem ints_tail {w : World} {a : Option Addr} {l : List Int} {x : Int} (h : IsInts .i64 w a (x :: l)) (c : Nat) (hc : l.length + 1 ≤ c) (h63 : c ≤ 9223372036854775807) :
    ∃ a2, (∀ v, (Instr.slice 27 (.slice a (l.length + 1) c) (some (.int .i64 1)) none none).run Try.prog v = .ok (.slice a2 l.length (c - 1)) v) ∧ IsInts .i64 w a2 l ∧ (a2 = none → c - 1 = 0) := by
  refine ⟨if c = 1 then a else a.map (·.add (1 * 1)), fun v => ?_, ?_, ?_⟩
  · rw [run_slice_l (P := Try.prog) (w := v) 27 a (l.length + 1) c (by kernel_rfl) .i64 (1 : Int) (by omega) (by omega), size_i64]
    simp [Result.andThen, sliced]
  · rcases h with h | ⟨g, o, rfl, h⟩
    · cases h
    · by_cases e : l = []
      · exact .inl e
      · have : 0 < l.length := by cases l; exact absurd rfl e; simp
        rw [if_neg (by omega)]
        refine .inr ⟨g, o + 1, by simp only [Option.map_some, Nat.mul_one]; rw [Go.WideShapes.add_plain], ⟨fun j hj => ?_, h.lt⟩⟩
        have := h.cell (j + 1) (by simp; omega)
        rw [Nat.add_assoc, Nat.add_comm 1 j, this]
        rfl
  · intro e
    obtain ⟨g, o, h⟩ : ∃ g o, a = some ⟨g, o, none⟩ := by
      rcases h with h | ⟨g, o, h, _⟩
      · cases h
      · exact ⟨g, o, h⟩
    subst h
    split at e
    · cases e
    · cases e
theorem ints_head {w : World} {a : Option Addr} {l : List Int} {x : Int} (h : IsInts .i64 w a (x :: l)) : ∃ g o, a = some ⟨g, o, none⟩ ∧ w.cell? ⟨g, o, none⟩ = some (.int .i64 x) ∧ g < w.heap.size := by
  rcases h with h | ⟨g, o, rfl, h⟩
  · cases h
  · exact ⟨g, o, rfl, by have := h.cell 0 (by simp); simpa using this, h.lt⟩
theorem own_below {w w' : World} {base size n : Nat} {e : TypeId} {v : Value} {xs : List Value} (h : w.ownsRow base e size v n xs) (k : Below w.heap.size w w') : w'.ownsRow base e size v n xs := by
  refine ⟨h.1, h.2.imp id ?_⟩
  rintro ⟨g, cap, cur, hv, hb, hh, r⟩
  exact ⟨g, cap, cur, hv, hb, (k.block g (h.lt g (by rw [hv]; rfl)).2).trans hh, r⟩
theorem cells_ints {w : World} {ad : Addr} {ps : List Int} (h : IsInts .i64 w (some ad) ps) : ∀ j u, (ps.map (Value.int .i64))[j]? = some u → w.cell? (ad.add j) = some u := by
  intro j u hj
  rcases h with e | ⟨g, o, e, L⟩
  · rw [e, List.map_nil, List.getElem?_nil] at hj
    cases hj
  · injection e with e
    subst e
    obtain ⟨hj2, e2⟩ := List.getElem?_eq_some_iff.1 hj
    rw [List.length_map] at hj2
    rw [Go.WideShapes.add_plain, L.cell j hj2, ← e2, List.getElem_map]
/-- A list of numbers that was made since the world w. -/
structure OwnI (w wr : World) (v : Value) (xs : List Int) : Prop where
  own : wr.ownsRow w.heap.size 2 1 v xs.length (xs.map (Value.int .i64))
  below : Below w.heap.size w wr
theorem OwnI.is {w wr : World} {v : Value} {xs : List Int} (h : OwnI w wr v xs) : ∃ a c, v = .slice a xs.length c ∧ xs.length ≤ c ∧ c ≤ maxLen ∧ IsInts .i64 wr a xs ∧ (∀ g, a = some g → w.heap.size ≤ g.block) := by
  rcases h.own.2 with ⟨rfl, h0⟩ | ⟨g, cap, cur, rfl, hb, hg, hc, hm, hs, ht⟩
  · exact ⟨none, 0, by rw [h0], by omega, by simp [maxLen], .inl (List.eq_nil_of_length_eq_zero h0), fun g e => by cases e⟩
  · refine ⟨_, cap, rfl, hc, hm, .inr ⟨g, 0, rfl, ⟨fun k hk => ?_, (h.own.lt g rfl).2⟩⟩, fun x e => by injection e with e; rw [← e]; exact hb⟩
    rw [Nat.zero_add, h.own.cellAt k (by omega)]
    simp [List.getElem?_eq_getElem hk]
theorem OwnI.later {w wr w' : World} {v : Value} {xs : List Int} (h : OwnI w wr v xs) (k : Below wr.heap.size wr w') : OwnI w w' v xs :=
  ⟨own_below h.own k, h.below.trans (k.mono h.below.size)⟩
theorem OwnI.more {w wr w1 : World} {v v' : Value} {xs : List Int} {x : Int} {o : Obj} (h : OwnI w wr v xs)
    (hown : w1.ownsRow w.heap.size 2 1 v' (xs.length + 1) (xs.map (Value.int .i64) ++ [.int .i64 x])) (hg : ((wr.alloc o).drew).grownBy w1 v.ownBlock) : OwnI w w1 v' (xs ++ [x]) :=
  ⟨by simpa using hown, (((h.below.alloc h.below.size _)).drew).grown hg (by have := h.below.size; simp; omega) (fun j hj => (h.own.lt j hj).1)⟩
theorem one_i64 {x : Int} : ∀ u ∈ [Value.int .i64 x], u.oneCell' = true := by intro u hu; rw [List.mem_singleton] at hu; subst hu; rfl
theorem own_not {w : World} {base e n g : Nat} {v : Value} {xs : List Value} (h : w.ownsRow base e 1 v n xs) (hg : g < base) : v.ownBlock ≠ some g := fun q => by have := (h.lt g q).1; omega
theorem wpList_append_ints {w : World} {ops : Array Oper} {rest : List Oper} {o : Oper} {a : Act} {Q : Exit → Act → World → Prop} (hgd : o.guard = none) (s x : Operand)
    (ho : o.op = .call { callee := .builtin .append, args := #[s, x], argTypes := #[27, 27] }) (w0 : World) (v : Value) (qs : List Int) (hs : a.eval s = v) (hown : OwnI w0 w v qs) (sa : Option Addr) (n c : Nat) (ps : List Int) (hx : a.eval x = .slice sa n c) (hn : n = ps.length) (hsrc : IsInts .i64 w sa ps) (hnil : sa = none → c = 0)
    (h63 : (qs.length + ps.length) * 8 ≤ 140737488355328) (h : ∀ v' w', OwnI w0 w' v' (qs ++ ps) → wpList Try.prog ops Q rest (a.put o.dst v') w') : wpList Try.prog ops Q (o :: rest) a w := by
  obtain ⟨i0, hi0, hz0, hz1, hz2⟩ := info_parts info_w64
  subst hn
  cases sa with
  | none =>
    have e : ps = [] := by
      rcases hsrc with e | ⟨g, o, e, _⟩
      · exact e
      · cases e
    subst e
    rw [hnil rfl, List.length_nil] at hx
    refine wpList_append_own_none hgd s x 27 ho w0.heap.size 2 i0 1 Try.underlying27 hi0 v qs.length (qs.map (Value.int .i64)) hs hown.own hx ?_
    exact h v w (by rw [List.append_nil]; exact hown)
  | some ad =>
    refine wpList_append_own _ hgd s x 27 ho w0.heap.size 2 i0 (.int .i64 0) 1 8 Try.underlying27 hi0 hz0 hz1 hz2 rfl (by decide) v qs.length (qs.map (Value.int .i64)) hs hown.own ad ps.length c (ps.map (Value.int .i64)) hx (by rw [List.length_map, Nat.mul_one]) (cells_ints hsrc) ?_ (by unfold maxLen; omega) (by omega) hown.below.size ?_
    · intro u hu
      obtain ⟨y, _, rfl⟩ := List.mem_map.1 hu
      rfl
    · intro v' w' h1 h2 _
      refine h v' w' ⟨by rw [List.length_append, List.map_append]; exact h1, hown.below.grown h2 hown.below.size (fun j hj => (hown.own.lt j hj).1)⟩
theorem new_ints (w : World) (x : Int) (t : TypeId) : IsInts .i64 (w.alloc (.cells #[.int .i64 x] t)) (some ⟨w.heap.size, 0, none⟩) [x] :=
  .inr ⟨_, 0, rfl, ⟨fun j hj => by
    have : j = 0 := by simpa using hj
    subst this; simp [go_sem], by simp⟩⟩
theorem OwnI.is2 {w wr : World} {v : Value} {xs : List Int} (h : OwnI w wr v xs) : ∃ a c, v = .slice a xs.length c ∧ xs.length ≤ c ∧ c ≤ 9223372036854775807 ∧ IsInts .i64 wr a xs ∧ (a = none → c = 0) ∧ (∀ g, a = some g → w.heap.size ≤ g.block) := by
  obtain ⟨a, c, e, h1, h2, h3, h4⟩ := h.is
  refine ⟨a, c, e, h1, by unfold maxLen at h2; omega, h3, fun z => ?_, h4⟩
  subst z
  rcases h.own.2 with ⟨e2, h0⟩ | ⟨g, cap, cur, e2, _⟩
  · rw [e] at e2; injection e2
  · rw [e] at e2; injection e2 with q; cases q
theorem OwnI.nil (w : World) : OwnI w w (.slice none 0 0) [] := ⟨⟨rfl, .inl ⟨rfl, rfl⟩⟩, Below.refl _ _⟩
end Go.Proofs.Ytpkkcdbmhgmncaa
