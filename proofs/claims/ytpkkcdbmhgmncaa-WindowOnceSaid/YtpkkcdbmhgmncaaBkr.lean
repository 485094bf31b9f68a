/- A row of one's own while other old blocks change: appending, sorting; ranging over a set. -/
import Derived.Test.YtpkkcdbmhgmncaaBsort
import Derived.Test.YtpkkcdbmhgmncaaBk
namespace Go.Proofs.Ytpkkcdbmhgmncaa
set_option linter.unusedVariables false
set_option linter.unusedSimpArgs false
open Go.RowKit W T9 Go.Maps
/-- A list of numbers in a block from B on. -/
def OwnR (B : Nat) (w : World) (v : Value) (xs : List Int) : Prop := w.ownsRow B 2 1 v xs.length (xs.map (Value.int .i64))
theorem OwnR.nil (B : Nat) (w : World) : OwnR B w (.slice none 0 0) [] := ⟨rfl, .inl ⟨rfl, rfl⟩⟩
theorem OwnR.kept {B : Nat} {w w' : World} {v : Value} {xs : List Int} {row : Option Nat} (h : OwnR B w v xs) (g : w.grownBy w' row) (hr : ∀ k, row = some k → k < B) : OwnR B w' v xs := by
  refine ⟨h.1, h.2.imp id ?_⟩
  rintro ⟨b, cap, cur, hv, hb, hh, r⟩
  refine ⟨b, cap, cur, hv, hb, (g.block b (h.lt b (by rw [hv]; rfl)).2 fun e => ?_).trans hh, r⟩
  have := hr b e.symm; omega
theorem OwnR.is {B : Nat} {w : World} {v : Value} {xs : List Int} (h : OwnR B w v xs) : ∃ a c, v = .slice a xs.length c ∧ xs.length ≤ c ∧ c ≤ 9223372036854775807 ∧ IsInts .i64 w a xs ∧ (a = none → c = 0) ∧ (∀ g, a = some g → B ≤ g.block) := by
  rcases h.2 with ⟨rfl, h0⟩ | ⟨g, cap, cur, rfl, hb, hg, hc, hm, hs, ht⟩
  · exact ⟨none, 0, by rw [h0], by omega, by omega, .inl (List.eq_nil_of_length_eq_zero h0), fun _ => rfl, fun g e => by cases e⟩
  · unfold maxLen at hm
    refine ⟨_, cap, rfl, hc, by omega, .inr ⟨g, 0, rfl, ⟨fun k hk => ?_, (h.lt g rfl).2⟩⟩, (by intro e; cases e), fun x e => by injection e with e; rw [← e]; exact hb⟩
    rw [Nat.zero_add]
    have := World.ownsRow.cellAt h k (by omega)
    rw [this]; simp [List.getElem?_eq_getElem hk]
theorem wpList_append_r {ops : Array Oper} {rest : List Oper} {o : Oper} {a : Act} {Q : Exit → Act → World → Prop} {w : World} (hgd : o.guard = none) (s x : Operand)
    (ho : o.op = .call { callee := .builtin .append, args := #[s, x], argTypes := #[27, 27] }) (B : Nat) (v : Value) (qs : List Int) (hs : a.eval s = v) (hown : OwnR B w v qs) (b : Nat) (y : Int) (hx : a.eval x = .slice (some ⟨b, 0, none⟩) 1 1) (hsrc : w.cell? ⟨b, 0, none⟩ = some (.int .i64 y)) (hB : B ≤ w.heap.size)
    (h63 : (qs.length + 1) * 8 ≤ 140737488355328) (h : ∀ v' w', OwnR B w' v' (qs ++ [y]) → w.grownBy w' v.ownBlock → wpList Try.prog ops Q rest (a.put o.dst v') w') : wpList Try.prog ops Q (o :: rest) a w := by
  obtain ⟨i0, hi0, hz0, hz1, hz2⟩ := info_parts info_w64
  refine wpList_append_own _ hgd s x 27 ho B 2 i0 (.int .i64 0) 1 8 Try.underlying27 hi0 hz0 hz1 hz2 rfl (by decide) v qs.length (qs.map (Value.int .i64)) hs hown ⟨b, 0, none⟩ 1 1 [.int .i64 y] hx rfl ?_ one_i64 (by unfold maxLen; omega) (by omega) hB ?_
  · intro j u hj
    match j, hj with
    | 0, hj =>
      simp at hj
      subst hj
      rw [Go.WideShapes.add_plain]; exact hsrc
  · intro v' w' h1 h2 _
    refine h v' w' ?_ h2
    unfold OwnR
    rw [List.length_append, List.map_append]; exact h1
theorem sortR {B : Nat} {w : World} {v : Value} {xs : List Int} (h : OwnR B w v xs) (hl : xs.length ≤ 17592186044416) :
    Calls Try.prog 41 #[v] w fun e w' => e = .returned (.tuple #[]) ∧ OwnR B w' v (srt xs) ∧ w.grownBy w' v.ownBlock := by
  rcases h.2 with ⟨rfl, h0⟩ | ⟨g, cap, cur, rfl, hg, hh, hnc, hcm, hs, ht⟩
  · have e : xs = [] := List.eq_nil_of_length_eq_zero h0
    subst e
    refine (AnyM.slices_Sort_int_none Try.sortL none 0 w).mono ?_
    rintro e w' ⟨rfl, rfl⟩
    refine ⟨rfl, ?_, ⟨rfl, rfl, rfl, Nat.le_refl _, fun _ _ _ => rfl⟩⟩
    rw [srt_small (by simp)]; exact h
  · have glt := (World.ownsRow.lt h g rfl).2
    have hH := holds_of_blockI hh (by simpa using ht)
    refine (AnyM.slices_Sort_int Try.sortL g 0 cap xs w hH glt (by omega)).mono ?_
    rintro e' w' ⟨rfl, n, os, rfl⟩
    have o2 := ownsRow_sortedI (base := B) (n := n) (os := os) (ss := xs) (ts := srt xs) (srt_len xs) hg hh hnc hcm hs
    have gr := grownBy_sortedI (w := w) (g := g) (n := n) (os := os) (srt xs).toArray
    refine ⟨rfl, ?_, gr⟩
    unfold OwnR
    rw [srt_len]; exact o2
theorem invKey : ∀ key kl, keyOf Try.prog 2 key = some kl → ∃ x : Int, key = .int .i64 x := fun key kl h => by
  obtain ⟨x, h1, _⟩ := Go.Maps.keyOf_int_inv Try.underlying2 h
  exact ⟨x, h1⟩
theorem invUnit : ∀ v y, unitElem (H := Unit) v = some y → ∃ c : Unit, v = .agg #[] := fun v y h => ⟨(), (unitElem_inv h).1⟩
theorem key_is {x : Int} {z : Lit} (h : keyOf Try.prog 2 (.int .i64 x) = some z) : z = kl x ∧ (Lit.int .i64 x).wf = true := by
  obtain ⟨y, h1, h2, h3⟩ := Go.Maps.keyOf_int_inv Try.underlying2 h
  injection h1 with _ h1
  subst h1
  exact ⟨h2, h3⟩
/-- What has been collected: the keys that are no longer to come, each once. -/
structure Col (S : List Int) (left : Lit → Bool) (L : List Int) : Prop where
  nodup : L.Nodup
  mem : ∀ x, x ∈ L ↔ x ∈ S ∧ left (kl x) = false
theorem same_kl (x y : Int) : Lit.sameKey (kl y) (kl x) = decide (y = x) := by
  by_cases e : y = x
  · subst e; simp [WideAt.sameKey_self (isKey_i64 y)]
  · simp [e, sameKey_ne (kl_ne e)]
theorem Col.start {D : DataW Unit} {S : List Int} (h : SetOf D S) : Col S (Maps.has D) [] :=
  ⟨List.nodup_nil, fun x => by rw [h.has]; simp⟩
theorem Col.step {S L : List Int} {left : Lit → Bool} {x : Int} (h : Col S left L) (hl : left (kl x) = true) (hx : x ∈ S) : Col S (fun z => left z && !z.sameKey (kl x)) (L ++ [x]) := by
  have nx : x ∉ L := fun q => by have := ((h.mem x).1 q).2; rw [hl] at this; cases this
  refine ⟨List.nodup_append.2 ⟨h.nodup, by simp, fun a ha b hb => ?_⟩, fun y => ?_⟩
  · rw [List.mem_singleton] at hb; subst hb; intro e; subst e; exact nx ha
  · rw [List.mem_append, h.mem, List.mem_singleton]
    show _ ↔ y ∈ S ∧ (left (kl y) && !Lit.sameKey (kl y) (kl x)) = false
    rw [same_kl]
    by_cases e : y = x
    · subst e; simp [hx]
    · simp [e]
theorem Col.skip {S L : List Int} {left : Lit → Bool} {x : Int} {p : Int → Bool} (h : ∀ y, y ∈ L ↔ (y ∈ S ∧ left (kl y) = false) ∧ p y = true) (n : p x = false) : ∀ y, y ∈ L ↔ (y ∈ S ∧ (left (kl y) && !Lit.sameKey (kl y) (kl x)) = false) ∧ p y = true := by
  intro y
  rw [h, same_kl]
  by_cases e : y = x
  · subst e; simp [n]
  · simp [e]
theorem Col.done {S L : List Int} {left : Lit → Bool} (h : Col S left L) (hl : ∀ z, left z = false) (up : S.Pairwise (· < ·)) : srt L = S := by
  have ns : S.Nodup := up.imp (fun {a b} q => by omega)
  have p : S.Perm L := (List.perm_ext_iff_of_nodup ns h.nodup).2 fun x => by rw [h.mem]; simp [hl]
  exact (srt_of p (up.imp (fun {a b} q => by omega))).symm
end Go.Proofs.Ytpkkcdbmhgmncaa
