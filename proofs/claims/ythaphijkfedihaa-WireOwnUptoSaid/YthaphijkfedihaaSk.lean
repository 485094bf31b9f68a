/- wire: streams: NewStream, keep, Lost, End. (gen_sk.py) -/
import Derived.Test.YthaphijkfedihaaPk
import Derived.Deep.QuietTactic
import Derived.BigQuiet
import Derived.Maps.AppendAt
import Derived.Laws.AppendOwnNone
namespace Go.Proofs.Ythaphijkfedihaa
set_option linter.unusedVariables false
set_option linter.unusedSimpArgs false
open Go.RowKit W
/-- Only old blocks of S have changed. -/
structure Chg (S : Nat → Prop) (a b : World) : Prop where
  os : b.os = a.os
  tape : b.tape = a.tape
  output : b.output = a.output
  size : a.heap.size ≤ b.heap.size
  block : ∀ k, k < a.heap.size → ¬ S k → b.heap[k]? = a.heap[k]?
theorem Chg.refl (S : Nat → Prop) (a : World) : Chg S a a := ⟨rfl, rfl, rfl, Nat.le_refl _, fun _ _ _ => rfl⟩
theorem Chg.trans {S S' : Nat → Prop} {a b c : World} (h : Chg S a b) (k : Chg S' b c) (f : ∀ j, j < a.heap.size → S' j → S j) : Chg S a c :=
  ⟨k.os.trans h.os, k.tape.trans h.tape, k.output.trans h.output, Nat.le_trans h.size k.size, fun j hj hS => by
    rw [k.block j (Nat.lt_of_lt_of_le hj h.size) (fun q => hS (f j hj q)), h.block j hj hS]⟩
theorem Chg.of_below {S : Nat → Prop} {a b : World} (h : Below a.heap.size a b) : Chg S a b := ⟨h.os, h.tape, h.output, h.size, fun k hk _ => h.block k hk⟩
theorem Chg.below {S : Nat → Prop} {B : Nat} {a b : World} (h : Chg S a b) (hS : ∀ k, S k → B ≤ k) (hB : B ≤ a.heap.size) : Below B a b :=
  ⟨h.os, h.tape, h.output, h.size, fun k hk => h.block k (Nat.lt_of_lt_of_le hk hB) (fun q => by have := hS k q; omega)⟩
theorem Chg.set {S : Nat → Prop} {a : World} {g i : Nat} (u : Value) (h : S g) : Chg S a (a.setCell ⟨g, i, none⟩ u) :=
  ⟨rfl, rfl, rfl, by simp, fun k hk hS => Below.heap_setCell a ⟨g, i, none⟩ u k (fun e => hS (e ▸ h))⟩
theorem Chg.grown {S : Nat → Prop} {a b : World} {row : Option Nat} (h : a.grownBy b row) (f : ∀ k, row = some k → S k) : Chg S a b :=
  ⟨h.os, h.tape, h.output, h.size, fun k hk hS => h.block k hk (fun e => hS (f k e.symm))⟩
theorem chg_row {S : Nat → Prop} {a b : World} {base n e : Nat} {v : Value} {xs : List Value} (h : a.ownsRow base e 1 v n xs) (c : Chg S a b) (f : ∀ k, v.ownBlock = some k → ¬ S k) : b.ownsRow base e 1 v n xs := by
  refine ⟨h.1, h.2.imp id ?_⟩
  rintro ⟨g, cap, cur, rfl, hb, hh, r⟩
  exact ⟨g, cap, cur, rfl, hb, (c.block g (blk_lt hh) (f g rfl)).trans hh, r⟩
/-- A stream that NewStream made: what has come behind the last line end, how many lines were lost. -/
structure SkV (B : Nat) (w : World) (g lim : Nat) (v : Value) (t : List UInt8) (lost : Int) : Prop where
  blk : w.heap[g]? = some (.cells #[.pointer (some ⟨g, 0, none⟩), .int .i64 lim, v, .bool (decide (lim + 1 < t.length)), .int .i64 lost] 65 (0, 0))
  own : w.ownsRow B 5 1 v (t.take (lim + 1)).length (rowB (t.take (lim + 1)))
  le : B ≤ g
section
variable {B g lim : Nat} {w w' : World} {v v' : Value} {t t' : List UInt8} {lost : Int}
theorem SkV.cell (h : SkV B w g lim v t lost) : w.cell? ⟨g, 0, none⟩ = some (.pointer (some ⟨g, 0, none⟩)) ∧ w.cell? ⟨g, 1, none⟩ = some (.int .i64 lim) ∧ w.cell? ⟨g, 2, none⟩ = some v ∧ w.cell? ⟨g, 3, none⟩ = some (.bool (decide (lim + 1 < t.length))) ∧ w.cell? ⟨g, 4, none⟩ = some (.int .i64 lost) ∧ (∀ i, w.frozen? ⟨g, i, none⟩ = false) ∧ g < w.heap.size :=
  ⟨by simp [World.cell?, h.blk], by simp [World.cell?, h.blk], by simp [World.cell?, h.blk], by simp [World.cell?, h.blk], by simp [World.cell?, h.blk], fun i => by simp [World.frozen?, h.blk], blk_lt h.blk⟩
theorem SkV.apart (h : SkV B w g lim v t lost) : v.ownBlock ≠ some g := by
  intro q
  obtain ⟨_, cs, hc⟩ := own_blk h.own q
  rw [h.blk] at hc
  injection hc with hc
  injection hc with _ hc
  exact absurd hc (by decide)
theorem SkV.chg {S : Nat → Prop} (h : SkV B w g lim v t lost) (c : Chg S w w') (h1 : ¬ S g) (h2 : ∀ k, v.ownBlock = some k → ¬ S k) : SkV B w' g lim v t lost :=
  ⟨(c.block g (blk_lt h.blk) h1).trans h.blk, chg_row h.own c h2, h.le⟩
theorem SkV.later (h : SkV B w g lim v t lost) (b : Below w.heap.size w w') : SkV B w' g lim v t lost := h.chg (Chg.of_below (S := fun _ => False) b) (fun q => q) (fun _ _ q => q)
end
/-- What a call on a stream may change. -/
abbrev Sg (g : Nat) (v : Value) : Nat → Prop := fun k => k = g ∨ v.ownBlock = some k
/-- The new row is the old one or a new block. -/
def NewOr (w : World) (v v' : Value) : Prop := v'.ownBlock = v.ownBlock ∨ ∀ k, v'.ownBlock = some k → w.heap.size ≤ k
theorem info_st : (Try.prog.info? 65).map (fun i => (i.zero.isSome, i.size)) = some (true, 5) := by kernel_rfl
theorem ptr_same_st (a : Option Addr) (w : World) : (binOp .eql 46 (.pointer a) (.pointer a)).run Try.prog w = .ok (.bool true) w := by
  cases a with
  | none => kernel_rfl
  | some a =>
    obtain ⟨j, hj, _⟩ := Option.map_eq_some_iff.1 info_st
    exact run_eql_ptr_same w a Try.underlying46 hj
theorem smade (B g lim : Nat) (v : Value) (t : List UInt8) (lost : Int) (w : World) (h : SkV B w g lim v t lost) : CalcN 29 #[.pointer (some ⟨g, 0, none⟩)] w (.bool true) := by
  obtain ⟨c0, _⟩ := h.cell
  have q := ptr_same_st (some ⟨g, 0, none⟩)
  clear h
  go_enter Try.func29, Try.ntmps29
  go_wp2
  go_returns
  exact ⟨rfl, rfl⟩
def NewSk (lim : Nat) (w : World) (e : Ending) (w' : World) : Prop := ∃ g, e = .returned (.tuple #[.pointer (some ⟨g, 0, none⟩), .int .i64 0]) ∧ SkV w.heap.size w' g lim (.slice none 0 0) [] 0 ∧ Below w.heap.size w w'
theorem news_ok (lim : Nat) (h1 : 1 ≤ lim) (h2 : lim ≤ 1024) (w : World) : Calls Try.prog 17 #[.int .i64 lim] w (NewSk lim w) := by
  have a1 : ¬ (lim : Int) < 1 := by omega
  have a2 : ¬ (1024 : Int) < lim := by omega
  have FB : Hid (decide (lim + 1 < ([] : List UInt8).length) = false) := decide_eq_false (by simp)
  go_enter Try.func17, Try.ntmps17
  go_wp2
  go_returns
  refine ⟨w.heap.size, rfl, ⟨?_, ⟨by simp [rowB], .inl ⟨rfl, by simp⟩⟩, Nat.le_refl _⟩, by go_grown⟩
  rw [FB.out]
  exact heap_alloc_new w _
theorem news_bad (n : Int) (h : n < 1 ∨ 1024 < n) (w : World) : CalcN 17 #[.int .i64 n] w (.tuple #[.pointer none, .int .i64 50]) := by
  rcases h with h | h
  · go_enter Try.func17, Try.ntmps17
    go_wp2
    go_returns
    exact ⟨rfl, rfl⟩
  · go_enter Try.func17, Try.ntmps17
    go_wp2
    go_returns
    exact ⟨rfl, rfl⟩
theorem slost_spec (B g lim : Nat) (v : Value) (t : List UInt8) (lost : Int) (w : World) (h : SkV B w g lim v t lost) : CalcN 22 #[.pointer (some ⟨g, 0, none⟩)] w (.int .i64 lost) := by
  have k := smade B g lim v t lost w h
  obtain ⟨_, _, _, _, c4, _⟩ := h.cell
  clear h
  go_enter Try.func22, Try.ntmps22
  go_wp2_with (go_at_call 29; refine k.mono ?_; rintro e w1 ⟨rfl, rfl⟩)
  go_returns
  exact ⟨rfl, rfl⟩
theorem own_bytes {w : World} {B : Nat} {v : Value} {l : List UInt8} (h : w.ownsRow B 5 1 v l.length (rowB l)) : ∃ a c, v = .slice a l.length c ∧ l.length ≤ c ∧ (a = none → l.length = 0 ∧ c = 0) ∧ IsBytes w a l := by
  obtain ⟨A, c, rfl, h1, h2⟩ := own_form h
  refine ⟨A, c, rfl, h1, h2, ?_⟩
  by_cases z : l = []
  · exact .inl z
  · have hp : 0 < l.length := by cases l; exact absurd rfl z; simp
    obtain ⟨g, hg⟩ : ∃ g, A = some ⟨g, 0, none⟩ := by
      rcases h.2 with ⟨e, e2⟩ | ⟨g, cap, cur, e, _⟩
      · omega
      · injection e with e; exact ⟨g, e⟩
    subst hg
    refine .inr ⟨g, 0, rfl, (h.lt g rfl).2, fun j hj => ?_⟩
    have := h.cells (g := g) rfl j (.int .u8 (l[j].toNat : Int)) (by simp [rowB, hj])
    rw [Go.WideShapes.add_plain] at this
    exact this
theorem sendt_spec (B g lim : Nat) (v : Value) (t : List UInt8) (lost : Int) (w : World) (h : SkV B w g lim v t lost) : Calls Try.prog 23 #[.pointer (some ⟨g, 0, none⟩)] w (TextPost (t.take (lim + 1)) w) := by
  have k := smade B g lim v t lost w h
  obtain ⟨a, c, rfl, _, _, ib⟩ := own_bytes h.own
  obtain ⟨_, _, c2, _⟩ := h.cell
  obtain ⟨x, hx, cv⟩ := bytes_text0 ib c
  have cv1 := cv w (Below.refl _ _)
  have F : Hid (TextPost (t.take (lim + 1)) w (.returned (.string x)) w) := ⟨x, rfl, hx, rfl⟩
  generalize (t.take (lim + 1)).length = n at *
  clear h ib hx cv
  go_enter Try.func23, Try.ntmps23
  go_wp2_with (go_at_call 29; refine k.mono ?_; rintro e w1 ⟨rfl, rfl⟩)
  go_returns
  exact F.out
/-- Behind a call: the stream as it stands, what has changed. -/
def KeepPost (B g lim : Nat) (v : Value) (t' : List UInt8) (lost : Int) (w : World) (e : Ending) (w' : World) : Prop :=
  e = .returned (.tuple #[]) ∧ ∃ v', SkV B w' g lim v' t' lost ∧ Chg (Sg g v) w w' ∧ NewOr w v v'
end Go.Proofs.Ythaphijkfedihaa
