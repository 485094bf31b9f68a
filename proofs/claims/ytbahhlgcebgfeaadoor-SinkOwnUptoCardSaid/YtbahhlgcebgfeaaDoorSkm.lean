/- sink: plain facts; a plan as it is read. -/
import Derived.Test.YtbahhlgcebgfeaaDoorSnk1
namespace Go.Proofs.YtbahhlgcebgfeaaDoor
set_option linter.unusedVariables false
set_option linter.unusedSimpArgs false
open Go.RowKit W
abbrev Ch := Int × Bool
/-- How many bytes a choice takes. -/
def tk (c : Int) (n : Nat) : Nat := min c.toNat n
theorem tk_le (c : Int) (n : Nat) : tk c n ≤ n := Nat.min_le_right _ _
theorem tk_low {c : Int} (n : Nat) (h : c ≤ 0) : tk c n = 0 := by unfold tk; omega
theorem tk_mid {c : Int} {n : Nat} (h : 0 ≤ c) (h2 : c ≤ n) : (tk c n : Int) = c := by unfold tk; omega
theorem tk_high {c : Int} {n : Nat} (h : (n : Int) ≤ c) : tk c n = n := by unfold tk; omega
/-- What a write of n bytes comes to: how many are taken, whether it fails, the plan behind it. -/
def wrF (p : List Ch) (n : Nat) : Nat × Bool × List Ch := match p with
  | [] => (n, false, [])
  | x :: r => (tk x.1 n, x.2, r)
theorem wrF_le (p : List Ch) (n : Nat) : (wrF p n).1 ≤ n := by
  cases p with
  | nil => exact Nat.le_refl _
  | cons x r => exact tk_le _ _
def IsCh (w : World) (a : Option Addr) (l : List Ch) : Prop := l = [] ∨ ∃ g o, a = some ⟨g, o, none⟩ ∧ g < w.heap.size ∧ ∀ j (h : j < l.length), w.cell? ⟨g, o + j * 2, none⟩ = some (.int .i64 l[j].1) ∧ w.cell? ⟨g, o + j * 2 + 1, none⟩ = some (.bool l[j].2)
theorem IsCh.chg {S : Nat → Prop} {w w' : World} {a : Option Addr} {l : List Ch} (h : IsCh w a l) (c : Chg S w w') (f : ∀ x, a = some x → ¬ S x.block) : IsCh w' a l := by
  rcases h with h | ⟨g, o, rfl, lt, h⟩
  · exact .inl h
  · exact .inr ⟨g, o, rfl, Nat.lt_of_lt_of_le lt c.size, fun j hj => ⟨(c.cell lt (f _ rfl)).trans (h j hj).1, (c.cell lt (f _ rfl)).trans (h j hj).2⟩⟩
theorem IsBytes.chg {S : Nat → Prop} {w w' : World} {a : Option Addr} {l : List UInt8} (h : IsBytes w a l) (c : Chg S w w') (f : ∀ x, a = some x → ¬ S x.block) : IsBytes w' a l := by
  rcases h with h | ⟨g, o, rfl, lt, h⟩
  · exact .inl h
  · exact .inr ⟨g, o, rfl, Nat.lt_of_lt_of_le lt c.size, fun j hj => (c.cell lt (f _ rfl)).trans (h j hj)⟩
theorem size_ch (w : World) : (Go.sizeOf (Tryd.prog.elem 22)).run Tryd.prog w = .ok 2 w := by kernel_rfl
/-- plan[0], plan[1:]. -/
theorem chs_tail {w : World} {a : Option Addr} {l : List Ch} {x : Ch} (h : IsCh w a (x :: l)) (c : Nat) (hc : l.length + 1 ≤ c) (h63 : c ≤ 9223372036854775807) :
    ∃ a2, (∀ v, (Instr.slice 22 (.slice a (l.length + 1) c) (some (.int .i64 1)) none none).run Tryd.prog v = .ok (.slice a2 l.length (c - 1)) v) ∧ IsCh w a2 l ∧ (∀ y, a2 = some y → ∃ z, a = some z ∧ z.block = y.block) := by
  refine ⟨if c = 1 then a else a.map (·.add (1 * 2)), fun v => ?_, ?_, ?_⟩
  · rw [run_slice_l (P := Tryd.prog) (w := v) 22 a (l.length + 1) c (by kernel_rfl) .i64 (1 : Int) (by omega) (by omega), size_ch]
    simp [Result.andThen, sliced]
  · rcases h with h | ⟨g, o, rfl, lt, h⟩
    · cases h
    · by_cases e : l = []
      · exact .inl e
      · have : 0 < l.length := by cases l; exact absurd rfl e; simp
        rw [if_neg (by omega)]
        refine .inr ⟨g, o + 2, by simp only [Option.map_some]; rw [Go.WideShapes.add_plain], lt, fun j hj => ?_⟩
        have := h (j + 1) (by simp; omega)
        rw [show o + (j + 1) * 2 = o + 2 + j * 2 from by omega] at this
        simpa using this
  · intro y hy
    split at hy
    · exact ⟨y, hy, rfl⟩
    · obtain ⟨z, hz, e⟩ := Option.map_eq_some_iff.1 hy
      exact ⟨z, hz, by rw [← e]; rfl⟩
theorem chs_head {w : World} {a : Option Addr} {l : List Ch} {x : Ch} (h : IsCh w a (x :: l)) : ∃ g o, a = some ⟨g, o, none⟩ ∧ g < w.heap.size ∧ w.cell? ⟨g, o, none⟩ = some (.int .i64 x.1) ∧ w.cell? ⟨g, o + 1, none⟩ = some (.bool x.2) := by
  rcases h with h | ⟨g, o, rfl, lt, h⟩
  · cases h
  · have := h 0 (by simp)
    simp at this
    exact ⟨g, o, rfl, lt, this.1, this.2⟩
/-- A sink in the midst of a call: its block, what it holds, what it reads. M: the blocks that may have changed since w. -/
structure Wk (B g : Nat) (w : World) (M : Nat → Prop) (W : World) (pa : Option Addr) (pc : Nat) (P : List Ch) (cv : Value) (hd : Bool) (last : Int) (wv lv : Value) (n : Int) (C : List CE) (wh lo : List Int) (ba : Option Addr) (bl : List UInt8) (ea : Addr) : Prop where
  sb : SB W g (.slice pa P.length pc) cv hd last wv lv n
  tl : Tl B W cv wv lv C wh lo
  ch : Chg M w W
  pl : IsCh W pa P
  pc : P.length ≤ pc ∧ pc ≤ 9223372036854775807
  bs : IsBytes W ba bl
  ef : W.cell? ⟨0, 0, none⟩ = some (EV ea)
  z : 0 < w.heap.size
  bg : B ≤ g
  b1 : 1 ≤ B
  bw : B ≤ w.heap.size
  pn : ∀ a, pa = some a → a.block ≠ g ∧ ¬ InT cv wv lv C a.block ∧ a.block < w.heap.size
  bn : ∀ a, ba = some a → a.block ≠ g ∧ ¬ InT cv wv lv C a.block ∧ a.block < w.heap.size
  mg : M g
  mi : ∀ k, InT cv wv lv C k → M k ∨ w.heap.size ≤ k
  pm : ∀ a, pa = some a → M a.block
section
variable {B g : Nat} {w W W' : World} {M : Nat → Prop} {pa : Option Addr} {pc : Nat} {P : List Ch} {cv : Value} {hd : Bool} {last : Int} {wv lv : Value} {n : Int} {C : List CE} {wh lo : List Int} {ba : Option Addr} {bl : List UInt8} {ea : Addr}
theorem Wk.later (h : Wk B g w M W pa pc P cv hd last wv lv n C wh lo ba bl ea) (b : Below W.heap.size W W') : Wk B g w M W' pa pc P cv hd last wv lv n C wh lo ba bl ea :=
  have c : Chg (fun _ => False) W W' := Chg.of_below b
  ⟨h.sb.chg c (fun q => q), h.tl.later b, h.ch.trans c (fun _ _ q => q.elim), h.pl.chg c (fun _ _ q => q), h.pc, h.bs.chg c (fun _ _ q => q), (c.cell (Nat.lt_of_lt_of_le h.z h.ch.size) (fun q => q)).trans h.ef, h.z, h.bg, h.b1, h.bw, h.pn, h.bn, h.mg, h.mi, h.pm⟩
theorem Wk.ne0 (h : Wk B g w M W pa pc P cv hd last wv lv n C wh lo ba bl ea) : g ≠ 0 ∧ ∀ k, InT cv wv lv C k → k ≠ 0 := by
  have := h.bg
  have := h.b1
  exact ⟨by omega, fun k i => by have := (h.tl.old i).1; omega⟩
theorem Wk.notg (h : Wk B g w M W pa pc P cv hd last wv lv n C wh lo ba bl ea) {k : Nat} (i : InT cv wv lv C k) : k ≠ g := h.tl.no h.sb (by decide) (by decide) (by decide) i
/-- The block of the sink is written. -/
theorem Wk.blk (h : Wk B g w M W pa pc P cv hd last wv lv n C wh lo ba bl ea) {i : Nat} {v : Value} {hd' : Bool} {last' n' : Int} (s : SB (W.setCell ⟨g, i, none⟩ v) g (.slice pa P.length pc) cv hd' last' wv lv n') : Wk B g w M (W.setCell ⟨g, i, none⟩ v) pa pc P cv hd' last' wv lv n' C wh lo ba bl ea :=
  have c : Chg (· = g) W (W.setCell ⟨g, i, none⟩ v) := Chg.set _ rfl
  ⟨s, h.tl.chg c (fun k q e => h.notg q e), h.ch.trans c (fun j _ e => e ▸ h.mg), h.pl.chg c (fun a e => (h.pn a e).1), h.pc, h.bs.chg c (fun a e => (h.bn a e).1), (c.cell (Nat.lt_of_lt_of_le h.z h.ch.size) (fun e => h.ne0.1 e.symm)).trans h.ef, h.z, h.bg, h.b1, h.bw, h.pn, h.bn, h.mg, h.mi, h.pm⟩
theorem Wk.count (h : Wk B g w M W pa pc P cv hd last wv lv n C wh lo ba bl ea) (t : Int) : Wk B g w M (W.setCell ⟨g, 7, none⟩ (.int .i64 t)) pa pc P cv hd last wv lv t C wh lo ba bl ea := h.blk (h.sb.set.2.2.2.2.2.2 t)
theorem Wk.hand (h : Wk B g w M W pa pc P cv hd last wv lv n C wh lo ba bl ea) (id : Int) : Wk B g w M ((W.setCell ⟨g, 3, none⟩ (.bool true)).setCell ⟨g, 4, none⟩ (.int .i64 id)) pa pc P cv true id wv lv n C wh lo ba bl ea :=
  have h1 := h.blk (h.sb.set.2.2.1 true)
  h1.blk (h1.sb.set.2.2.2.1 id)
/-- A box of the call's own is written. -/
theorem Wk.box (h : Wk B g w M W pa pc P cv hd last wv lv n C wh lo ba bl ea) {b i : Nat} {v : Value} (hb : w.heap.size ≤ b) (hg : g < b) (hi : ∀ k, InT cv wv lv C k → k < b) : Wk B g w M (W.setCell ⟨b, i, none⟩ v) pa pc P cv hd last wv lv n C wh lo ba bl ea :=
  have c : Chg (· = b) W (W.setCell ⟨b, i, none⟩ v) := Chg.set _ rfl
  ⟨h.sb.chg c (Nat.ne_of_lt hg), h.tl.chg c (fun k q e => by have := hi k q; omega), h.ch.trans c (fun j lt e => by omega), h.pl.chg c (fun a e q => by have := (h.pn a e).2.2; omega), h.pc, h.bs.chg c (fun a e q => by have := (h.bn a e).2.2; omega), (c.cell (Nat.lt_of_lt_of_le h.z h.ch.size) (fun e => by have := h.z; omega)).trans h.ef, h.z, h.bg, h.b1, h.bw, h.pn, h.bn, h.mg, h.mi, h.pm⟩
/-- The plan's first choice is gone. -/
theorem Wk.plan {x : Ch} {a2 : Option Addr} {c2 : Nat} (h : Wk B g w M W pa pc (x :: P) cv hd last wv lv n C wh lo ba bl ea) (i : IsCh W a2 P) (hc : P.length ≤ c2 ∧ c2 ≤ 9223372036854775807) (hb : ∀ y, a2 = some y → ∃ z, pa = some z ∧ z.block = y.block) : Wk B g w M (W.setCell ⟨g, 1, none⟩ (.slice a2 P.length c2)) a2 c2 P cv hd last wv lv n C wh lo ba bl ea := by
  have c : Chg (· = g) W (W.setCell ⟨g, 1, none⟩ (.slice a2 P.length c2)) := Chg.set _ rfl
  have pn2 : ∀ a, a2 = some a → a.block ≠ g ∧ ¬ InT cv wv lv C a.block ∧ a.block < w.heap.size := fun a e => by
    obtain ⟨z, hz, q⟩ := hb a e
    rw [← q]; exact h.pn z hz
  exact ⟨h.sb.set.1 _, h.tl.chg c (fun k q e => h.notg q e), h.ch.trans c (fun j _ e => e ▸ h.mg), i.chg c (fun a e => (pn2 a e).1), hc, h.bs.chg c (fun a e => (h.bn a e).1), (c.cell (Nat.lt_of_lt_of_le h.z h.ch.size) (fun e => h.ne0.1 e.symm)).trans h.ef, h.z, h.bg, h.b1, h.bw, pn2, h.bn, h.mg, h.mi, fun a e => by obtain ⟨z, hz, q⟩ := hb a e; rw [← q]; exact h.pm z hz⟩
/-- What it holds has changed. -/
theorem Wk.held (h : Wk B g w M W pa pc P cv hd last wv lv n C wh lo ba bl ea) {S : Nat → Prop} {C' : List CE} {wh' lo' : List Int} {cv' wv' lv' : Value} (t : Tl B W' cv' wv' lv' C' wh' lo') (c : Chg S W W') (f : ∀ k, S k → InT cv wv lv C k) (ni : ∀ k, InT cv' wv' lv' C' k → InT cv wv lv C k ∨ W.heap.size ≤ k) (s : SB W' g (.slice pa P.length pc) cv' hd last wv' lv' n) : Wk B g w M W' pa pc P cv' hd last wv' lv' n C' wh' lo' ba bl ea := by
  have up : ∀ k, InT cv' wv' lv' C' k → k < w.heap.size → InT cv wv lv C k := fun k i lt => by
    rcases ni k i with q | q
    · exact q
    · have := h.ch.size; omega
  refine ⟨s, t, h.ch.trans c (fun j lt q => ?_), h.pl.chg c (fun a e q => (h.pn a e).2.1 (f _ q)), h.pc, h.bs.chg c (fun a e q => (h.bn a e).2.1 (f _ q)), (c.cell (Nat.lt_of_lt_of_le h.z h.ch.size) (fun q => h.ne0.2 _ (f _ q) rfl)).trans h.ef, h.z, h.bg, h.b1, h.bw, fun a e => ⟨(h.pn a e).1, fun i => (h.pn a e).2.1 (up _ i (h.pn a e).2.2), (h.pn a e).2.2⟩, fun a e => ⟨(h.bn a e).1, fun i => (h.bn a e).2.1 (up _ i (h.bn a e).2.2), (h.bn a e).2.2⟩, h.mg, fun k i => ?_, h.pm⟩
  · rcases h.mi j (f j q) with m | m
    · exact m
    · omega
  · rcases ni k i with q | q
    · exact h.mi k q
    · exact .inr (Nat.le_trans h.ch.size q)
end
end Go.Proofs.YtbahhlgcebgfeaaDoor
