/- sink: the reference's block, in the midst of a call. -/
import Derived.Test.YtbahhlgcebgfeaaDoorSnk5
namespace Go.Proofs.YtbahhlgcebgfeaaDoor
set_option linter.unusedVariables false
set_option linter.unusedSimpArgs false
open Go.RowKit W
theorem IsCh.chgn {S : Nat → Prop} {w w' : World} {a : Option Addr} {l : List Ch} (h : IsCh w a l) (c : Chg S w w') (f : l ≠ [] → ∀ x, a = some x → ¬ S x.block) : IsCh w' a l := by
  by_cases e : l = []
  · exact .inl e
  · exact h.chg c (f e)
/-- The block of a reference's sink. -/
def RB (w : World) (g : Nat) (pv cv : Value) (hd : Bool) (last : Int) (wv lv : Value) (n : Int) : Prop :=
  w.heap[g]? = some (.cells #[pv, cv, wv, lv, .int .i64 n, .int .i64 last, .bool hd] 41 (0, 0))
theorem RB.cells {w : World} {g : Nat} {pv cv wv lv : Value} {hd : Bool} {last n : Int} (h : RB w g pv cv hd last wv lv n) :
    w.cell? ⟨g, 0, none⟩ = some pv ∧ w.cell? ⟨g, 1, none⟩ = some cv ∧ w.cell? ⟨g, 6, none⟩ = some (.bool hd) ∧ w.cell? ⟨g, 5, none⟩ = some (.int .i64 last) ∧ w.cell? ⟨g, 2, none⟩ = some wv ∧ w.cell? ⟨g, 3, none⟩ = some lv ∧ w.cell? ⟨g, 4, none⟩ = some (.int .i64 n) ∧ (∀ i, w.frozen? ⟨g, i, none⟩ = false) ∧ g < w.heap.size := by
  unfold RB at h
  refine ⟨?_, ?_, ?_, ?_, ?_, ?_, ?_, fun i => ?_, blk_lt h⟩
  all_goals simp [World.cell?, World.frozen?, h]
theorem RB.chg {w w' : World} {g : Nat} {pv cv wv lv : Value} {hd : Bool} {last n : Int} (h : RB w g pv cv hd last wv lv n) {S : Nat → Prop} (c : Chg S w w') (f : ¬ S g) : RB w' g pv cv hd last wv lv n := (c.block g (blk_lt h) f).trans h
theorem RB.set {w : World} {g : Nat} {pv cv wv lv : Value} {hd : Bool} {last n : Int} (h : RB w g pv cv hd last wv lv n) :
    (∀ v, RB (w.setCell ⟨g, 0, none⟩ v) g v cv hd last wv lv n) ∧ (∀ v, RB (w.setCell ⟨g, 1, none⟩ v) g pv v hd last wv lv n) ∧ (∀ b, RB (w.setCell ⟨g, 6, none⟩ (.bool b)) g pv cv b last wv lv n) ∧ (∀ t, RB (w.setCell ⟨g, 5, none⟩ (.int .i64 t)) g pv cv hd t wv lv n) ∧ (∀ v, RB (w.setCell ⟨g, 2, none⟩ v) g pv cv hd last v lv n) ∧ (∀ v, RB (w.setCell ⟨g, 3, none⟩ v) g pv cv hd last wv v n) ∧ (∀ t, RB (w.setCell ⟨g, 4, none⟩ (.int .i64 t)) g pv cv hd last wv lv t) := by
  unfold RB at *
  refine ⟨fun v => ?_, fun v => ?_, fun v => ?_, fun v => ?_, fun v => ?_, fun v => ?_, fun v => ?_⟩
  all_goals simp [World.setCell, Array.getElem?_modify, h]
/-- A sink in the midst of a call: its block, what it holds, what it reads. M: the blocks that may have changed since w. -/
structure Rk (B g : Nat) (w : World) (M : Nat → Prop) (W : World) (pa : Option Addr) (pc : Nat) (P : List Ch) (cv : Value) (hd : Bool) (last : Int) (wv lv : Value) (n : Int) (C : List CE) (wh lo : List Int) (ba : Option Addr) (bl : List UInt8) (ea : Addr) : Prop where
  sb : RB W g (.slice pa P.length pc) cv hd last wv lv n
  tl : Tl B W cv wv lv C wh lo
  ch : Chg M w W
  pl : IsCh W pa P
  pc : True
  bs : IsBytes W ba bl
  ef : W.cell? ⟨0, 0, none⟩ = some (EV ea)
  z : 0 < w.heap.size
  bg : B ≤ g
  b1 : 1 ≤ B
  bw : B ≤ w.heap.size
  pn : P ≠ [] → ∀ a, pa = some a → a.block ≠ g ∧ ¬ InT cv wv lv C a.block ∧ a.block < w.heap.size
  bn : ∀ a, ba = some a → a.block ≠ g ∧ ¬ InT cv wv lv C a.block ∧ a.block < w.heap.size
  mg : M g
  mi : ∀ k, InT cv wv lv C k → M k ∨ w.heap.size ≤ k
section
variable {B g : Nat} {w W W' W1 : World} {M : Nat → Prop} {pa : Option Addr} {pc : Nat} {P : List Ch} {cv : Value} {hd : Bool} {last : Int} {wv lv : Value} {n : Int} {C : List CE} {wh lo : List Int} {ba : Option Addr} {bl : List UInt8} {ea : Addr}
theorem Rk.later (h : Rk B g w M W pa pc P cv hd last wv lv n C wh lo ba bl ea) (b : Below W.heap.size W W') : Rk B g w M W' pa pc P cv hd last wv lv n C wh lo ba bl ea :=
  have c : Chg (fun _ => False) W W' := Chg.of_below b
  ⟨h.sb.chg c (fun q => q), h.tl.later b, h.ch.trans c (fun _ _ q => q.elim), h.pl.chgn c (fun _ _ _ q => q), h.pc, h.bs.chg c (fun _ _ q => q), (c.cell (Nat.lt_of_lt_of_le h.z h.ch.size) (fun q => q)).trans h.ef, h.z, h.bg, h.b1, h.bw, h.pn, h.bn, h.mg, h.mi⟩
theorem Rk.ne0 (h : Rk B g w M W pa pc P cv hd last wv lv n C wh lo ba bl ea) : g ≠ 0 ∧ ∀ k, InT cv wv lv C k → k ≠ 0 := by
  have := h.bg
  have := h.b1
  exact ⟨by omega, fun k i => by have := (h.tl.old i).1; omega⟩
theorem Rk.notg (h : Rk B g w M W pa pc P cv hd last wv lv n C wh lo ba bl ea) {k : Nat} (i : InT cv wv lv C k) : k ≠ g := h.tl.no h.sb (by decide) (by decide) (by decide) i
/-- The block of the sink is written. -/
theorem Rk.blk (h : Rk B g w M W pa pc P cv hd last wv lv n C wh lo ba bl ea) {i : Nat} {v : Value} {hd' : Bool} {last' n' : Int} (s : RB (W.setCell ⟨g, i, none⟩ v) g (.slice pa P.length pc) cv hd' last' wv lv n') : Rk B g w M (W.setCell ⟨g, i, none⟩ v) pa pc P cv hd' last' wv lv n' C wh lo ba bl ea :=
  have c : Chg (· = g) W (W.setCell ⟨g, i, none⟩ v) := Chg.set _ rfl
  ⟨s, h.tl.chg c (fun k q e => h.notg q e), h.ch.trans c (fun j _ e => e ▸ h.mg), h.pl.chgn c (fun ne a e => (h.pn ne a e).1), h.pc, h.bs.chg c (fun a e => (h.bn a e).1), (c.cell (Nat.lt_of_lt_of_le h.z h.ch.size) (fun e => h.ne0.1 e.symm)).trans h.ef, h.z, h.bg, h.b1, h.bw, h.pn, h.bn, h.mg, h.mi⟩
theorem Rk.count (h : Rk B g w M W pa pc P cv hd last wv lv n C wh lo ba bl ea) (t : Int) : Rk B g w M (W.setCell ⟨g, 4, none⟩ (.int .i64 t)) pa pc P cv hd last wv lv t C wh lo ba bl ea := h.blk (h.sb.set.2.2.2.2.2.2 t)
theorem Rk.hand (h : Rk B g w M W pa pc P cv hd last wv lv n C wh lo ba bl ea) (id : Int) : Rk B g w M ((W.setCell ⟨g, 6, none⟩ (.bool true)).setCell ⟨g, 5, none⟩ (.int .i64 id)) pa pc P cv true id wv lv n C wh lo ba bl ea :=
  have h1 := h.blk (h.sb.set.2.2.1 true)
  h1.blk (h1.sb.set.2.2.2.1 id)
/-- A box of the call's own is written. -/
theorem Rk.box (h : Rk B g w M W pa pc P cv hd last wv lv n C wh lo ba bl ea) {b i : Nat} {v : Value} (hb : w.heap.size ≤ b) (hg : g < b) (hi : ∀ k, InT cv wv lv C k → k < b) : Rk B g w M (W.setCell ⟨b, i, none⟩ v) pa pc P cv hd last wv lv n C wh lo ba bl ea :=
  have c : Chg (· = b) W (W.setCell ⟨b, i, none⟩ v) := Chg.set _ rfl
  ⟨h.sb.chg c (Nat.ne_of_lt hg), h.tl.chg c (fun k q e => by have := hi k q; omega), h.ch.trans c (fun j lt e => by omega), h.pl.chgn c (fun ne a e q => by have := (h.pn ne a e).2.2; omega), h.pc, h.bs.chg c (fun a e q => by have := (h.bn a e).2.2; omega), (c.cell (Nat.lt_of_lt_of_le h.z h.ch.size) (fun e => by have := h.z; omega)).trans h.ef, h.z, h.bg, h.b1, h.bw, h.pn, h.bn, h.mg, h.mi⟩
/-- What it holds has changed. -/
theorem Rk.held (h : Rk B g w M W pa pc P cv hd last wv lv n C wh lo ba bl ea) {S : Nat → Prop} {C' : List CE} {wh' lo' : List Int} {cv' wv' lv' : Value} (t : Tl B W' cv' wv' lv' C' wh' lo') (c : Chg S W W') (f : ∀ k, S k → InT cv wv lv C k) (ni : ∀ k, InT cv' wv' lv' C' k → InT cv wv lv C k ∨ W.heap.size ≤ k) (s : RB W' g (.slice pa P.length pc) cv' hd last wv' lv' n) : Rk B g w M W' pa pc P cv' hd last wv' lv' n C' wh' lo' ba bl ea := by
  have up : ∀ k, InT cv' wv' lv' C' k → k < w.heap.size → InT cv wv lv C k := fun k i lt => by
    rcases ni k i with q | q
    · exact q
    · have := h.ch.size; omega
  refine ⟨s, t, h.ch.trans c (fun j lt q => ?_), h.pl.chgn c (fun ne a e q => (h.pn ne a e).2.1 (f _ q)), h.pc, h.bs.chg c (fun a e q => (h.bn a e).2.1 (f _ q)), (c.cell (Nat.lt_of_lt_of_le h.z h.ch.size) (fun q => h.ne0.2 _ (f _ q) rfl)).trans h.ef, h.z, h.bg, h.b1, h.bw, fun ne a e => ⟨(h.pn ne a e).1, fun i => (h.pn ne a e).2.1 (up _ i (h.pn ne a e).2.2), (h.pn ne a e).2.2⟩, fun a e => ⟨(h.bn a e).1, fun i => (h.bn a e).2.1 (up _ i (h.bn a e).2.2), (h.bn a e).2.2⟩, h.mg, fun k i => ?_⟩
  · rcases h.mi j (f j q) with m | m
    · exact m
    · omega
  · rcases ni k i with q | q
    · exact h.mi k q
    · exact .inr (Nat.le_trans h.ch.size q)
/-- The last connection has more bytes. -/
theorem Rk.more {D : List CE} {x : CE} {gc cap : Nat} (h : Rk B g w M W pa pc P (.slice (some ⟨gc, 0, none⟩) (D.length + 1) cap) hd last wv lv n (D ++ [x]) wh lo ba bl ea) {v : Value} {l : List UInt8} {w1 : World} (o : w1.ownsRow B 5 1 v l.length (rowB l)) (gr : W.grownBy w1 x.1.ownBlock) (mv : v.ownBlock = x.1.ownBlock ∨ v.ownBlock = some W.heap.size) :
    Rk B g w M (w1.setCell ⟨gc, D.length * 2, none⟩ v) pa pc P (.slice (some ⟨gc, 0, none⟩) (D.length + 1) cap) hd last wv lv n (D ++ [(v, l, x.2.2)]) wh lo ba bl ea := by
  obtain ⟨t, c⟩ := h.tl.more o gr mv
  have hx : x ∈ D ++ [x] := List.mem_append_right _ List.mem_cons_self
  have f : ∀ k, (k = gc ∨ x.1.ownBlock = some k) → InT (.slice (some ⟨gc, 0, none⟩) (D.length + 1) cap) wv lv (D ++ [x]) k := fun k q => by
    rcases q with q | q
    · exact .inl (by rw [q]; rfl)
    · exact .inr (.inl ⟨x, hx, q⟩)
  refine h.held t c f (fun k i => ?_) (h.sb.chg c (fun q => h.notg (f _ q) rfl))
  rcases i with i | ⟨y, hy, i⟩ | i
  · exact .inl (.inl i)
  · rcases List.mem_append.1 hy with hy | hy
    · exact .inl (.inr (.inl ⟨y, List.mem_append_left _ hy, i⟩))
    · rw [List.mem_singleton] at hy; subst hy
      rcases mv with q | q
      · exact .inl (.inr (.inl ⟨x, hx, q ▸ i⟩))
      · have e : v.ownBlock = some k := i
        rw [q] at e; injection e with e
        exact .inr (Nat.le_of_eq e)
  · exact .inl (.inr (.inr i))
theorem Rk.fail {D : List CE} {x : CE} {gc cap : Nat} (h : Rk B g w M W pa pc P (.slice (some ⟨gc, 0, none⟩) (D.length + 1) cap) hd last wv lv n (D ++ [x]) wh lo ba bl ea) :
    Rk B g w M (W.setCell ⟨gc, D.length * 2 + 1, none⟩ (.bool true)) pa pc P (.slice (some ⟨gc, 0, none⟩) (D.length + 1) cap) hd last wv lv n (D ++ [(x.1, x.2.1, true)]) wh lo ba bl ea := by
  obtain ⟨t, c⟩ := h.tl.fail
  have f : ∀ k, k = gc → InT (.slice (some ⟨gc, 0, none⟩) (D.length + 1) cap) wv lv (D ++ [x]) k := fun k q => .inl (by rw [q]; rfl)
  exact h.held t c f (fun k i => .inl (InT.of_set (x := x) (y := (x.1, x.2.1, true)) rfl i)) (h.sb.chg c (fun q => h.notg (f _ q) rfl))
/-- The bytes go on behind some. -/
theorem Rk.off (h : Rk B g w M W pa pc P cv hd last wv lv n C wh lo ba bl ea) {a2 : Option Addr} {l2 : List UInt8} (i : IsBytes W a2 l2) (hb : ∀ y, a2 = some y → ∃ z, ba = some z ∧ z.block = y.block) : Rk B g w M W pa pc P cv hd last wv lv n C wh lo a2 l2 ea :=
  ⟨h.sb, h.tl, h.ch, h.pl, h.pc, i, h.ef, h.z, h.bg, h.b1, h.bw, h.pn, fun a e => by
    obtain ⟨z, hz, q⟩ := hb a e
    rw [← q]; exact h.bn z hz, h.mg, h.mi⟩
/-- A new connection, laid into the sink's block. -/
theorem Rk.conn (h : Rk B g w M W pa pc P cv hd last wv lv n C wh lo ba bl ea) {v : Value} {w1 : World} (o : w1.ownsRow B 53 2 v (C.length + 1) (rowC C ++ [.slice none 0 0, .bool false])) (gr : W.grownBy w1 cv.ownBlock) (mv : v.ownBlock = cv.ownBlock ∨ v.ownBlock = some W.heap.size) :
    Rk B g w M (w1.setCell ⟨g, 1, none⟩ v) pa pc P v hd last wv lv n (C ++ [(.slice none 0 0, [], false)]) wh lo ba bl ea := by
  obtain ⟨t, c⟩ := h.tl.conn o gr
  have s1 := h.sb.chg c (fun q => h.notg (.inl q) rfl)
  have s2 := s1.set.2.1 v
  have nv : v.ownBlock ≠ some g := fun q => own_ne_blk o s1 (by decide) q rfl
  have lg := blk_lt h.sb
  have bmv : ∀ k, v.ownBlock = some k → cv.ownBlock = some k ∨ W.heap.size ≤ k := fun k q => by
    rcases mv with e | e
    · exact .inl (e ▸ q)
    · rw [e] at q; injection q with q; exact .inr (Nat.le_of_eq q)
  have ni : ∀ k, InT v wv lv (C ++ [(.slice none 0 0, [], false)]) k → InT cv wv lv C k ∨ W.heap.size ≤ k := fun k i => by
    rcases i with i | ⟨y, hy, i⟩ | i
    · rcases bmv k i with q | q
      · exact .inl (.inl q)
      · exact .inr q
    · rcases List.mem_append.1 hy with hy | hy
      · exact .inl (.inr (.inl ⟨y, hy, i⟩))
      · rw [List.mem_singleton] at hy; subst hy; cases i
    · exact .inl (.inr (.inr i))
  have c2 : Chg (fun k => k = g ∨ cv.ownBlock = some k) W (w1.setCell ⟨g, 1, none⟩ v) := (c.mono (fun k q => .inr q)).trans (Chg.set (S := (· = g)) v rfl) (fun j _ q => .inl q)
  have t2 : Tl B (w1.setCell ⟨g, 1, none⟩ v) v wv lv (C ++ [(.slice none 0 0, [], false)]) wh lo := t.chg (Chg.set (S := (· = g)) v rfl) (fun k i q => t.no s1 (by decide) (by decide) (by decide) i q)
  have up : ∀ k, InT v wv lv (C ++ [(.slice none 0 0, [], false)]) k → k < w.heap.size → InT cv wv lv C k := fun k i lt => by
    rcases ni k i with q | q
    · exact q
    · have := h.ch.size; omega
  refine ⟨s2, t2, h.ch.trans c2 (fun j lt q => ?_), h.pl.chgn c2 (fun ne a e q => ?_), h.pc, h.bs.chg c2 (fun a e q => ?_), (c2.cell (Nat.lt_of_lt_of_le h.z h.ch.size) (fun q => ?_)).trans h.ef, h.z, h.bg, h.b1, h.bw, fun ne a e => ⟨(h.pn ne a e).1, fun i => (h.pn ne a e).2.1 (up _ i (h.pn ne a e).2.2), (h.pn ne a e).2.2⟩, fun a e => ⟨(h.bn a e).1, fun i => (h.bn a e).2.1 (up _ i (h.bn a e).2.2), (h.bn a e).2.2⟩, h.mg, fun k i => ?_⟩
  · rcases q with q | q
    · exact q ▸ h.mg
    · rcases h.mi j (.inl q) with m | m
      · exact m
      · omega
  · rcases q with q | q
    · exact (h.pn ne a e).1 q
    · exact (h.pn ne a e).2.1 (.inl q)
  · rcases q with q | q
    · exact (h.bn a e).1 q
    · exact (h.bn a e).2.1 (.inl q)
  · rcases q with q | q
    · exact h.ne0.1 q.symm
    · exact h.ne0.2 _ (.inl q) rfl
  · rcases ni k i with q | q
    · exact h.mi k q
    · exact .inr (Nat.le_trans h.ch.size q)
/-- What it holds has changed, and so has a cell of the sink's block. -/
theorem Rk.cellv (h : Rk B g w M W pa pc P cv hd last wv lv n C wh lo ba bl ea) {S : Nat → Prop} {C' : List CE} {wh' lo' : List Int} {cv' wv' lv' : Value} (t : Tl B W1 cv' wv' lv' C' wh' lo') (c : Chg S W W1) (f : ∀ k, S k → InT cv wv lv C k) (ni : ∀ k, InT cv' wv' lv' C' k → InT cv wv lv C k ∨ W.heap.size ≤ k) {i : Nat} {v : Value} (s2 : ∀ s1 : RB W1 g (.slice pa P.length pc) cv hd last wv lv n, RB (W1.setCell ⟨g, i, none⟩ v) g (.slice pa P.length pc) cv' hd last wv' lv' n) :
    Rk B g w M (W1.setCell ⟨g, i, none⟩ v) pa pc P cv' hd last wv' lv' n C' wh' lo' ba bl ea := by
  have s1 := h.sb.chg c (fun q => h.notg (f _ q) rfl)
  have c2 : Chg (fun k => k = g ∨ S k) W (W1.setCell ⟨g, i, none⟩ v) := (c.mono (fun k q => .inr q)).trans (Chg.set (S := (· = g)) v rfl) (fun j _ q => .inl q)
  have t2 := t.chg (Chg.set (S := (· = g)) (i := i) v rfl) (fun k i q => t.no s1 (by decide) (by decide) (by decide) i q)
  have up : ∀ k, InT cv' wv' lv' C' k → k < w.heap.size → InT cv wv lv C k := fun k i lt => by
    rcases ni k i with q | q
    · exact q
    · have := h.ch.size; omega
  refine ⟨s2 s1, t2, h.ch.trans c2 (fun j lt q => ?_), h.pl.chgn c2 (fun ne a e q => ?_), h.pc, h.bs.chg c2 (fun a e q => ?_), (c2.cell (Nat.lt_of_lt_of_le h.z h.ch.size) (fun q => ?_)).trans h.ef, h.z, h.bg, h.b1, h.bw, fun ne a e => ⟨(h.pn ne a e).1, fun i => (h.pn ne a e).2.1 (up _ i (h.pn ne a e).2.2), (h.pn ne a e).2.2⟩, fun a e => ⟨(h.bn a e).1, fun i => (h.bn a e).2.1 (up _ i (h.bn a e).2.2), (h.bn a e).2.2⟩, h.mg, fun k i => ?_⟩
  · rcases q with q | q
    · exact q ▸ h.mg
    · rcases h.mi j (f j q) with m | m
      · exact m
      · omega
  · rcases q with q | q
    · exact (h.pn ne a e).1 q
    · exact (h.pn ne a e).2.1 (f _ q)
  · rcases q with q | q
    · exact (h.bn a e).1 q
    · exact (h.bn a e).2.1 (f _ q)
  · rcases q with q | q
    · exact h.ne0.1 q.symm
    · exact h.ne0.2 _ (f _ q) rfl
  · rcases ni k i with q | q
    · exact h.mi k q
    · exact .inr (Nat.le_trans h.ch.size q)
theorem Rk.whole (h : Rk B g w M W pa pc P cv hd last wv lv n C wh lo ba bl ea) {v : Value} {id : Int} (o : W1.ownsRow B 2 1 v (wh.length + 1) (rowI wh ++ [.int .i64 id])) (gr : W.grownBy W1 wv.ownBlock) (mv : v.ownBlock = wv.ownBlock ∨ v.ownBlock = some W.heap.size) :
    Rk B g w M (W1.setCell ⟨g, 2, none⟩ v) pa pc P cv hd last v lv n C (wh ++ [id]) lo ba bl ea := by
  obtain ⟨t, c⟩ := h.tl.whole o gr mv
  refine h.cellv t c (fun k q => .inr (.inr (.inl q))) (fun k i => ?_) (fun s1 => s1.set.2.2.2.2.1 v)
  rcases i with i | i | i | i
  · exact .inl (.inl i)
  · exact .inl (.inr (.inl i))
  · rcases mv with e | e
    · exact .inl (.inr (.inr (.inl (e ▸ i))))
    · rw [e] at i; injection i with i; exact .inr (Nat.le_of_eq i)
  · exact .inl (.inr (.inr (.inr i)))
theorem Rk.lose (h : Rk B g w M W pa pc P cv hd last wv lv n C wh lo ba bl ea) {v : Value} {id : Int} (o : W1.ownsRow B 2 1 v (lo.length + 1) (rowI lo ++ [.int .i64 id])) (gr : W.grownBy W1 lv.ownBlock) (mv : v.ownBlock = lv.ownBlock ∨ v.ownBlock = some W.heap.size) :
    Rk B g w M (W1.setCell ⟨g, 3, none⟩ v) pa pc P cv hd last wv v n C wh (lo ++ [id]) ba bl ea := by
  obtain ⟨t, c⟩ := h.tl.lose o gr mv
  refine h.cellv t c (fun k q => .inr (.inr (.inr q))) (fun k i => ?_) (fun s1 => s1.set.2.2.2.2.2.1 v)
  rcases i with i | i | i | i
  · exact .inl (.inl i)
  · exact .inl (.inr (.inl i))
  · exact .inl (.inr (.inr (.inl i)))
  · rcases mv with e | e
    · exact .inl (.inr (.inr (.inr (e ▸ i))))
    · rw [e] at i; injection i with i; exact .inr (Nat.le_of_eq i)
end
end Go.Proofs.YtbahhlgcebgfeaaDoor
