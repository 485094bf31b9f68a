/- sink: Frame. -/
import Derived.Test.YtbahhlgcebgfeaaDoorSnk4
namespace Go.Proofs.YtbahhlgcebgfeaaDoor
set_option linter.unusedVariables false
set_option linter.unusedSimpArgs false
open Go.RowKit W
/-- A sink as it stands. -/
structure SS where
  P : List Ch
  cs : List (List UInt8 × Bool)
  hd : Bool
  last : Int
  wh : List Int
  lo : List Int
  n : Int
/-- The connections ahead of the one that is written to, and what that one holds. -/
def opn (cs : List (List UInt8 × Bool)) : List (List UInt8 × Bool) × List UInt8 := match cs.getLast? with
  | none => (cs, [])
  | some (acc, f) => if f then (cs, []) else (cs.dropLast, acc)
theorem opn_nil : opn [] = ([], []) := rfl
theorem opn_failed (D : List (List UInt8 × Bool)) (acc : List UInt8) : opn (D ++ [(acc, true)]) = (D ++ [(acc, true)], []) := by
  unfold opn; rw [List.getLast?_concat]; rfl
theorem opn_old (D : List (List UInt8 × Bool)) (acc : List UInt8) : opn (D ++ [(acc, false)]) = (D, acc) := by
  unfold opn; rw [List.getLast?_concat, List.dropLast_concat]; rfl
/-- What send comes to. -/
def sendF (P : List Ch) (cs : List (List UInt8 × Bool)) (n : Int) (b : List UInt8) : List Ch × List (List UInt8 × Bool) × Bool × Int :=
  if b = [] then (P, cs, true, n)
  else ((sendL P (opn cs).2 false b 0 n).1, (opn cs).1 ++ [((sendL P (opn cs).2 false b 0 n).2.1, (sendL P (opn cs).2 false b 0 n).2.2.1)], decide ((sendL P (opn cs).2 false b 0 n).2.2.2.1 = []), (sendL P (opn cs).2 false b 0 n).2.2.2.2)
def SnAny (B g : Nat) (w : World) (M : Nat → Prop) (hd : Bool) (last : Int) (wv lv : Value) (wh lo : List Int) (ea : Addr) (F : List Ch × List (List UInt8 × Bool) × Bool × Int) (e : Ending) (w' : World) : Prop :=
  ∃ pa pc cv C ba bl, e = .returned (.bool F.2.2.1) ∧ C.map (fun y : CE => y.2) = F.2.1 ∧ Wk B g w M w' pa pc F.1 cv hd last wv lv F.2.2.2 C wh lo ba bl ea
theorem snoc_or (C : List CE) : C = [] ∨ ∃ D y ac f, C = D ++ [(y, ac, f)] := by
  rcases List.eq_nil_or_concat C with h | ⟨D, ⟨y, ac, f⟩, h⟩
  · exact .inl h
  · exact .inr ⟨D, y, ac, f, by rw [h, List.concat_eq_append]⟩
theorem send_any {B g : Nat} {w W : World} {M : Nat → Prop} {pa : Option Addr} {pc : Nat} {P : List Ch} {cv : Value} {hd : Bool} {last : Int} {wv lv : Value} {n : Int} {C : List CE} {wh lo : List Int} {ba : Option Addr} {bl : List UInt8} {bc : Nat} {ea : Addr} {bx : Option Addr}
    (h : Wk B g w M W pa pc P cv hd last wv lv n C wh lo ba bl ea) (hq : bl ≠ [] → bx = ba) (hbc : bl.length ≤ bc) (hn : 0 ≤ n ∧ n + 64 * bl.length + 64 ≤ 4611686018427387904) (hz : ∀ x ∈ C, x.2.1.length + bl.length ≤ 140737488355328) (hb : bl.length ≤ 140737488355328) (hC : C.length ≤ 4000000000000) :
    Calls Tryd.prog 22 #[.pointer (some ⟨g, 0, none⟩), .slice bx bl.length bc] W (SnAny B g w M hd last wv lv wh lo ea (sendF P (C.map fun y => y.2) n bl)) := by
  by_cases b0 : bl = []
  · subst b0
    refine Calls.mono (send_nil bx bc) ?_
    rintro e w' ⟨rfl, k⟩
    unfold sendF
    rw [if_pos rfl]
    exact ⟨pa, pc, cv, C, ba, [], rfl, rfl, h.later k⟩
  · obtain rfl := hq b0
    have fin : ∀ (D : List (List UInt8 × Bool)) (acc : List UInt8), opn (C.map fun y => y.2) = (D, acc) → ∀ e w', SnPost B g w M hd last wv lv wh lo ea D (sendL P acc false bl 0 n) e w' → SnAny B g w M hd last wv lv wh lo ea (sendF P (C.map fun y => y.2) n bl) e w' := by
      rintro D acc ho e w' ⟨pa', pc', cv', D', x, ba', rfl, hD, k⟩
      unfold sendF
      rw [if_neg b0, ho]
      exact ⟨pa', pc', cv', _, ba', _, rfl, by rw [List.map_append, hD]; rfl, k⟩
    rcases snoc_or C with rfl | ⟨D, y, ac, f, rfl⟩
    · exact Calls.mono (send_empty h b0 hbc hn hb hC) (fin _ _ opn_nil)
    · cases f
      · refine Calls.mono (send_old h b0 hbc hn (hz _ (List.mem_append_right _ List.mem_cons_self)) hC) (fin _ _ ?_)
        rw [List.map_append]
        exact opn_old _ _
      · refine Calls.mono (send_failed h b0 hbc hn hb hC) (fin _ _ ?_)
        rw [List.map_append]
        exact opn_failed _ _
section
variable {B g : Nat} {w W W1 : World} {M : Nat → Prop} {pa : Option Addr} {pc : Nat} {P : List Ch} {cv : Value} {hd : Bool} {last : Int} {wv lv : Value} {n : Int} {C : List CE} {wh lo : List Int} {ba : Option Addr} {bl : List UInt8} {ea : Addr}
/-- What it holds has changed, and so has a cell of the sink's block. -/
theorem Wk.cellv (h : Wk B g w M W pa pc P cv hd last wv lv n C wh lo ba bl ea) {S : Nat → Prop} {C' : List CE} {wh' lo' : List Int} {cv' wv' lv' : Value} (t : Tl B W1 cv' wv' lv' C' wh' lo') (c : Chg S W W1) (f : ∀ k, S k → InT cv wv lv C k) (ni : ∀ k, InT cv' wv' lv' C' k → InT cv wv lv C k ∨ W.heap.size ≤ k) {i : Nat} {v : Value} (s2 : ∀ s1 : SB W1 g (.slice pa P.length pc) cv hd last wv lv n, SB (W1.setCell ⟨g, i, none⟩ v) g (.slice pa P.length pc) cv' hd last wv' lv' n) :
    Wk B g w M (W1.setCell ⟨g, i, none⟩ v) pa pc P cv' hd last wv' lv' n C' wh' lo' ba bl ea := by
  have s1 := h.sb.chg c (fun q => h.notg (f _ q) rfl)
  have c2 : Chg (fun k => k = g ∨ S k) W (W1.setCell ⟨g, i, none⟩ v) := (c.mono (fun k q => .inr q)).trans (Chg.set (S := (· = g)) v rfl) (fun j _ q => .inl q)
  have t2 := t.chg (Chg.set (S := (· = g)) (i := i) v rfl) (fun k i q => t.no s1 (by decide) (by decide) (by decide) i q)
  have up : ∀ k, InT cv' wv' lv' C' k → k < w.heap.size → InT cv wv lv C k := fun k i lt => by
    rcases ni k i with q | q
    · exact q
    · have := h.ch.size; omega
  refine ⟨s2 s1, t2, h.ch.trans c2 (fun j lt q => ?_), h.pl.chg c2 (fun a e q => ?_), h.pc, h.bs.chg c2 (fun a e q => ?_), (c2.cell (Nat.lt_of_lt_of_le h.z h.ch.size) (fun q => ?_)).trans h.ef, h.z, h.bg, h.b1, h.bw, fun a e => ⟨(h.pn a e).1, fun i => (h.pn a e).2.1 (up _ i (h.pn a e).2.2), (h.pn a e).2.2⟩, fun a e => ⟨(h.bn a e).1, fun i => (h.bn a e).2.1 (up _ i (h.bn a e).2.2), (h.bn a e).2.2⟩, h.mg, fun k i => ?_, h.pm⟩
  · rcases q with q | q
    · exact q ▸ h.mg
    · rcases h.mi j (f j q) with m | m
      · exact m
      · omega
  · rcases q with q | q
    · exact (h.pn a e).1 q
    · exact (h.pn a e).2.1 (f _ q)
  · rcases q with q | q
    · exact (h.bn a e).1 q
    · exact (h.bn a e).2.1 (f _ q)
  · rcases q with q | q
    · exact h.ne0.1 q.symm
    · exact h.ne0.2 _ (f _ q) rfl
  · rcases ni k i with q | q
    · exact h.mi k q
    · exact .inr (Nat.le_trans h.ch.size q)
theorem Wk.whole (h : Wk B g w M W pa pc P cv hd last wv lv n C wh lo ba bl ea) {v : Value} {id : Int} (o : W1.ownsRow B 2 1 v (wh.length + 1) (rowI wh ++ [.int .i64 id])) (gr : W.grownBy W1 wv.ownBlock) (mv : v.ownBlock = wv.ownBlock ∨ v.ownBlock = some W.heap.size) :
    Wk B g w M (W1.setCell ⟨g, 5, none⟩ v) pa pc P cv hd last v lv n C (wh ++ [id]) lo ba bl ea := by
  obtain ⟨t, c⟩ := h.tl.whole o gr mv
  refine h.cellv t c (fun k q => .inr (.inr (.inl q))) (fun k i => ?_) (fun s1 => s1.set.2.2.2.2.1 v)
  rcases i with i | i | i | i
  · exact .inl (.inl i)
  · exact .inl (.inr (.inl i))
  · rcases mv with e | e
    · exact .inl (.inr (.inr (.inl (e ▸ i))))
    · rw [e] at i; injection i with i; exact .inr (Nat.le_of_eq i)
  · exact .inl (.inr (.inr (.inr i)))
theorem Wk.lose (h : Wk B g w M W pa pc P cv hd last wv lv n C wh lo ba bl ea) {v : Value} {id : Int} (o : W1.ownsRow B 2 1 v (lo.length + 1) (rowI lo ++ [.int .i64 id])) (gr : W.grownBy W1 lv.ownBlock) (mv : v.ownBlock = lv.ownBlock ∨ v.ownBlock = some W.heap.size) :
    Wk B g w M (W1.setCell ⟨g, 6, none⟩ v) pa pc P cv hd last wv v n C wh (lo ++ [id]) ba bl ea := by
  obtain ⟨t, c⟩ := h.tl.lose o gr mv
  refine h.cellv t c (fun k q => .inr (.inr (.inr q))) (fun k i => ?_) (fun s1 => s1.set.2.2.2.2.2.1 v)
  rcases i with i | i | i | i
  · exact .inl (.inl i)
  · exact .inl (.inr (.inl i))
  · exact .inl (.inr (.inr (.inl i)))
  · rcases mv with e | e
    · exact .inl (.inr (.inr (.inr (e ▸ i))))
    · rw [e] at i; injection i with i; exact .inr (Nat.le_of_eq i)
end
/-- A sink that New made, between calls. M: its blocks. -/
structure SkV (B : Nat) (w : World) (g : Nat) (S : SS) (M : Nat → Prop) (pa : Option Addr) (pc : Nat) (cv wv lv : Value) (C : List CE) : Prop where
  cs : C.map (fun y => y.2) = S.cs
  sb : SB w g (.slice pa S.P.length pc) cv S.hd S.last wv lv S.n
  tl : Tl B w cv wv lv C S.wh S.lo
  pl : IsCh w pa S.P
  pc : S.P.length ≤ pc ∧ pc ≤ 9223372036854775807
  bg : B ≤ g
  pn : ∀ a, pa = some a → a.block ≠ g ∧ ¬ InT cv wv lv C a.block ∧ a.block < w.heap.size
  m : ∀ k, M k ↔ (k = g ∨ InT cv wv lv C k ∨ ∃ a, pa = some a ∧ a.block = k)
def SkA (B : Nat) (w : World) (g : Nat) (S : SS) (M : Nat → Prop) : Prop := ∃ pa pc cv wv lv C, SkV B w g S M pa pc cv wv lv C
theorem SkV.wk {B g : Nat} {w : World} {S : SS} {M : Nat → Prop} {pa : Option Addr} {pc : Nat} {cv wv lv : Value} {C : List CE} (h : SkV B w g S M pa pc cv wv lv C) {ba : Option Addr} {bl : List UInt8} {ea : Addr} (hb : IsBytes w ba bl) (nb : ∀ a, ba = some a → ¬ M a.block ∧ a.block < w.heap.size) (ef : w.cell? ⟨0, 0, none⟩ = some (EV ea)) (b1 : 1 ≤ B) :
    Wk B g w M w pa pc S.P cv S.hd S.last wv lv S.n C S.wh S.lo ba bl ea :=
  have lg := blk_lt h.sb
  ⟨h.sb, h.tl, Chg.refl _ _, h.pl, h.pc, hb, ef, by omega, h.bg, b1, by have := h.bg; omega, h.pn, fun a e => ⟨fun q => (nb a e).1 ((h.m _).2 (.inl q)), fun q => (nb a e).1 ((h.m _).2 (.inr (.inl q))), (nb a e).2⟩, (h.m _).2 (.inl rfl), fun k i => .inl ((h.m k).2 (.inr (.inl i))), fun a e => (h.m _).2 (.inr (.inr ⟨a, e, rfl⟩))⟩
theorem Wk.skv {B g : Nat} {w W : World} {M : Nat → Prop} {pa : Option Addr} {pc : Nat} {P : List Ch} {cv : Value} {hd : Bool} {last : Int} {wv lv : Value} {n : Int} {C : List CE} {wh lo : List Int} {ba : Option Addr} {bl : List UInt8} {ea : Addr} (h : Wk B g w M W pa pc P cv hd last wv lv n C wh lo ba bl ea) :
    (∃ M', SkA B W g ⟨P, C.map fun y => y.2, hd, last, wh, lo, n⟩ M' ∧ (∀ k, M' k → M k ∨ w.heap.size ≤ k)) ∧ Chg M w W := by
  refine ⟨⟨fun k => k = g ∨ InT cv wv lv C k ∨ ∃ a, pa = some a ∧ a.block = k, ⟨pa, pc, cv, wv, lv, C, rfl, h.sb, h.tl, h.pl, h.pc, h.bg, fun a e => ⟨(h.pn a e).1, (h.pn a e).2.1, Nat.lt_of_lt_of_le (h.pn a e).2.2 h.ch.size⟩, fun k => Iff.rfl⟩, ?_⟩, h.ch⟩
  rintro k (q | q | ⟨a, e, q⟩)
  · exact .inl (q ▸ h.mg)
  · exact h.mi k q
  · exact .inl (q ▸ h.pm a e)
theorem SkV.chg {B g : Nat} {w w' : World} {S : SS} {M T : Nat → Prop} {pa : Option Addr} {pc : Nat} {cv wv lv : Value} {C : List CE} (h : SkV B w g S M pa pc cv wv lv C) (c : Chg T w w') (f : ∀ k, M k → ¬ T k) : SkV B w' g S M pa pc cv wv lv C :=
  ⟨h.cs, h.sb.chg c (f _ ((h.m _).2 (.inl rfl))), h.tl.chg c (fun k i => f k ((h.m _).2 (.inr (.inl i)))), h.pl.chg c (fun a e => f _ ((h.m _).2 (.inr (.inr ⟨a, e, rfl⟩)))), h.pc, h.bg, fun a e => ⟨(h.pn a e).1, (h.pn a e).2.1, Nat.lt_of_lt_of_le (h.pn a e).2.2 c.size⟩, h.m⟩
theorem SkA.chg {B g : Nat} {w w' : World} {S : SS} {M T : Nat → Prop} (h : SkA B w g S M) (c : Chg T w w') (f : ∀ k, M k → ¬ T k) : SkA B w' g S M := by
  obtain ⟨pa, pc, cv, wv, lv, C, h⟩ := h
  exact ⟨pa, pc, cv, wv, lv, C, h.chg c f⟩
theorem SkA.old {B g : Nat} {w : World} {S : SS} {M : Nat → Prop} (h : SkA B w g S M) {k : Nat} (m : M k) : k < w.heap.size := by
  obtain ⟨pa, pc, cv, wv, lv, C, h⟩ := h
  rcases (h.m k).1 m with q | q | ⟨a, e, q⟩
  · rw [q]; exact blk_lt h.sb
  · exact (h.tl.old q).2
  · rw [← q]; exact (h.pn a e).2.2
theorem SkA.later {B g : Nat} {w w' : World} {S : SS} {M : Nat → Prop} (h : SkA B w g S M) (b : Below w.heap.size w w') : SkA B w' g S M := by
  obtain ⟨pa, pc, cv, wv, lv, C, h⟩ := h
  exact ⟨pa, pc, cv, wv, lv, C, h.chg (Chg.of_below (S := fun _ => False) b) (fun _ _ q => q)⟩
/-- What Frame makes of a sink. -/
def frS (S : SS) (id : Int) (b : List UInt8) : SS :=
  if S.hd = true ∧ id ≤ S.last then S
  else ⟨(sendF S.P S.cs S.n b).1, (sendF S.P S.cs S.n b).2.1, true, id, if (sendF S.P S.cs S.n b).2.2.1 then S.wh ++ [id] else S.wh, if (sendF S.P S.cs S.n b).2.2.1 then S.lo else S.lo ++ [id], (sendF S.P S.cs S.n b).2.2.2⟩
def frE (S : SS) (id : Int) : Int := if S.hd = true ∧ id ≤ S.last then 180 else 0
def FrPost (B : Nat) (w : World) (g : Nat) (S : SS) (M : Nat → Prop) (id : Int) (b : List UInt8) (e : Ending) (w' : World) : Prop :=
  e = .returned (.int .i64 (frE S id)) ∧ (∃ M', SkA B w' g (frS S id b) M' ∧ ∀ k, M' k → M k ∨ w.heap.size ≤ k) ∧ Chg M w w'
/-- Numbers that no machine comes to. -/
structure SmS (S : SS) (l : Nat) : Prop where
  n : 0 ≤ S.n ∧ S.n + 64 * (l : Int) + 64 ≤ 4611686018427387904
  b : ∀ x ∈ S.cs, x.1.length + l ≤ 140737488355328
  l : l ≤ 140737488355328
  c : S.cs.length ≤ 4000000000000
  w : S.wh.length ≤ 4000000000000
  o : S.lo.length ≤ 4000000000000
end Go.Proofs.YtbahhlgcebgfeaaDoor
