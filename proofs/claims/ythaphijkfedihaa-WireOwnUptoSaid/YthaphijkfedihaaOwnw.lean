/- WireOwn: bytes that are written behind a call. (gen_lawown.py) -/
import Derived.Test.YthaphijkfedihaaS3
import Derived.Test.YthaphijkfedihaaPown
namespace Go.Proofs.Ythaphijkfedihaa
set_option linter.unusedVariables false
set_option linter.unusedSimpArgs false
open Go.RowKit W
theorem row_set {w : World} {base g n c : Nat} {l : List UInt8} (o : w.ownsRow base 5 1 (.slice (some ⟨g, 0, none⟩) n c) n (rowB l)) (i : Nat) (u : UInt8) :
    (w.setCell ⟨g, i, none⟩ (.int .u8 (u.toNat : Int))).ownsRow base 5 1 (.slice (some ⟨g, 0, none⟩) n c) n (rowB (l.set i u)) := by
  obtain ⟨hl, h⟩ := o
  rcases h with ⟨e, _⟩ | ⟨g', cap, cur, e, hb, hh, hn, hm, hs, ht⟩
  · cases e
  · injection e with e1 e2 e3
    injection e1 with e1
    injection e1 with e1
    subst e1 e3
    refine ⟨by rw [rowB_len, List.length_set]; rw [rowB_len] at hl; exact hl, .inr ⟨g, c, cur.setIfInBounds i (.int .u8 (u.toNat : Int)), rfl, hb, ?_, hn, hm, by rw [Array.size_setIfInBounds]; exact hs, ?_⟩⟩
    · simp [World.setCell, Array.getElem?_modify, hh]
    · rw [Array.toList_setIfInBounds, Nat.mul_one, List.take_set]
      rw [Nat.mul_one] at ht
      rw [ht, rowB, rowB, List.map_set]
theorem row_cell {w : World} {base g n c : Nat} {l : List UInt8} (o : w.ownsRow base 5 1 (.slice (some ⟨g, 0, none⟩) n c) n (rowB l)) : (∀ i (h : i < l.length), w.cell? ⟨g, i, none⟩ = some (.int .u8 (l[i].toNat : Int))) ∧ (∀ i, w.frozen? ⟨g, i, none⟩ = false) ∧ g < w.heap.size ∧ base ≤ g := by
  refine ⟨fun i hi => ?_, fun i => ?_, (World.ownsRow.lt o g rfl).2, (World.ownsRow.lt o g rfl).1⟩
  · have := World.ownsRow.cells o (g := g) rfl i (.int .u8 (l[i].toNat : Int)) (by simp [rowB, hi])
    rw [Go.WideShapes.add_plain, Nat.zero_add] at this
    exact this
  · obtain ⟨_, cs, h⟩ := own_blk o (k := g) rfl
    simp [World.frozen?, h]
theorem wpList_append_bytes {w : World} {ops : Array Oper} {rest : List Oper} {o : Oper} {a : Act} {Q : Exit → Act → World → Prop} (hgd : o.guard = none) (s x : Operand)
    (ho : o.op = .call { callee := .builtin .append, args := #[s, x], argTypes := #[35, 35] }) (base : Nat) (hs : a.eval s = .slice none 0 0) (sa : Option Addr) (c : Nat) (l : List UInt8) (hx : a.eval x = .slice sa l.length c) (ib : IsBytes w sa l) (hn : sa = none → l.length = 0 ∧ c = 0)
    (h63 : l.length ≤ 1000000000) (hbase : base ≤ w.heap.size) (h : ∀ v' w', w'.ownsRow base 5 1 v' l.length (rowB l) → w.grownBy w' none → wpList Try.prog ops Q rest (a.put o.dst v') w') : wpList Try.prog ops Q (o :: rest) a w := by
  obtain ⟨i0, hi0, hz0, hz1, hz2⟩ := info_parts info_u8
  have h00 : w.ownsRow base 5 1 (.slice none 0 0) 0 [] := ⟨rfl, .inl ⟨rfl, rfl⟩⟩
  cases sa with
  | none =>
    obtain ⟨q1, q2⟩ := hn rfl
    obtain rfl := List.eq_nil_of_length_eq_zero q1
    subst q2
    exact wpList_append_own_none hgd s x 35 ho base 5 i0 1 Try.underlying35 hi0 (.slice none 0 0) 0 [] hs h00 hx (h _ w h00 (World.grownBy.refl _ _))
  | some ad =>
    refine wpList_append_own _ hgd s x 35 ho base 5 i0 (.int .u8 0) 1 1 Try.underlying35 hi0 hz0 hz1 hz2 rfl (by decide) (.slice none 0 0) 0 [] hs h00 ad l.length c (rowB l) hx (by rw [rowB_len, Nat.mul_one]) ?_ (rowB_one l) (by unfold maxLen; omega) (by omega) hbase ?_
    · intro j u hu
      rcases ib with rfl | ⟨g, o, e, lt, bc⟩
      · simp [rowB] at hu
      · injection e with e
        subst e
        rw [rowB, List.getElem?_map] at hu
        rw [Option.map_eq_some_iff] at hu
        obtain ⟨y, hy, rfl⟩ := hu
        obtain ⟨hj, rfl⟩ := List.getElem?_eq_some_iff.1 hy
        rw [Go.WideShapes.add_plain]
        exact bc j hj
    · intro v' w' q1 q2 _
      rw [Nat.zero_add, List.nil_append] at q1
      exact h v' w' q1 q2
/-- What stands of both streams where their pieces may have been written since. -/
structure Sw (B g h lim : Nat) (t : List UInt8) (n : Int) (A : ByteArray) (past : Nat) (n2 : Int) (w : World) : Prop where
  sk : ∃ v, SkV B w g lim v t n
  rs : Rs B w h lim past n2 A
theorem Sw.chg {B g h lim past : Nat} {t : List UInt8} {n n2 : Int} {A : ByteArray} {w w' : World} {S : Nat → Prop} (s : Sw B g h lim t n A past n2 w) (c : Chg S w w') (f : ∀ k, S k → k < B) : Sw B g h lim t n A past n2 w' := by
  obtain ⟨v, k⟩ := s.sk
  exact ⟨⟨v, k.chg c (fun q => by have := f _ q; have := k.le; omega) (fun j hj q => by have := f _ q; have := (own_blk k.own hj).1; omega)⟩, s.rs.chg c (fun q => by have := f _ q; have := s.rs.le; omega)⟩
theorem Sw.later {B g h lim past : Nat} {t : List UInt8} {n n2 : Int} {A : ByteArray} {w w' : World} (s : Sw B g h lim t n A past n2 w) (b : Below w.heap.size w w') : Sw B g h lim t n A past n2 w' := s.chg (Chg.of_below (S := fun _ => False) b) (fun _ q => q.elim)
theorem OutT.chgOld {B : Nat} {v : Value} {ps : List ByteArray} {w w' : World} {S : Nat → Prop} (o : OutT B w v ps) (c : Chg S w w') (f : ∀ k, S k → k < B) : OutT B w' v ps := chg_row o c (fun j hj q => by have := f _ q; have := (own_blk o hj).1; omega)
theorem endA2 {B g h lim past : Nat} {t : List UInt8} {n n2 : Int} {A : ByteArray} {w : World} (s : Sw B g h lim t n A past n2 w) (x : ByteArray) (hx : lst x = t.take (lim + 1)) : CalcN 23 #[.pointer (some ⟨g, 0, none⟩)] w (.string x) := by
  obtain ⟨v, k⟩ := s.sk
  refine (sendt_spec B g lim v t n w k).mono ?_
  rintro e w' ⟨y, rfl, hy, rfl⟩
  exact ⟨by rw [lst_inj (hy.trans hx.symm)], rfl⟩
theorem endB2 {B g h lim past : Nat} {t : List UInt8} {n n2 : Int} {A : ByteArray} {w : World} (s : Sw B g h lim t n A past n2 w) (x : ByteArray) (hx : lst x = (lastL [] (lst A)).take (lim + 1)) (hl : lim ≤ 1024) (hz : A.size ≤ 4000000000000) : Calls Try.prog 24 #[.pointer (some ⟨h, 0, none⟩)] w fun e w' => e = .returned (.string x) ∧ Below w.heap.size w w' := by
  refine (rsend_spec B h lim past n2 A w s.rs hl hz).mono ?_
  rintro e w' ⟨y, rfl, hy, hb⟩
  exact ⟨by rw [lst_inj (hy.trans hx.symm)], hb⟩
theorem PkV.chg {B g : Nat} {w w' : World} {size : Int} {v : Value} {l : List UInt8} {S : Nat → Prop} (h : PkV B w g size v l) (c : Chg S w w') (h1 : ¬ S g) (h2 : ∀ k, v.ownBlock = some k → ¬ S k) : PkV B w' g size v l :=
  ⟨(c.block g (blk_lt h.blk) h1).trans h.blk, chg_row h.own c h2, h.le⟩
theorem Pk.later {B g : Nat} {w w' : World} {size : Int} {l : List UInt8} (h : Pk B w g size l) (b : Below w.heap.size w w') : Pk B w' g size l := by
  obtain ⟨v, k⟩ := h
  exact ⟨v, k.chg (Chg.of_below (S := fun _ => False) b) (fun q => q) (fun _ _ q => q)⟩
theorem addP {B g : Nat} {n : Int} {w : World} {l l' out : List UInt8} {er : Int} (x : ByteArray) (hq : addF n l (lst x) = (l', out, er)) (p : Pk B w g n l) (hl : l.length ≤ 65536) (hz : n ≤ 65536) (hB : B ≤ w.heap.size) (hx : x.size ≤ 140737488355327) : Calls Try.prog 13 #[.pointer (some ⟨g, 0, none⟩), .string x] w fun e w' => ∃ a c, e = .returned (.tuple #[.slice a out.length c, .int .i64 er]) ∧ Pk B w' g n l' ∧ Below B w w' :=
  (padd_spec B g n l x w p hl hz hB hx).mono fun e w' ⟨a, c, he, _, _, hb, p2, u⟩ => by
    rw [hq] at he hb p2
    exact ⟨a, c, he, p2, u.below hB⟩
theorem flushP {B g : Nat} {n : Int} {w : World} {l : List UInt8} (p : Pk B w g n l) (hl : l.length ≤ 140737488355328) (hB : B ≤ w.heap.size) : Calls Try.prog 11 #[.pointer (some ⟨g, 0, none⟩)] w fun e w' => ∃ a c, e = .returned (.slice a l.length c) ∧ w'.ownsRow w.heap.size 5 1 (.slice a l.length c) l.length (rowB l) ∧ (∃ v2, PkV B w' g n v2 [] ∧ ∀ k, (Value.slice a l.length c).ownBlock = some k → v2.ownBlock ≠ some k) ∧ Below B w w' :=
  (flush_own B g n l w p hl).mono fun e w' ⟨a, c, he, ho, hp, u⟩ => ⟨a, c, he, ho, hp, u.below hB⟩
theorem PkV.row_ne {B g : Nat} {w : World} {size : Int} {v : Value} {l : List UInt8} (h : PkV B w g size v l) {base n e : Nat} {vl : Value} {xs : List Value} (o : w.ownsRow base e 1 vl n xs) (he : e ≠ 61) (j : Nat) (hj : vl.ownBlock = some j) : j ≠ g := by
  rintro rfl
  obtain ⟨_, cs, hc⟩ := own_blk o hj
  rw [h.blk] at hc
  injection hc with hc
  injection hc with _ hc
  exact he hc.symm
theorem sameO {b b' : Nat} {w : World} {a a' : Option Addr} {c c' : Nat} {ps : List ByteArray} (x : OutT b w (.slice a ps.length c) ps) (y : OutT b' w (.slice a' ps.length c') ps) (hn : ps.length ≤ 140737488355328) :
    Calls Try.prog 19 #[.slice a ps.length c, .slice a' ps.length c'] w fun e w' => e = .returned (.bool true) ∧ Below w.heap.size w w' := by
  obtain ⟨_, _, e, ix⟩ := x.is
  injection e with e1 _ e3
  subst e1 e3
  obtain ⟨_, _, e, iy⟩ := y.is
  injection e with e1 _ e3
  subst e1 e3
  exact same5_true _ _ _ _ ps w ix iy hn
theorem add_cases (s : ByteArray) : (∃ er, addF 65536 [] (lst s) = ([], [], er) ∧ (er = 51 ∨ er = 2)) ∨ addF 65536 [] (lst s) = (lst s, [], 0) := by
  cases ft : fitL (lst s) with
  | false => exact .inl ⟨51, add_bad ft, .inl rfl⟩
  | true =>
    by_cases lg : (65536 : Int) < (lst s).length
    · exact .inl ⟨2, add_long ft lg, .inr rfl⟩
    · exact .inr (add_first ft lg)
end Go.Proofs.Ythaphijkfedihaa
