/- Both streams side by side: the contracts that the law calls. (gen_sstate.py) -/
import Derived.Test.YthaphijkfedihaaRsk
import Derived.Test.YthaphijkfedihaaAlive5
namespace Go.Proofs.Ythaphijkfedihaa
set_option linter.unusedVariables false
set_option linter.unusedSimpArgs false
open Go.RowKit W
/-- Both streams as they stand. -/
structure Ss (B g h lim : Nat) (w0 : World) (t : List UInt8) (n1 : Int) (A : ByteArray) (past : Nat) (n2 : Int) (w : World) : Prop where
  sk : ∃ v, SkV B w g lim v t n1
  rs : Rs B w h lim past n2 A
  below : Below B w0 w
  le : B ≤ w.heap.size
  sz : w0.heap.size = B
/-- A list of texts that lies in the law's own blocks. -/
def OutT (B : Nat) (w : World) (v : Value) (ps : List ByteArray) : Prop := w.ownsRow B 9 1 v ps.length (ps.map Value.string)
section
variable {B g h lim past : Nat} {w0 w w' : World} {t : List UInt8} {n1 n2 : Int} {A : ByteArray}
theorem Ss.later (s : Ss B g h lim w0 t n1 A past n2 w) (b : Below w.heap.size w w') : Ss B g h lim w0 t n1 A past n2 w' := by
  obtain ⟨v, k⟩ := s.sk
  exact ⟨⟨v, k.later b⟩, s.rs.chg (Chg.of_below (S := fun _ => False) b) (fun q => q), s.below.trans (b.mono s.le), Nat.le_trans s.le b.size, s.sz⟩
theorem Ss.drew (s : Ss B g h lim w0 t n1 A past n2 w) : Ss B g h lim w0 t n1 A past n2 w.drew := s.later (Below.drew (Below.refl _ _))
theorem Ss.drewN (s : Ss B g h lim w0 t n1 A past n2 w) (k : Nat) : Ss B g h lim w0 t n1 A past n2 (w.drewN k) := s.later (below_drewN (Below.refl _ _) k)
theorem Ss.ne (s : Ss B g h lim w0 t n1 A past n2 w) : h ≠ g := by
  rintro rfl
  obtain ⟨v, k⟩ := s.sk
  have := k.blk
  rw [s.rs.blk] at this
  injection this with this
  injection this with _ this
  exact absurd this (by decide)
theorem OutT.later {v : Value} {ps : List ByteArray} (o : OutT B w v ps) (b : Below w.heap.size w w') : OutT B w' v ps := chg_row o (Chg.of_below (S := fun _ => False) b) (fun _ _ q => q)
theorem OutT.drew {v : Value} {ps : List ByteArray} (o : OutT B w v ps) : OutT B w.drew v ps := o.later (Below.drew (Below.refl _ _))
theorem OutT.is {v : Value} {ps : List ByteArray} (o : OutT B w v ps) : ∃ a c, v = .slice a ps.length c ∧ IsTxts w a ps := by
  obtain ⟨a, c, rfl, _, hn⟩ := own_form o
  refine ⟨a, c, rfl, ?_⟩
  by_cases z : ps = []
  · exact .inl z
  · have hp : 0 < ps.length := by cases ps; exact absurd rfl z; simp
    obtain ⟨g, hg⟩ : ∃ g, a = some ⟨g, 0, none⟩ := by
      rcases o.2 with ⟨e, _⟩ | ⟨g, cap, cur, e, _⟩
      · injection e with e; exact absurd (hn e).1 (by omega)
      · injection e with e; exact ⟨g, e⟩
    subst hg
    refine .inr ⟨g, 0, rfl, ⟨fun j hj => ?_, (World.ownsRow.lt o g rfl).2⟩⟩
    have := World.ownsRow.cells o (g := g) rfl j (.string ps[j]) (by simp [hj])
    rw [Go.WideShapes.add_plain] at this
    exact this
end
def FeedA (B g h lim : Nat) (w0 : World) (t' : List UInt8) (n1' : Int) (A : ByteArray) (past : Nat) (n2 : Int) (ps : List ByteArray) (w : World) (e : Ending) (w' : World) : Prop :=
  ∃ a c, e = .returned (.slice a ps.length c) ∧ OutT B w' (.slice a ps.length c) ps ∧ Ss B g h lim w0 t' n1' A past n2 w' ∧ ∀ v qs, OutT B w v qs → OutT B w' v qs
theorem feedA {B g h lim past : Nat} {w0 w : World} {t : List UInt8} {n1 n2 : Int} {A : ByteArray} (l : List UInt8) (a : Option Addr) (c : Nat) (ps : List ByteArray) (hps : ps.map lst = tellL lim (headsL t l)) (s : Ss B g h lim w0 t n1 A past n2 w) (hl : lim ≤ 1024) (h0 : 0 ≤ n1) (hz : n1 + l.length ≤ 4000000000000) (hc : l.length ≤ c) (hn : a = none → l.length = 0 ∧ c = 0) (ib : IsBytes w0 a l) :
    Calls Try.prog 20 #[.pointer (some ⟨g, 0, none⟩), .slice a l.length c] w (FeedA B g h lim w0 (lastL t l) (n1 + lostL lim (headsL t l)) A past n2 ps w) := by
  obtain ⟨v, k⟩ := s.sk
  refine (feed_spec B g lim v t l n1 w0 w a c k hl s.le h0 hz hc hn ib (by rw [s.sz]; exact s.below) (by rw [s.sz]; exact Nat.le_refl _)).mono ?_
  rintro e w' ⟨vl, qs, u, rfl, hq, ho, fd⟩
  obtain rfl : qs = ps := txts_eq (hq.trans hps.symm)
  have ho' : OutT B w' vl qs := own_base ho s.le
  obtain ⟨a', c', rfl, _⟩ := ho'.is
  have b := fd.below k s.le
  refine ⟨a', c', rfl, ho', ⟨⟨u, fd.sk⟩, s.rs.chg fd.chg ?_, s.below.trans b, Nat.le_trans s.le b.size, s.sz⟩, fun v' rs o => row_sk k o fd.chg⟩
  rintro (q | q)
  · exact s.ne q
  · exact s.rs.row_ne k.own (by decide) h q rfl
theorem feedB {B g h lim past past' : Nat} {w0 w : World} {t : List UInt8} {n1 n2 : Int} {A A' : ByteArray} (l : List UInt8) (a : Option Addr) (c : Nat) (ps : List ByteArray) (hps : ps.map lst = tellL lim (headsL (lastL [] (lst A)) l)) (hA : lst A' = lst A ++ l) (hp : past + 1 = (cutL 10 [] (lst A)).length) (hp' : past' + 1 = (cutL 10 [] (lst A')).length) (s : Ss B g h lim w0 t n1 A past n2 w) (hl : lim ≤ 1024) (hz : A.size + l.length ≤ 4000000000000) (h0 : 0 ≤ n2) (h1 : n2 ≤ 2000000000000) (ib : IsBytes w0 a l) :
    Calls Try.prog 21 #[.pointer (some ⟨h, 0, none⟩), .slice a l.length c] w (FeedA B g h lim w0 t n1 A' past' (n2 + lostL lim (headsL (lastL [] (lst A)) l)) ps w) := by
  obtain ⟨v, k⟩ := s.sk
  refine (rfeed_spec B h lim past n2 A l w0 w a c s.rs hl hp hz h0 h1 ib (by rw [s.sz]; exact s.below) (by rw [s.sz]; exact Nat.le_refl _)).mono ?_
  rintro e w' ⟨vl, qs, A2, p2, rfl, hq, ho, rs, hA2, hp2, ch⟩
  obtain rfl : qs = ps := txts_eq (hq.trans hps.symm)
  obtain rfl : A2 = A' := lst_inj (hA2.trans hA.symm)
  obtain rfl : p2 = past' := by omega
  have ho' : OutT B w' vl qs := own_base ho s.le
  obtain ⟨a', c', rfl, _⟩ := ho'.is
  have b := ch.below (B := B) (by rintro k rfl; exact s.rs.le) s.le
  refine ⟨a', c', rfl, ho', ⟨⟨v, k.chg ch (fun e => s.ne e.symm) (fun j hj e => s.rs.row_ne k.own (by decide) j hj e)⟩, rs, s.below.trans b, Nat.le_trans s.le b.size, s.sz⟩, fun v' rs' o => chg_row o ch (fun j hj e => s.rs.row_ne o (by decide) j hj e)⟩
def StayS (B g h lim : Nat) (w0 : World) (t : List UInt8) (n1 : Int) (A : ByteArray) (past : Nat) (n2 : Int) (r : Value) (e : Ending) (w' : World) : Prop := e = .returned r ∧ Ss B g h lim w0 t n1 A past n2 w'
theorem sameS {B g h lim past : Nat} {w0 w : World} {t : List UInt8} {n1 n2 : Int} {A : ByteArray} {a b : Option Addr} {c d : Nat} {ps : List ByteArray} (s : Ss B g h lim w0 t n1 A past n2 w) (x : OutT B w (.slice a ps.length c) ps) (y : OutT B w (.slice b ps.length d) ps) (hn : ps.length ≤ 140737488355328) :
    Calls Try.prog 19 #[.slice a ps.length c, .slice b ps.length d] w (StayS B g h lim w0 t n1 A past n2 (.bool true)) := by
  obtain ⟨a', c', e, ix⟩ := x.is
  injection e with e1 _ e3
  subst e1 e3
  obtain ⟨b', d', e, iy⟩ := y.is
  injection e with e1 _ e3
  subst e1 e3
  exact (same5_true a b c d ps w ix iy hn).mono fun e w' ⟨he, hb⟩ => ⟨he, s.later hb⟩
theorem lostS {B g h lim past : Nat} {w0 w : World} {t : List UInt8} {n1 n2 : Int} {A : ByteArray} (s : Ss B g h lim w0 t n1 A past n2 w) : CalcN 22 #[.pointer (some ⟨g, 0, none⟩)] w (.int .i64 n1) := by
  obtain ⟨v, k⟩ := s.sk
  exact slost_spec B g lim v t n1 w k
theorem endA {B g h lim past : Nat} {w0 w : World} {t : List UInt8} {n1 n2 : Int} {A : ByteArray} (s : Ss B g h lim w0 t n1 A past n2 w) (x : ByteArray) (hx : lst x = t.take (lim + 1)) : CalcN 23 #[.pointer (some ⟨g, 0, none⟩)] w (.string x) := by
  obtain ⟨v, k⟩ := s.sk
  refine (sendt_spec B g lim v t n1 w k).mono ?_
  rintro e w' ⟨y, rfl, hy, rfl⟩
  exact ⟨by rw [lst_inj (hy.trans hx.symm)], rfl⟩
theorem endB {B g h lim past : Nat} {w0 w : World} {t : List UInt8} {n1 n2 : Int} {A : ByteArray} (s : Ss B g h lim w0 t n1 A past n2 w) (x : ByteArray) (hx : lst x = (lastL [] (lst A)).take (lim + 1)) (hl : lim ≤ 1024) (hz : A.size ≤ 4000000000000) : Calls Try.prog 24 #[.pointer (some ⟨h, 0, none⟩)] w (StayS B g h lim w0 t n1 A past n2 (.string x)) := by
  refine (rsend_spec B h lim past n2 A w s.rs hl hz).mono ?_
  rintro e w' ⟨y, rfl, hy, hb⟩
  exact ⟨by rw [lst_inj (hy.trans hx.symm)], s.later hb⟩
theorem lost_le (lim : Nat) (xs : List (List UInt8)) : 0 ≤ lostL lim xs ∧ lostL lim xs ≤ xs.length := by
  induction xs with
  | nil => simp [lostL]
  | cons x r ih =>
    have := endN_le lim x
    rw [lostL, List.length_cons]
    omega
theorem heads_len (t l : List UInt8) : (headsL t l).length ≤ l.length := by
  have := cutL_len 10 l t
  unfold headsL
  rw [List.length_dropLast]
  omega
theorem tell_len (lim : Nat) (t l : List UInt8) : (tellL lim (headsL t l)).length ≤ l.length := by
  unfold tellL
  refine Nat.le_trans (List.length_filter_le _ _) ?_
  rw [List.length_map]
  exact heads_len t l
end Go.Proofs.Ythaphijkfedihaa
