/- Three streams side by side. (gen_s3.py) -/
import Derived.Test.YthaphijkfedihaaSstate
namespace Go.Proofs.Ythaphijkfedihaa
set_option linter.unusedVariables false
set_option linter.unusedSimpArgs false
open Go.RowKit W
theorem lastL_cut (t l : List UInt8) : (cutL 10 t l).getLastD [] = lastL t l := rfl
theorem heads_app (t x y : List UInt8) : headsL t (x ++ y) = headsL t x ++ headsL (lastL t x) y := by
  unfold headsL
  rw [cut_app, lastL_cut, List.dropLast_append_of_ne_nil]
  intro q
  have := cutL_pos 10 y (lastL t x)
  rw [q] at this
  simp at this
theorem last_app (t x y : List UInt8) : lastL t (x ++ y) = lastL (lastL t x) y := by
  have p := cutL_pos 10 y (lastL t x)
  unfold lastL at p ⊢
  rw [cut_app]
  cases q : cutL 10 ((cutL 10 t x).getLastD []) y with
  | nil => rw [q] at p; simp at p
  | cons a r =>
    rw [List.getLastD_eq_getLast?, List.getLastD_eq_getLast?, List.getLast?_append]
    rw [List.getLast?_eq_some_getLast (by simp)]
    rfl
theorem tell_app (lim : Nat) (xs ys : List (List UInt8)) : tellL lim (xs ++ ys) = tellL lim xs ++ tellL lim ys := by unfold tellL; rw [List.map_append, List.filter_append]
theorem lost_app (lim : Nat) (xs ys : List (List UInt8)) : lostL lim (xs ++ ys) = lostL lim xs + lostL lim ys := by
  induction xs with
  | nil => simp [lostL]
  | cons x r ih => rw [List.cons_append, lostL, lostL, ih]; omega
/-- No block is both's. -/
def Ap (u v : Value) : Prop := ∀ k, u.ownBlock = some k → v.ownBlock ≠ some k
theorem Ap.symm {u v : Value} (h : Ap u v) : Ap v u := fun k hk q => h k q hk
structure S3 (B g1 g2 g3 lim : Nat) (w0 : World) (t1 : List UInt8) (n1 : Int) (t2 : List UInt8) (n2 : Int) (t3 : List UInt8) (n3 : Int) (w : World) : Prop where
  ex : ∃ v1 v2 v3, SkV B w g1 lim v1 t1 n1 ∧ SkV B w g2 lim v2 t2 n2 ∧ SkV B w g3 lim v3 t3 n3 ∧ Ap v1 v2 ∧ Ap v1 v3 ∧ Ap v2 v3
  ne : g1 ≠ g2 ∧ g1 ≠ g3 ∧ g2 ≠ g3
  below : Below B w0 w
  le : B ≤ w.heap.size
  sz : w0.heap.size = B
section
variable {B g1 g2 g3 lim : Nat} {w0 w w' : World} {t1 t2 t3 : List UInt8} {n1 n2 n3 : Int}
theorem S3.rot (s : S3 B g1 g2 g3 lim w0 t1 n1 t2 n2 t3 n3 w) : S3 B g2 g3 g1 lim w0 t2 n2 t3 n3 t1 n1 w := by
  obtain ⟨v1, v2, v3, k1, k2, k3, a, b, c⟩ := s.ex
  exact ⟨⟨v2, v3, v1, k2, k3, k1, c, a.symm, b.symm⟩, ⟨s.ne.2.2, s.ne.1.symm, s.ne.2.1.symm⟩, s.below, s.le, s.sz⟩
theorem SkV.row_ne {g : Nat} {v : Value} {t : List UInt8} {n : Int} (k : SkV B w g lim v t n) {base m e : Nat} {vl : Value} {xs : List Value} (o : w.ownsRow base e 1 vl m xs) (he : e ≠ 65) (j : Nat) (hj : vl.ownBlock = some j) : j ≠ g := by
  rintro rfl
  obtain ⟨_, cs, hc⟩ := own_blk o hj
  rw [k.blk] at hc
  injection hc with hc
  injection hc with _ hc
  exact he hc.symm
theorem SkV.other {g g' : Nat} {v v' : Value} {t t' : List UInt8} {n n' : Int} (k : SkV B w g lim v t n) (k' : SkV B w g' lim v' t' n') (hne : g ≠ g') (ap : Ap v v') (c : Chg (Sg g v) w w') : SkV B w' g' lim v' t' n' :=
  k'.chg c (by
    rintro (q | q)
    · exact hne q.symm
    · exact k'.row_ne k.own (by decide) _ q rfl) (by
    rintro j hj (q | q)
    · exact k.row_ne k'.own (by decide) j hj q
    · exact ap j q hj)
theorem Ap.new {u v v' : Value} {e m : Nat} {xs : List Value} {base : Nat} (a : Ap v u) (n : NewOr w v v') (o : w.ownsRow base e 1 u m xs) : Ap v' u := by
  intro k hk q
  rcases n with e | e
  · exact a k (by rw [← e]; exact hk) q
  · have := e k hk
    obtain ⟨_, cs, hc⟩ := own_blk o q
    have := blk_lt hc
    omega
theorem S3.later (s : S3 B g1 g2 g3 lim w0 t1 n1 t2 n2 t3 n3 w) (b : Below w.heap.size w w') : S3 B g1 g2 g3 lim w0 t1 n1 t2 n2 t3 n3 w' := by
  obtain ⟨v1, v2, v3, k1, k2, k3, a⟩ := s.ex
  exact ⟨⟨v1, v2, v3, k1.later b, k2.later b, k3.later b, a⟩, s.ne, s.below.trans (b.mono s.le), Nat.le_trans s.le b.size, s.sz⟩
theorem S3.app (s : S3 B g1 g2 g3 lim w0 t1 n1 t2 n2 t3 n3 w) {base : Nat} {vl : Value} {qs : List ByteArray} (o : OutT base w vl qs) (hb : B ≤ base) (hg : w.grownBy w' vl.ownBlock) : S3 B g1 g2 g3 lim w0 t1 n1 t2 n2 t3 n3 w' := by
  obtain ⟨v1, v2, v3, k1, k2, k3, a⟩ := s.ex
  have c : Chg (fun k => vl.ownBlock = some k) w w' := Chg.grown hg (fun _ q => q)
  have f : ∀ {g : Nat} {v : Value} {t : List UInt8} {n : Int}, SkV B w g lim v t n → SkV B w' g lim v t n := by
    intro g v t n k
    refine k.chg c (fun q => k.row_ne o (by decide) _ q rfl) (fun j hj q => ?_)
    obtain ⟨_, cs, hc⟩ := own_blk o q
    obtain ⟨_, cs', hc'⟩ := own_blk k.own hj
    rw [hc] at hc'
    injection hc' with hc'
    injection hc' with _ hc'
    exact absurd hc' (by decide)
  have b : Below B w w' := c.below (fun k q => Nat.le_trans hb (own_blk o q).1) s.le
  exact ⟨⟨v1, v2, v3, f k1, f k2, f k3, a⟩, s.ne, s.below.trans b, Nat.le_trans s.le c.size, s.sz⟩
theorem OutT.app {b1 base : Nat} {vl vm : Value} {ps qs : List ByteArray} (o : OutT b1 w vl ps) (hlt : ∀ k, vl.ownBlock = some k → k < base) (o2 : OutT base w vm qs) (hg : w.grownBy w' vm.ownBlock) : OutT b1 w' vl ps :=
  chg_row o (Chg.grown (S := fun k => vm.ownBlock = some k) hg (fun _ q => q)) (fun k hk q => by have := hlt k hk; have := (own_blk o2 q).1; omega)
theorem OutT.lt {b1 : Nat} {vl : Value} {ps : List ByteArray} (o : OutT b1 w vl ps) : ∀ k, vl.ownBlock = some k → k < w.heap.size := by
  intro k hk
  obtain ⟨_, cs, hc⟩ := own_blk o hk
  exact blk_lt hc
end
def Feed1 (B g1 g2 g3 lim : Nat) (w0 : World) (t1 : List UInt8) (n1 : Int) (t2 : List UInt8) (n2 : Int) (t3 : List UInt8) (n3 : Int) (ps : List ByteArray) (w : World) (e : Ending) (w' : World) : Prop :=
  ∃ a c, e = .returned (.slice a ps.length c) ∧ OutT w.heap.size w' (.slice a ps.length c) ps ∧ S3 B g1 g2 g3 lim w0 t1 n1 t2 n2 t3 n3 w' ∧ (∀ b v qs, OutT b w v qs → OutT b w' v qs) ∧ w.heap.size ≤ w'.heap.size
theorem feed1 {B g1 g2 g3 lim : Nat} {w0 w : World} {t1 t2 t3 : List UInt8} {n1 n2 n3 : Int} (l : List UInt8) (a : Option Addr) (c : Nat) (ps : List ByteArray) (hps : ps.map lst = tellL lim (headsL t1 l)) (s : S3 B g1 g2 g3 lim w0 t1 n1 t2 n2 t3 n3 w) (hl : lim ≤ 1024) (h0 : 0 ≤ n1) (hz : n1 + l.length ≤ 4000000000000) (hc : l.length ≤ c) (hn : a = none → l.length = 0 ∧ c = 0) (ib : IsBytes w0 a l) :
    Calls Try.prog 20 #[.pointer (some ⟨g1, 0, none⟩), .slice a l.length c] w (Feed1 B g1 g2 g3 lim w0 (lastL t1 l) (n1 + lostL lim (headsL t1 l)) t2 n2 t3 n3 ps w) := by
  obtain ⟨v1, v2, v3, k1, k2, k3, p, q, r⟩ := s.ex
  refine (feed_spec B g1 lim v1 t1 l n1 w0 w a c k1 hl s.le h0 hz hc hn ib (by rw [s.sz]; exact s.below) (by rw [s.sz]; exact Nat.le_refl _)).mono ?_
  rintro e w' ⟨vl, qs, u, rfl, hq, ho, fd⟩
  obtain rfl : qs = ps := txts_eq (hq.trans hps.symm)
  have ho' : OutT w.heap.size w' vl qs := ho
  obtain ⟨a', c', rfl, _⟩ := ho'.is
  have b := fd.below k1 s.le
  exact ⟨a', c', rfl, ho', ⟨⟨u, v2, v3, fd.sk, k1.other k2 s.ne.1 p fd.chg, k1.other k3 s.ne.2.1 q fd.chg, p.new fd.new k2.own, q.new fd.new k3.own, r⟩, s.ne, s.below.trans b, Nat.le_trans s.le b.size, s.sz⟩, fun b v' rs o => row_sk k1 o fd.chg, fd.chg.size⟩
theorem feed2 {B g1 g2 g3 lim : Nat} {w0 w : World} {t1 t2 t3 : List UInt8} {n1 n2 n3 : Int} (l : List UInt8) (a : Option Addr) (c : Nat) (ps : List ByteArray) (hps : ps.map lst = tellL lim (headsL t2 l)) (s : S3 B g1 g2 g3 lim w0 t1 n1 t2 n2 t3 n3 w) (hl : lim ≤ 1024) (h0 : 0 ≤ n2) (hz : n2 + l.length ≤ 4000000000000) (hc : l.length ≤ c) (hn : a = none → l.length = 0 ∧ c = 0) (ib : IsBytes w0 a l) :
    Calls Try.prog 20 #[.pointer (some ⟨g2, 0, none⟩), .slice a l.length c] w (Feed1 B g1 g2 g3 lim w0 t1 n1 (lastL t2 l) (n2 + lostL lim (headsL t2 l)) t3 n3 ps w) :=
  (feed1 l a c ps hps s.rot hl h0 hz hc hn ib).mono fun e w' ⟨a', c', h1, h2, h3, h4⟩ => ⟨a', c', h1, h2, h3.rot.rot, h4⟩
theorem feed3 {B g1 g2 g3 lim : Nat} {w0 w : World} {t1 t2 t3 : List UInt8} {n1 n2 n3 : Int} (l : List UInt8) (a : Option Addr) (c : Nat) (ps : List ByteArray) (hps : ps.map lst = tellL lim (headsL t3 l)) (s : S3 B g1 g2 g3 lim w0 t1 n1 t2 n2 t3 n3 w) (hl : lim ≤ 1024) (h0 : 0 ≤ n3) (hz : n3 + l.length ≤ 4000000000000) (hc : l.length ≤ c) (hn : a = none → l.length = 0 ∧ c = 0) (ib : IsBytes w0 a l) :
    Calls Try.prog 20 #[.pointer (some ⟨g3, 0, none⟩), .slice a l.length c] w (Feed1 B g1 g2 g3 lim w0 t1 n1 t2 n2 (lastL t3 l) (n3 + lostL lim (headsL t3 l)) ps w) :=
  (feed1 l a c ps hps s.rot.rot hl h0 hz hc hn ib).mono fun e w' ⟨a', c', h1, h2, h3, h4⟩ => ⟨a', c', h1, h2, h3.rot, h4⟩
theorem lost1 {B g1 g2 g3 lim : Nat} {w0 w : World} {t1 t2 t3 : List UInt8} {n1 n2 n3 : Int} (s : S3 B g1 g2 g3 lim w0 t1 n1 t2 n2 t3 n3 w) : CalcN 22 #[.pointer (some ⟨g1, 0, none⟩)] w (.int .i64 n1) := by
  obtain ⟨v1, v2, v3, k1, _⟩ := s.ex
  exact slost_spec B g1 lim v1 t1 n1 w k1
theorem end1 {B g1 g2 g3 lim : Nat} {w0 w : World} {t1 t2 t3 : List UInt8} {n1 n2 n3 : Int} (s : S3 B g1 g2 g3 lim w0 t1 n1 t2 n2 t3 n3 w) (x : ByteArray) (hx : lst x = t1.take (lim + 1)) : CalcN 23 #[.pointer (some ⟨g1, 0, none⟩)] w (.string x) := by
  obtain ⟨v1, v2, v3, k1, _⟩ := s.ex
  refine (sendt_spec B g1 lim v1 t1 n1 w k1).mono ?_
  rintro e w' ⟨y, rfl, hy, rfl⟩
  exact ⟨by rw [lst_inj (hy.trans hx.symm)], rfl⟩
theorem wpList_append_rows {w : World} {ops : Array Oper} {rest : List Oper} {o : Oper} {a : Act} {Q : Exit → Act → World → Prop} (hgd : o.guard = none) (s x : Operand)
    (ho : o.op = .call { callee := .builtin .append, args := #[s, x], argTypes := #[27, 27] }) (base b2 : Nat) (v : Value) (qs : List ByteArray) (hs : a.eval s = v) (hown : OutT base w v qs) (sa : Option Addr) (c : Nat) (ps : List ByteArray) (hx : a.eval x = .slice sa ps.length c) (hsrc : OutT b2 w (.slice sa ps.length c) ps)
    (h63 : qs.length + ps.length ≤ 1000000000) (hbase : base ≤ w.heap.size) (h : ∀ v' w', OutT base w' v' (qs ++ ps) → w.grownBy w' v.ownBlock → wpList Try.prog ops Q rest (a.put o.dst v') w') : wpList Try.prog ops Q (o :: rest) a w := by
  obtain ⟨i0, hi0, hz0, hz1, hz2⟩ := info_parts info_txt
  cases sa with
  | none =>
    obtain ⟨A, c', e, _, hn⟩ := own_form hsrc
    injection e with e1 _ e3
    subst e1 e3
    obtain ⟨h1, h2⟩ := hn rfl
    obtain rfl := List.eq_nil_of_length_eq_zero h1
    subst h2
    exact wpList_append_own_none hgd s x 27 ho base 9 i0 1 Try.underlying27 hi0 v qs.length (qs.map Value.string) hs hown hx (h v w (by rw [List.append_nil]; exact hown) (World.grownBy.refl _ _))
  | some ad =>
    obtain ⟨g, hg⟩ : ∃ g, ad = ⟨g, 0, none⟩ := by
      rcases hsrc.2 with ⟨e, _⟩ | ⟨g, cap, cur, e, _⟩
      · cases e
      · injection e with e; injection e with e; exact ⟨g, e⟩
    subst hg
    refine wpList_append_own _ hgd s x 27 ho base 9 i0 (.string ByteArray.empty) 1 16 Try.underlying27 hi0 hz0 hz1 hz2 rfl (by decide) v qs.length (qs.map Value.string) hs hown ⟨g, 0, none⟩ ps.length c (ps.map Value.string) hx (by rw [List.length_map, Nat.mul_one]) (World.ownsRow.cells hsrc (g := g) rfl) ?_ (by unfold maxLen; omega) (by omega) hbase ?_
    · intro u hu
      obtain ⟨y, _, rfl⟩ := List.mem_map.1 hu
      rfl
    · intro v' w' h1 h2 _
      refine h v' w' ?_ h2
      unfold OutT
      rw [List.length_append, List.map_append]
      exact h1
end Go.Proofs.Ythaphijkfedihaa
