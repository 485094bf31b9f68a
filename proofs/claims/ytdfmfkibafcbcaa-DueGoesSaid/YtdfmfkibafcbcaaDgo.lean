/- due: what holds while a queue is ranged over and changed (for DueGoes). -/
import Derived.Test.YtdfmfkibafcbcaaDow
namespace Go.Proofs.Ytdfmfkibafcbcaa
set_option linter.unusedVariables false
set_option linter.unusedSimpArgs false
open Go.RowKit W Go.Maps
theorem Bw.inj {w : World} {b : Nat} {t t' : TypeId} {cs cs' : Array Value} (h : Bw w b t cs) (k : Bw w b t' cs') : cs = cs' := by
  have e := (show w.heap[b]? = _ from h).symm.trans k
  simp at e
  exact e.1
/-- The boxes of the statement's own. -/
structure Bx5 (w : World) (b5 b6 b7 b8 b9 qb : Nat) (i : Int) (key : ByteArray) (t : Int) : Prop where
  x5 : Bw w b5 3 #[.int .i64 i]
  x6 : Bw w b6 9 #[.string key]
  x7 : Bw w b7 2 #[.int .i64 t]
  x8 : Bw w b8 4 #[.bool false]
  x9 : Bw w b9 23 #[.pointer (some ⟨qb, 0, none⟩)]
section
variable {w w' : World} {b5 b6 b7 b8 b9 qb : Nat} {i : Int} {key : ByteArray} {t : Int}
theorem Bx5.chg {S : Nat → Prop} (h : Bx5 w b5 b6 b7 b8 b9 qb i key t) (C : Chg S w w') (n5 : ¬ S b5) (n6 : ¬ S b6) (n7 : ¬ S b7) (n8 : ¬ S b8) (n9 : ¬ S b9) : Bx5 w' b5 b6 b7 b8 b9 qb i key t :=
  ⟨h.x5.chg C n5, h.x6.chg C n6, h.x7.chg C n7, h.x8.chg C n8, h.x9.chg C n9⟩
theorem Bx5.later (h : Bx5 w b5 b6 b7 b8 b9 qb i key t) (b : Below w.heap.size w w') : Bx5 w' b5 b6 b7 b8 b9 qb i key t := h.chg (S := fun _ => False) (Chg.of_below b) (fun q => q) (fun q => q) (fun q => q) (fun q => q) (fun q => q)
theorem Bx5.q {B kb mb lim qb' : Nat} {v : Value} {r : List En} (h : Bx5 w b5 b6 b7 b8 b9 qb i key t) (q : QA B w qb' kb mb lim v r) (C : Chg (kS3 kb mb v) w w') : Bx5 w' b5 b6 b7 b8 b9 qb i key t :=
  h.chg C (h.x5.nk7 q (by decide) (by decide)) (h.x6.nk7 q (by decide) (by decide)) (h.x7.nk7 q (by decide) (by decide)) (h.x8.nk7 q (by decide) (by decide)) (h.x9.nk7 q (by decide) (by decide))
theorem Bx5.rf {rb c : Nat} {lim : Int} {a : Option Addr} {L : List En} (h : Bx5 w b5 b6 b7 b8 b9 qb i key t) (q : RQ w rb lim a c L) (C : Chg (· = rb) w w') : Bx5 w' b5 b6 b7 b8 b9 qb i key t :=
  h.chg C (h.x5.ne q.r (by decide)) (h.x6.ne q.r (by decide)) (h.x7.ne q.r (by decide)) (h.x8.ne q.r (by decide)) (h.x9.ne q.r (by decide))
end
theorem stR_sz {lim : Nat} {r : List En} (h : ∀ e ∈ r, e.1.size ≤ maxLen) {key : ByteArray} (hk : key.size ≤ maxLen) (t : Int) : ∀ e ∈ stR lim r key t, e.1.size ≤ maxLen := by
  intro e he
  unfold stR at he
  split at he
  · have := (insE_perm _ _).subset he
    rcases List.mem_cons.1 this with q | q
    · rw [q]; exact hk
    · exact h e (List.mem_filter.1 q).1
  · exact h e he
/-- While keys are set: both, and the boxes. -/
structure LJ (W : World) (qb kb mb rb : Nat) (b5 b6 b7 b8 b9 : Nat) (i : Int) (key : ByteArray) (t : Int) (wr : World) (v : Value) (a : Option Addr) (c : Nat) (r r' : List En) : Prop where
  dj : DJ W qb kb mb rb 65536 wr v a c r r'
  bx : Bx5 wr b5 b6 b7 b8 b9 qb i key t
section
variable {W : World} {qb kb mb rb b5 b6 b7 b8 b9 : Nat} {i : Int} {key : ByteArray} {t : Int} {wr w' : World} {v v' : Value} {a a' : Option Addr} {c c' : Nat} {r r' r2 : List En}
theorem LJ.later (h : LJ W qb kb mb rb b5 b6 b7 b8 b9 i key t wr v a c r r') (b : Below wr.heap.size wr w') : LJ W qb kb mb rb b5 b6 b7 b8 b9 i key t w' v a c r r' := ⟨h.dj.later b, h.bx.later b⟩
theorem lset (h : LJ W qb kb mb rb b5 b6 b7 b8 b9 i key t wr v a c r r') (k : ByteArray) (hs : k.size ≤ maxLen) (u : Int) :
    Calls Try.prog 13 #[.pointer (some ⟨qb, 0, none⟩), .string k, .int .i64 u] wr fun e w' => ∃ v', e = .returned (.int .i64 (stC 65536 r k)) ∧ Hid (LJ W qb kb mb rb b5 b6 b7 b8 b9 i key t w' v' a c (stR 65536 r k u) r') := by
  refine (jset h.dj k hs u).mono ?_
  rintro e w' ⟨v', rfl, d, C⟩
  exact ⟨v', rfl, ⟨d.out, h.bx.q h.dj.qa C.out⟩⟩
theorem lrset (h : LJ W qb kb mb rb b5 b6 b7 b8 b9 i key t wr v a c r r') (hrb : W.heap.size ≤ rb) (k : ByteArray) (u : Int) :
    Calls Try.prog 14 #[.pointer (some ⟨rb, 0, none⟩), .string k, .int .i64 u] wr fun e w' => ∃ a' c', e = .returned (.int .i64 (stC 65536 r' k)) ∧ Hid (LJ W qb kb mb rb b5 b6 b7 b8 b9 i key t w' v a' c' r (stR 65536 r' k u)) := by
  refine (jrset h.dj hrb k u).mono ?_
  rintro e w' ⟨a', c', rfl, d, C, _⟩
  exact ⟨a', c', rfl, ⟨d.out, h.bx.rf h.dj.rq C.out⟩⟩
end
/-- What does not change while the queue is ranged over. -/
structure GP (W : World) (B0 Bl qb kb mb rb gb ob : Nat) (aO : Option Addr) : Prop where
  egb : gb = B0
  eob : ob ≠ gb
  emb : mb < Bl
  eb0 : W.heap.size ≤ B0
  erb : W.heap.size ≤ rb
  eao : ∀ ad, aO = some ad → ad.block < B0 ∧ ad.block ≠ rb
/-- While the queue is ranged over: the rest, what was there, and what has been got. -/
structure GO (W : World) (B0 Bl qb kb mb rb gb ob b5 b6 b7 b8 b9 : Nat) (i : Int) (key : ByteArray) (t : Int) (R0 : List En) (aO : Option Addr) (n0 cO : Nat) (wr : World) (v s : Value) (a : Option Addr) (c : Nat) (r r' pre : List En) : Prop where
  dj : DJ W qb kb mb rb 65536 wr v a c r r'
  bx : Bx5 wr b5 b6 b7 b8 b9 qb i key t
  xo : Bw wr ob 27 #[.slice aO n0 cO]
  xg : Bw wr gb 27 #[s]
  row : wr.ownsRow B0 43 2 s pre.length (dues pre)
  av : Apt s v
  aa : ∀ ad, a = some ad → s.ownBlock ≠ some ad.block ∧ ad.block ≠ gb
  old : IsE wr aO R0
  no : ∀ ad, aO = some ad → ¬ kS3 kb mb v ad.block
/-- The blocks that a round may write. -/
def ownG (gb kb mb rb : Nat) (W : World) (k : Nat) : Prop := ownB gb W k ∨ ownB kb W k ∨ k = mb ∨ k = rb
section
variable {W : World} {B0 Bl qb kb mb rb gb ob b5 b6 b7 b8 b9 : Nat} {i : Int} {key : ByteArray} {t : Int} {R0 : List En} {aO : Option Addr} {n0 cO : Nat} {wr w' w0 : World} {v v' s s' : Value} {a a' : Option Addr} {c c' : Nat} {r r' r2 pre pre' : List En}
theorem GO.size (h : GO W B0 Bl qb kb mb rb gb ob b5 b6 b7 b8 b9 i key t R0 aO n0 cO wr v s a c r r' pre) (p : GP W B0 Bl qb kb mb rb gb ob aO) : B0 < wr.heap.size := by have := h.xg.lt; rw [p.egb] at this; exact this
theorem GO.later (h : GO W B0 Bl qb kb mb rb gb ob b5 b6 b7 b8 b9 i key t R0 aO n0 cO wr v s a c r r' pre) (b : Below wr.heap.size wr w') : GO W B0 Bl qb kb mb rb gb ob b5 b6 b7 b8 b9 i key t R0 aO n0 cO w' v s a c r r' pre :=
  ⟨h.dj.later b, h.bx.later b, h.xo.later b, h.xg.later b, chg_row h.row (Chg.of_below (S := fun _ => False) b) (fun _ _ q => q), h.av, h.aa, h.old.later b, h.no⟩
theorem GO.nkr (h : GO W B0 Bl qb kb mb rb gb ob b5 b6 b7 b8 b9 i key t R0 aO n0 cO wr v s a c r r' pre) : ∀ k, s.ownBlock = some k → ¬ kS3 kb mb v k := by
  obtain ⟨l1, h1, _⟩ := h.dj.qa.hq
  rintro k e (z | z | z)
  · exact h1.kq.km.k.ne_row h.row (by decide) (by rw [← z]; exact e)
  · exact row_ne_map h.row h1.kq.km.map (by rw [← z]; exact e)
  · exact h.av k e z
theorem GO.q (h : GO W B0 Bl qb kb mb rb gb ob b5 b6 b7 b8 b9 i key t R0 aO n0 cO wr v s a c r r' pre) (p : GP W B0 Bl qb kb mb rb gb ob aO) (d : DJ W qb kb mb rb 65536 w' v' a c r2 r') (C : Chg (kS3 kb mb v) wr w') (m : Mvd wr v v') : GO W B0 Bl qb kb mb rb gb ob b5 b6 b7 b8 b9 i key t R0 aO n0 cO w' v' s a c r2 r' pre := by
  have sz := h.size p
  refine ⟨d, h.bx.q h.dj.qa C, h.xo.chg C (h.xo.nk7 h.dj.qa (by decide) (by decide)), h.xg.chg C (h.xg.nk7 h.dj.qa (by decide) (by decide)), chg_row h.row C h.nkr, fun k e z => ?_, h.aa, isE_chg h.old C h.no, fun ad e z => ?_⟩
  · rcases m k z with y | y
    · exact h.av k e y
    · have := (own_old h.row e).2; omega
  · have := (p.eao ad e).1
    rcases z with z | z | z
    · exact h.no ad e (.inl z)
    · exact h.no ad e (.inr (.inl z))
    · rcases m _ z with y | y
      · exact h.no ad e (.inr (.inr y))
      · omega
theorem GO.rf (h : GO W B0 Bl qb kb mb rb gb ob b5 b6 b7 b8 b9 i key t R0 aO n0 cO wr v s a c r r' pre) (p : GP W B0 Bl qb kb mb rb gb ob aO) (d : DJ W qb kb mb rb 65536 w' v a' c' r r2) (C : Chg (· = rb) wr w') (m : MvA wr a a') : GO W B0 Bl qb kb mb rb gb ob b5 b6 b7 b8 b9 i key t R0 aO n0 cO w' v s a' c' r r2 pre := by
  refine ⟨d, h.bx.rf h.dj.rq C, h.xo.chg C (h.xo.ne h.dj.rq.r (by decide)), h.xg.chg C (h.xg.ne h.dj.rq.r (by decide)), row_ref7 h.row h.dj.rq C, h.av, fun ad e => ?_, isE_chg h.old C (fun ad e => (p.eao ad e).2), h.no⟩
  rcases m ad e with ⟨x, ex, y⟩ | y
  · have := h.aa x ex
    rw [y] at this
    exact this
  · refine ⟨fun z => ?_, ?_⟩
    · have := (own_old h.row z).2; omega
    · have := h.xg.lt; omega
/-- What is got is written. -/
theorem GO.got (h : GO W B0 Bl qb kb mb rb gb ob b5 b6 b7 b8 b9 i key t R0 aO n0 cO wr v s a c r r' pre) (p : GP W B0 Bl qb kb mb rb gb ob aO) (C : Chg (fun k => k = gb ∨ s.ownBlock = some k) wr w') (m : Mvd wr s s') (xg : Bw w' gb 27 #[s']) (row : w'.ownsRow B0 43 2 s' pre'.length (dues pre')) : GO W B0 Bl qb kb mb rb gb ob b5 b6 b7 b8 b9 i key t R0 aO n0 cO w' v s' a c r r' pre' := by
  have sz := h.size p
  obtain ⟨l1, h1, _⟩ := h.dj.qa.hq
  have nb : ∀ {b : Nat} {t' : TypeId} {cs : Array Value}, Bw wr b t' cs → t' ≠ 27 → 43 ≠ t' → ¬ (b = gb ∨ s.ownBlock = some b) := fun x n1 n2 q => by
    rcases q with q | q
    · exact x.ne h.xg n1 q
    · exact x.ne_row h.row n2 q
  refine ⟨h.dj.chg C ?_ (nb h.dj.qa.q (by decide) (by decide)) ?_ (nb h.dj.rq.r (by decide) (by decide)) ?_, h.bx.chg C (nb h.bx.x5 (by decide) (by decide)) (nb h.bx.x6 (by decide) (by decide)) (nb h.bx.x7 (by decide) (by decide)) (nb h.bx.x8 (by decide) (by decide)) (nb h.bx.x9 (by decide) (by decide)), h.xo.chg C ?_, xg, row, fun k e z => ?_, fun ad e => ?_, isE_chg h.old C (fun ad e q => ?_), h.no⟩
  · rintro k (q | q)
    · rw [q, p.egb]; exact p.eb0
    · exact Nat.le_trans p.eb0 (own_old h.row q).1
  · rintro k z (q | q)
    · exact h.xg.nk7 h.dj.qa (by decide) (by decide) (by rw [← q]; exact z)
    · exact h.nkr k q z
  · rintro ad e (q | q)
    · exact (h.aa ad e).2 q
    · exact (h.aa ad e).1 q
  · rintro (q | q)
    · exact p.eob q
    · exact h.xo.ne_row h.row (by decide) q
  · rcases m k e with y | y
    · exact h.av k y z
    · have := (h.dj.qa.old k (.inr (.inr z))).2; omega
  · refine ⟨fun z => ?_, (h.aa ad e).2⟩
    rcases m _ z with y | y
    · exact (h.aa ad e).1 y
    · have := h.dj.rq.alt ad e; omega
  · have := (p.eao ad e).1
    rcases q with q | q
    · rw [q, p.egb] at this; omega
    · have := (own_old h.row q).1; omega
end
end Go.Proofs.Ytdfmfkibafcbcaa
