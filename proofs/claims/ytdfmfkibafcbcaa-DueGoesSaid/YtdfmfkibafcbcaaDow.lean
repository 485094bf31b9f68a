/- due: two queues and the reference's, side by side (for DueOwn). -/
import Derived.Test.YtdfmfkibafcbcaaDrd
import Derived.Test.YtdfmfkibafcbcaaLawdk
namespace Go.Proofs.Ytdfmfkibafcbcaa
set_option linter.unusedVariables false
set_option linter.unusedSimpArgs false
open Go.RowKit W Go.Maps
/-- Behind a change that touches neither. -/
theorem DJ.chg {W : World} {qb kb mb rb lim : Nat} {wr w' : World} {v : Value} {a : Option Addr} {c : Nat} {r r' : List En} {S : Nat → Prop} (h : DJ W qb kb mb rb lim wr v a c r r') (C : Chg S wr w') (hS : ∀ k, S k → W.heap.size ≤ k) (nq : ¬ S qb) (n3 : ∀ k, kS3 kb mb v k → ¬ S k) (nr : ¬ S rb) (na : ∀ ad, a = some ad → ¬ S ad.block) : DJ W qb kb mb rb lim w' v a c r r' := by
  refine ⟨h.qa.chg C nq n3, ⟨h.rq.r.chg C nr, isE_chg h.rq.is C na, h.rq.cap, h.rq.capm, h.rq.adr, h.rq.nil, fun ad e => Nat.lt_of_lt_of_le (h.rq.alt ad e) C.size⟩, h.ks, h.le, h.bl.trans (C.below hS h.bl.size), h.na⟩
/-- A queue, the reference's, and a second queue. -/
structure OJ (W : World) (B1 qb kb mb rb lim pb kp mp l2 : Nat) (wr : World) (v vp : Value) (a : Option Addr) (c : Nat) (r r' rp : List En) : Prop where
  dj : DJ W qb kb mb rb lim wr v a c r r'
  qp : QA B1 wr pb kp mp l2 vp rp
  nk : kp ≠ kb
  nm : mp ≠ mb
  nv : Apt v vp
  np : pb ≠ qb
  na : ∀ ad, a = some ad → ¬ kS3 kp mp vp ad.block
  b1 : W.heap.size ≤ B1
section
variable {W : World} {B1 qb kb mb rb lim pb kp mp l2 : Nat} {wr w' : World} {v v' vp vp' : Value} {a a' : Option Addr} {c c' : Nat} {r r' r2 rp rp' : List En}
theorem OJ.later (h : OJ W B1 qb kb mb rb lim pb kp mp l2 wr v vp a c r r' rp) (b : Below wr.heap.size wr w') : OJ W B1 qb kb mb rb lim pb kp mp l2 w' v vp a c r r' rp :=
  ⟨h.dj.later b, h.qp.later b, h.nk, h.nm, h.nv, h.np, h.na, h.b1⟩
theorem OJ.apt (h : OJ W B1 qb kb mb rb lim pb kp mp l2 wr v vp a c r r' rp) : ∀ k, kS3 kp mp vp k → ¬ kS3 kb mb v k := by
  obtain ⟨l1, h1, _⟩ := h.dj.qa.hq
  obtain ⟨l2, h2, _⟩ := h.qp.hq
  rintro k (z | z | z) (y | y | y)
  · exact h.nk (z.symm.trans y)
  · exact h2.kq.km.k.ne_map h1.kq.km.map (z.symm.trans y)
  · exact h2.kq.km.k.ne_row h1.kq.km.row (by decide) (by rw [← z]; exact y)
  · exact h1.kq.km.k.ne_map h2.kq.km.map (y.symm.trans z)
  · exact h.nm (z.symm.trans y)
  · exact row_ne_map h1.kq.km.row h2.kq.km.map (by rw [← z]; exact y)
  · exact h1.kq.km.k.ne_row h2.kq.km.row (by decide) (by rw [← y]; exact z)
  · exact row_ne_map h2.kq.km.row h1.kq.km.map (by rw [← y]; exact z)
  · exact h.nv k y z
theorem OJ.q (h : OJ W B1 qb kb mb rb lim pb kp mp l2 wr v vp a c r r' rp) (d : DJ W qb kb mb rb lim w' v' a c r2 r') (C : Chg (kS3 kb mb v) wr w') (m : Mvd wr v v') : OJ W B1 qb kb mb rb lim pb kp mp l2 w' v' vp a c r2 r' rp := by
  refine ⟨d, h.qp.chg C (h.qp.q.nk7 h.dj.qa (by decide) (by decide)) h.apt, h.nk, h.nm, fun k e q => ?_, h.np, h.na, h.b1⟩
  rcases m k e with y | y
  · exact h.nv k y q
  · have := (h.qp.old k (.inr (.inr q))).2; omega
theorem OJ.rf (h : OJ W B1 qb kb mb rb lim pb kp mp l2 wr v vp a c r r' rp) (d : DJ W qb kb mb rb lim w' v a' c' r r2) (C : Chg (· = rb) wr w') (m : MvA wr a a') : OJ W B1 qb kb mb rb lim pb kp mp l2 w' v vp a' c' r r2 rp := by
  refine ⟨d, h.qp.chg C (h.qp.q.ne h.dj.rq.r (by decide)) ?_, h.nk, h.nm, h.nv, h.np, fun ad e z => ?_, h.b1⟩
  · rintro k z rfl; exact h.dj.rq.r.nk7 h.qp (by decide) (by decide) z
  · rcases m ad e with ⟨x, ex, y⟩ | y
    · exact h.na x ex (by rw [y]; exact z)
    · have := (h.qp.old _ z).2; omega
theorem OJ.p (h : OJ W B1 qb kb mb rb lim pb kp mp l2 wr v vp a c r r' rp) (q : QA B1 w' pb kp mp l2 vp' rp') (C : Chg (kS3 kp mp vp) wr w') (m : Mvd wr vp vp') : OJ W B1 qb kb mb rb lim pb kp mp l2 w' v vp' a c r r' rp' := by
  refine ⟨h.dj.chg C (fun k z => Nat.le_trans h.b1 (h.qp.old k z).1) (h.dj.qa.q.nk7 h.qp (by decide) (by decide)) (fun k y z => h.apt k z y) (h.dj.rq.r.nk7 h.qp (by decide) (by decide)) h.na, q, h.nk, h.nm, fun k e z => ?_, h.np, fun ad e z => ?_, h.b1⟩
  · rcases m k z with y | y
    · exact h.nv k e y
    · have := (h.dj.qa.old k (.inr (.inr e))).2; omega
  · rcases z with z | z | z
    · exact h.na ad e (.inl z)
    · exact h.na ad e (.inr (.inl z))
    · rcases m _ z with y | y
      · exact h.na ad e (.inr (.inr y))
      · have := h.dj.rq.alt ad e; omega
-- The calls.
theorem oset (h : OJ W B1 qb kb mb rb lim pb kp mp l2 wr v vp a c r r' rp) (key : ByteArray) (hs : key.size ≤ maxLen) (t : Int) :
    Calls Try.prog 13 #[.pointer (some ⟨qb, 0, none⟩), .string key, .int .i64 t] wr fun e w' => ∃ v', e = .returned (.int .i64 (stC lim r key)) ∧ Hid (OJ W B1 qb kb mb rb lim pb kp mp l2 w' v' vp a c (stR lim r key t) r' rp) := by
  refine (qset_spec h.dj.qa h.dj.bl.size key hs t).mono ?_
  rintro e w' ⟨v', rfl, q, C, m⟩
  exact ⟨v', rfl, h.q (h.dj.q q C m) C m⟩
theorem orset (h : OJ W B1 qb kb mb rb lim pb kp mp l2 wr v vp a c r r' rp) (hrb : W.heap.size ≤ rb) (key : ByteArray) (t : Int) :
    Calls Try.prog 14 #[.pointer (some ⟨rb, 0, none⟩), .string key, .int .i64 t] wr fun e w' => ∃ a' c', e = .returned (.int .i64 (stC lim r' key)) ∧ Hid (OJ W B1 qb kb mb rb lim pb kp mp l2 w' v vp a' c' r (stR lim r' key t) rp) := by
  refine (jrset h.dj hrb key t).mono ?_
  rintro e w' ⟨a', c', rfl, d, C, m⟩
  exact ⟨a', c', rfl, h.rf d.out C.out m.out⟩
/-- And what was taken, one's own. -/
structure TO (W : World) (B1 qb kb mb rb lim pb kp mp l2 : Nat) (wr : World) (v vp : Value) (a : Option Addr) (c : Nat) (r r' rp : List En) (Bs n : Nat) (s : Value) (xs : List Value) : Prop where
  oj : OJ W B1 qb kb mb rb lim pb kp mp l2 wr v vp a c r r' rp
  row : wr.ownsRow Bs 43 2 s n xs
  av : Apt s v
  ap : Apt s vp
  aa : ∀ ad, a = some ad → s.ownBlock ≠ some ad.block
  bs : W.heap.size ≤ Bs
  bz : Bs ≤ wr.heap.size
theorem TO.later {Bs n : Nat} {s : Value} {xs : List Value} (h : TO W B1 qb kb mb rb lim pb kp mp l2 wr v vp a c r r' rp Bs n s xs) (b : Below wr.heap.size wr w') : TO W B1 qb kb mb rb lim pb kp mp l2 w' v vp a c r r' rp Bs n s xs :=
  ⟨h.oj.later b, chg_row h.row (Chg.of_below (S := fun _ => False) b) (fun _ _ q => q), h.av, h.ap, h.aa, h.bs, Nat.le_trans h.bz b.size⟩
/-- Written to: the rest is as it was. -/
theorem TO.chg {Bs n : Nat} {s : Value} {xs : List Value} (h : TO W B1 qb kb mb rb lim pb kp mp l2 wr v vp a c r r' rp Bs n s xs) (C : Chg (fun k => s.ownBlock = some k) wr w') : OJ W B1 qb kb mb rb lim pb kp mp l2 w' v vp a c r r' rp := by
  obtain ⟨l1, h1, _⟩ := h.oj.dj.qa.hq
  obtain ⟨l2, h2, _⟩ := h.oj.qp.hq
  refine ⟨h.oj.dj.chg C (fun k z => Nat.le_trans h.bs (own_old h.row z).1) (h.oj.dj.qa.q.ne_row h.row (by decide)) ?_ (h.oj.dj.rq.r.ne_row h.row (by decide)) (fun ad e => h.aa ad e), h.oj.qp.chg C (h.oj.qp.q.ne_row h.row (by decide)) ?_, h.oj.nk, h.oj.nm, h.oj.nv, h.oj.np, h.oj.na, h.oj.b1⟩
  · rintro k (z | z | z) y
    · exact h1.kq.km.k.ne_row h.row (by decide) (by rw [← z]; exact y)
    · exact row_ne_map h.row h1.kq.km.map (by rw [← z]; exact y)
    · exact h.av k y z
  · rintro k (z | z | z) y
    · exact h2.kq.km.k.ne_row h.row (by decide) (by rw [← z]; exact y)
    · exact row_ne_map h.row h2.kq.km.map (by rw [← z]; exact y)
    · exact h.ap k y z
theorem TO.put {Bs n g c1 : Nat} {xs : List Value} (h : TO W B1 qb kb mb rb lim pb kp mp l2 wr v vp a c r r' rp Bs n (.slice (some ⟨g, 0, none⟩) n c1) xs) (i : Nat) (hi : i < n * 2) (u : Value) : TO W B1 qb kb mb rb lim pb kp mp l2 (wr.setCell ⟨g, i, none⟩ u) v vp a c r r' rp Bs n (.slice (some ⟨g, 0, none⟩) n c1) (xs.set i u) :=
  ⟨h.chg (Chg.set _ rfl), row_put h.row i hi u, h.av, h.ap, h.aa, h.bs, by rw [World.size_setCell]; exact h.bz⟩
theorem otake (h : OJ W B1 qb kb mb rb lim pb kp mp l2 wr v vp a c r r' rp) (now : Int) :
    Calls Try.prog 18 #[.pointer (some ⟨qb, 0, none⟩), .int .i64 now] wr fun e w' => ∃ v' A1 c1, e = .returned (.slice A1 (tkR r now).length c1) ∧ Hid (TO W B1 qb kb mb rb lim pb kp mp l2 w' v' vp a c (drR r now) r' rp wr.heap.size (tkR r now).length (.slice A1 (tkR r now).length c1) (dues (tkR r now))) := by
  refine (qtake_spec h.dj.qa h.dj.bl.size now).mono ?_
  rintro e w' ⟨v', s, rfl, o, q, C, m, ap⟩
  obtain ⟨A1, c1, rfl, _, _⟩ := own_form o
  refine ⟨v', A1, c1, rfl, h.q (h.dj.q q C m) C m, o, ap, fun k e z => ?_, fun ad e z => ?_, h.dj.bl.size, C.size⟩
  · have := (own_old o e).1
    have := (h.qp.old k (.inr (.inr z))).2
    omega
  · have := (own_old o z).1
    have := h.dj.rq.alt ad e
    omega
theorem ortake {Bs n : Nat} {s : Value} {xs : List Value} (h : TO W B1 qb kb mb rb lim pb kp mp l2 wr v vp a c r r' rp Bs n s xs) (hrb : W.heap.size ≤ rb) (now : Int) :
    Calls Try.prog 19 #[.pointer (some ⟨rb, 0, none⟩), .int .i64 now] wr fun e w' => ∃ c1 a' c', e = .returned (.slice a (tkR r' now).length c1) ∧ Hid (IsE w' a (tkR r' now)) ∧ Hid (TO W B1 qb kb mb rb lim pb kp mp l2 w' v vp a' c' r (drR r' now) rp Bs n s xs) := by
  refine (jrtake h.oj.dj hrb now).mono ?_
  rintro e w' ⟨c1, a', c', rfl, I, d, C, m⟩
  refine ⟨c1, a', c', rfl, I.out, h.oj.rf d.out C.out m.out, row_ref7 h.row h.oj.dj.rq C.out, h.av, h.ap, fun ad e z => ?_, h.bs, Nat.le_trans h.bz C.out.size⟩
  rcases m.out ad e with ⟨x, ex, y⟩ | y
  · exact h.aa x ex (by rw [y]; exact z)
  · have := (own_old h.row z).2; omega
end
end Go.Proofs.Ytdfmfkibafcbcaa
