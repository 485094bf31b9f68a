/- due: the queue and the reference's, side by side. -/
import Derived.Test.YtdfmfkibafcbcaaRdi
import Derived.Test.YtdfmfkibafcbcaaDall
namespace Go.Proofs.Ytdfmfkibafcbcaa
set_option linter.unusedVariables false
set_option linter.unusedSimpArgs false
open Go.RowKit W Go.Maps
theorem Bw.nk7 {B : Nat} {w : World} {t : TypeId} {cs : Array Value} {g qb kb mb lim' : Nat} {v : Value} {r : List En} (h : Bw w g t cs) (q : QA B w qb kb mb lim' v r) (n1 : t ≠ 55) (n2 : 43 ≠ t) : ¬ kS3 kb mb v g := by
  obtain ⟨l, hl, _⟩ := q.hq
  rintro (z | z | z)
  · exact h.ne hl.kq.km.k n1 z
  · exact h.ne_map hl.kq.km.map z
  · exact h.ne_row hl.kq.km.row n2 z
/-- Where Set leaves a list. -/
def stR (lim : Nat) (r : List En) (key : ByteArray) (t : Int) : List En := if hasK r key = true ∨ r.length < lim then setR r key t else r
def stC (lim : Nat) (r : List En) (key : ByteArray) : Int := if hasK r key = true ∨ r.length < lim then 0 else 70
theorem stR_keys {lim : Nat} {r : List En} (h : Keys r) (key : ByteArray) (t : Int) : Keys (stR lim r key t) := by
  unfold stR
  split
  · exact setR_keys h key t
  · exact h
theorem stR_len {lim : Nat} {r : List En} (h : Keys r) (hl : r.length ≤ 65536) (m : lim ≤ 65536) (key : ByteArray) (t : Int) : (stR lim r key t).length ≤ 65536 := by
  unfold stR
  split
  · rename_i q
    rw [setR_len h]
    split
    · exact hl
    · rename_i n
      rcases q with q | q
      · exact absurd q n
      · omega
  · exact hl
/-- Both: the program's queue says r, the reference's says r'. -/
structure DJ (W : World) (qb kb mb rb lim : Nat) (wr : World) (v : Value) (a : Option Addr) (c : Nat) (r r' : List En) : Prop where
  qa : QA W.heap.size wr qb kb mb lim v r
  rq : RQ wr rb (lim : Int) a c r'
  ks : Keys r'
  le : r'.length ≤ 65536
  bl : Below W.heap.size W wr
  na : ∀ ad, a = some ad → ¬ kS3 kb mb v ad.block
section
variable {W : World} {qb kb mb rb lim : Nat} {wr w' : World} {v v' : Value} {a a' : Option Addr} {c c' : Nat} {r r' r2 : List En}
theorem DJ.later (h : DJ W qb kb mb rb lim wr v a c r r') (b : Below wr.heap.size wr w') : DJ W qb kb mb rb lim w' v a c r r' :=
  ⟨h.qa.later b, h.rq.later b, h.ks, h.le, h.bl.trans (b.mono h.bl.size), h.na⟩
theorem DJ.nrb (h : DJ W qb kb mb rb lim wr v a c r r') : ¬ kS3 kb mb v rb := h.rq.r.nk7 h.qa (by decide) (by decide)
/-- The reference's, behind a call of the queue's. -/
theorem DJ.keep (h : DJ W qb kb mb rb lim wr v a c r r') (C : Chg (kS3 kb mb v) wr w') : RQ w' rb (lim : Int) a c r' := by
  refine ⟨h.rq.r.chg C h.nrb, ?_, h.rq.cap, h.rq.capm, h.rq.adr, h.rq.nil, fun ad e => Nat.lt_of_lt_of_le (h.rq.alt ad e) C.size⟩
  rcases h.rq.is with q | ⟨g, o, e, l⟩
  · exact .inl q
  · exact .inr ⟨g, o, e, l.chg C (h.na _ e)⟩
theorem DJ.q (h : DJ W qb kb mb rb lim wr v a c r r') (q : QA W.heap.size w' qb kb mb lim v' r2) (C : Chg (kS3 kb mb v) wr w') (m : Mvd wr v v') : DJ W qb kb mb rb lim w' v' a c r2 r' := by
  refine ⟨q, h.keep C, h.ks, h.le, h.bl.trans (C.below (fun k z => (h.qa.old k z).1) h.bl.size), fun ad e z => ?_⟩
  have al := h.rq.alt ad e
  have na := h.na ad e
  rcases z with z | z | z
  · exact na (.inl z)
  · exact na (.inr (.inl z))
  · rcases m _ z with y | y
    · exact na (.inr (.inr y))
    · omega
theorem DJ.rf (h : DJ W qb kb mb rb lim wr v a c r r') (hrb : W.heap.size ≤ rb) (q : RQ w' rb (lim : Int) a' c' r2) (hk : Keys r2) (hl : r2.length ≤ 65536) (C : Chg (· = rb) wr w') (m : MvA wr a a') : DJ W qb kb mb rb lim w' v a' c' r r2 := by
  refine ⟨h.qa.chg C ?_ ?_, q, hk, hl, h.bl.trans (C.below (fun k (z : k = rb) => by rw [z]; exact hrb) h.bl.size), fun ad e z => ?_⟩
  · exact h.qa.q.ne h.rq.r (by decide)
  · rintro k z rfl; exact h.nrb z
  · rcases m ad e with ⟨x, ex, y⟩ | y
    · exact h.na x ex (by rw [y]; exact z)
    · have := (h.qa.old _ z).2; omega
/-- A row of one's own behind a call of the reference's. -/
theorem row_ref7 {base m : Nat} {sv : Value} {xs : List Value} (o : wr.ownsRow base 43 2 sv m xs) (h : RQ wr rb (lim : Int) a c r') (C : Chg (· = rb) wr w') : w'.ownsRow base 43 2 sv m xs :=
  chg_row o C (fun k e (q : k = rb) => h.r.ne_row o (by decide) (q ▸ e))
-- The calls.
theorem jset (h : DJ W qb kb mb rb lim wr v a c r r') (key : ByteArray) (hs : key.size ≤ maxLen) (t : Int) :
    Calls Try.prog 13 #[.pointer (some ⟨qb, 0, none⟩), .string key, .int .i64 t] wr fun e w' => ∃ v', e = .returned (.int .i64 (stC lim r key)) ∧ Hid (DJ W qb kb mb rb lim w' v' a c (stR lim r key t) r') ∧ Hid (Chg (kS3 kb mb v) wr w') := by
  refine (qset_spec h.qa h.bl.size key hs t).mono ?_
  rintro e w' ⟨v', rfl, q, C, m⟩
  exact ⟨v', rfl, h.q q C m, C⟩
theorem jrset (h : DJ W qb kb mb rb lim wr v a c r r') (hrb : W.heap.size ≤ rb) (key : ByteArray) (t : Int) :
    Calls Try.prog 14 #[.pointer (some ⟨rb, 0, none⟩), .string key, .int .i64 t] wr fun e w' => ∃ a' c', e = .returned (.int .i64 (stC lim r' key)) ∧ Hid (DJ W qb kb mb rb lim w' v a' c' r (stR lim r' key t)) ∧ Hid (Chg (· = rb) wr w') ∧ Hid (MvA wr a a') := by
  by_cases q : hasK r' key = true ∨ r'.length < lim
  · refine (rset7_room h.rq h.ks h.le key t (q.imp id (by omega))).mono ?_
    rintro e w' ⟨rfl, a', c', R, C, M⟩
    have e1 : stR lim r' key t = setR r' key t := if_pos q
    have e2 : stC lim r' key = 0 := if_pos q
    rw [e2]
    exact ⟨a', c', rfl, h.rf hrb (by rw [e1]; exact R) (stR_keys h.ks key t) (stR_len h.ks h.le h.qa.mx key t) C M, C, M⟩
  · have q1 : hasK r' key = false := by
      cases z : hasK r' key
      · rfl
      · exact absurd (.inl z) q
    have q2 : (lim : Int) ≤ (r'.length : Int) := by
      by_cases z : r'.length < lim
      · exact absurd (.inr z) q
      · omega
    refine (rset7_full h.rq h.ks h.le key t q1 q2).mono ?_
    rintro e w' ⟨rfl, b⟩
    have e1 : stR lim r' key t = r' := if_neg q
    have e2 : stC lim r' key = 70 := if_neg q
    rw [e2]
    exact ⟨a, c, rfl, by rw [e1]; exact h.later b, Chg.of_below b, MvA.refl _ _⟩
theorem jdrop (h : DJ W qb kb mb rb lim wr v a c r r') (key : ByteArray) (hs : key.size ≤ maxLen) :
    Calls Try.prog 16 #[.pointer (some ⟨qb, 0, none⟩), .string key] wr fun e w' => ∃ v', e = .returned (.bool (hasK r key)) ∧ Hid (DJ W qb kb mb rb lim w' v' a c (delK r key) r') ∧ Hid (Chg (kS3 kb mb v) wr w') := by
  refine (qdrop_spec h.qa h.bl.size key hs).mono ?_
  rintro e w' ⟨v', rfl, q, C, m⟩
  exact ⟨v', rfl, h.q q C m, C⟩
theorem jrdrop (h : DJ W qb kb mb rb lim wr v a c r r') (hrb : W.heap.size ≤ rb) (key : ByteArray) :
    Calls Try.prog 17 #[.pointer (some ⟨rb, 0, none⟩), .string key] wr fun e w' => ∃ a' c', e = .returned (.bool (hasK r' key)) ∧ Hid (DJ W qb kb mb rb lim w' v a' c' r (delK r' key)) ∧ Hid (Chg (· = rb) wr w') ∧ Hid (MvA wr a a') := by
  refine (rdrop7_spec h.rq h.ks h.le key).mono ?_
  rintro e w' ⟨rfl, a', c', R, C, M⟩
  exact ⟨a', c', rfl, h.rf hrb R (h.ks.del key) (Nat.le_trans (List.length_filter_le _ _) h.le) C M, C, M⟩
theorem drR_keys (h : Keys r') (now : Int) : Keys (drR r' now) := h.sublist (List.dropWhile_sublist _)
theorem drR_len (h : r'.length ≤ 65536) (now : Int) : (drR r' now).length ≤ 65536 := Nat.le_trans (List.Sublist.length_le (List.dropWhile_sublist _)) h
theorem jtake (h : DJ W qb kb mb rb lim wr v a c r r') (now : Int) :
    Calls Try.prog 18 #[.pointer (some ⟨qb, 0, none⟩), .int .i64 now] wr fun e w' => ∃ v' s, e = .returned s ∧ Hid (w'.ownsRow wr.heap.size 43 2 s (tkR r now).length (dues (tkR r now))) ∧ Hid (DJ W qb kb mb rb lim w' v' a c (drR r now) r') ∧ Hid (Apt s v') ∧ Hid (Chg (kS3 kb mb v) wr w') := by
  refine (qtake_spec h.qa h.bl.size now).mono ?_
  rintro e w' ⟨v', s, rfl, o, q, C, m, ap⟩
  exact ⟨v', s, rfl, o, h.q q C m, ap, C⟩
theorem jrtake (h : DJ W qb kb mb rb lim wr v a c r r') (hrb : W.heap.size ≤ rb) (now : Int) :
    Calls Try.prog 19 #[.pointer (some ⟨rb, 0, none⟩), .int .i64 now] wr fun e w' => ∃ c1 a' c', e = .returned (.slice a (tkR r' now).length c1) ∧ Hid (IsE w' a (tkR r' now)) ∧ Hid (DJ W qb kb mb rb lim w' v a' c' r (drR r' now)) ∧ Hid (Chg (· = rb) wr w') ∧ Hid (MvA wr a a') := by
  refine (rtake7_spec h.rq h.le now).mono ?_
  rintro e w' ⟨c1, a2, c2, rfl, I, R, C, M⟩
  exact ⟨c1, a2, c2, rfl, I, h.rf hrb R (drR_keys h.ks now) (drR_len h.le now) C M, C, M⟩
end
end Go.Proofs.Ytdfmfkibafcbcaa
