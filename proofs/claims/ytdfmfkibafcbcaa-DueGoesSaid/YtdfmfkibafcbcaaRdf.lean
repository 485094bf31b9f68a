/- due: the reference's Drop. -/
import Derived.Test.YtdfmfkibafcbcaaRde
namespace Go.Proofs.Ytdfmfkibafcbcaa
set_option linter.unusedVariables false
set_option linter.unusedSimpArgs false
open Go.RowKit W Go.Maps
theorem own_mono7 {w : World} {base base' size n : Nat} {e : TypeId} {v : Value} {xs : List Value} (h : w.ownsRow base e size v n xs) (hb : base' ≤ base) : w.ownsRow base' e size v n xs :=
  ⟨h.1, h.2.imp id fun ⟨g, cap, cur, a, b, c⟩ => ⟨g, cap, cur, a, Nat.le_trans hb b, c⟩⟩
theorem RQ.put {w w1 : World} {rb c m : Nat} {lim : Int} {a : Option Addr} {L M : List En} {v' : Value} (h : RQ w rb lim a c L) (b : Below w.heap.size w w1) (o : w1.ownsRow w.heap.size 43 2 v' m (dues M)) (hm : m = M.length) :
    ∃ a' c', RQ (w1.setCell ⟨rb, 1, none⟩ v') rb lim a' c' M ∧ Chg (· = rb) w (w1.setCell ⟨rb, 1, none⟩ v') ∧ MvA w a a' := by
  subst hm
  have r1 := h.r.later b
  have lr := h.r.lt
  have C1 : Chg (· = rb) w1 (w1.setCell ⟨rb, 1, none⟩ v') := Chg.set _ rfl
  have C : Chg (· = rb) w (w1.setCell ⟨rb, 1, none⟩ v') := (Chg.of_below (S := (· = rb)) b).trans C1 (fun _ _ q => q)
  have R : w1.ownsRow w.heap.size 43 2 v' M.length (dues M) := o
  obtain ⟨a', c', rfl, is⟩ := isE_own o rfl
  have o2 := chg_row o C1 (fun k e (q : k = rb) => r1.ne_row o (by decide) (q ▸ e))
  obtain ⟨a9, c9, e9, is2⟩ := isE_own o2 rfl
  injection e9 with e1 _ e2
  subst e1 e2
  rcases o.2 with ⟨z, e⟩ | ⟨g, cap, cur, z, hb, hh, hc, hm, _⟩
  · injection z with z1 z2 z3
    subst z1 z3
    exact ⟨none, 0, ⟨r1.set 1 _, is2, by omega, Nat.zero_le _, fun _ z => (by cases z), fun _ => rfl, fun _ z => (by cases z)⟩, C, MvA.none _ _⟩
  · injection z with z1 z2 z3
    subst z1 z3
    exact ⟨_, _, ⟨r1.set 1 _, is2, hc, hm, fun ad z => (by cases z; exact ⟨g, 0, rfl, by omega⟩), fun z => (by cases z), fun ad z => (by cases z; exact (own_old o2 rfl).2)⟩, C, fun ad z => by cases z; exact .inr hb⟩
theorem del_at {L : List En} (hK : Keys L) {i : Nat} (hi : i < L.length) : L.take i ++ L.drop (i + 1) = delK L L[i].1 := by
  induction L generalizing i with
  | nil => simp at hi
  | cons x L ih =>
    have h' := List.pairwise_cons.1 hK
    cases i with
    | zero =>
      simp only [List.take_zero, List.nil_append, List.getElem_cons_zero, List.drop_succ_cons, List.drop_zero]
      unfold delK
      rw [List.filter_cons_of_neg (by simp)]
      symm
      rw [List.filter_eq_self]
      intro b hb
      have := h'.1 b hb
      simp only [Bool.not_eq_true', decide_eq_false_iff_not]
      exact fun q => this q.symm
    | succ i =>
      have hi' : i < L.length := by simpa using hi
      simp only [List.take_succ_cons, List.cons_append, List.drop_succ_cons, List.getElem_cons_succ]
      rw [ih h'.2 hi']
      have : x.1 ≠ L[i].1 := h'.1 _ (List.getElem_mem hi')
      unfold delK
      rw [List.filter_cons_of_pos (by simpa using this)]
set_option maxRecDepth 100000 in
set_option maxHeartbeats 4000000 in
theorem rdrop7_spec {w : World} {rb c : Nat} {lim : Int} {a : Option Addr} {L : List En} (h : RQ w rb lim a c L) (hK : Keys L) (hl : L.length ≤ 65536) (key : ByteArray) :
    Calls Try.prog 17 #[.pointer (some ⟨rb, 0, none⟩), .string key] w fun e w' => e = .returned (.bool (hasK L key)) ∧ ∃ a' c', RQ w' rb lim a' c' (delK L key) ∧ Chg (· = rb) w w' ∧ MvA w a a' := by
  have kf := rfind7_spec h hK hl key
  cases hh : hasK L key with
  | false =>
    rw [fdI_neg hh] at kf
    rw [delK_none hh]
    have H := hide h
    clear h hK hh
    go_enter Try.func17, Try.ntmps17
    go_wp2_with (go_at_call 28; refine kf.mono ?_; rintro e w1 ⟨rfl, b1⟩)
    go_returns
    exact ⟨rfl, _, _, H.out.later b1, Chg.of_below b1, MvA.refl _ _⟩
  | true =>
    obtain ⟨i, hi, e1, e2, e3⟩ := fdI_pos hK hh
    rw [e1] at kf
    have kw : ∀ w1, Below w.heap.size w w1 → Calls Try.prog 29 #[.pointer (some ⟨rb, 0, none⟩), .int .i64 (i : Int)] w1 fun e w' => ∃ A c', e = .returned (.slice A (L.length - 1) c') ∧ Hid (w'.ownsRow w.heap.size 43 2 (.slice A (L.length - 1) c') (L.length - 1) (dues (delK L key))) ∧ Hid (Below w.heap.size w w') ∧ w'.frozen? ⟨rb, 1, none⟩ = false ∧ w'.cell? ⟨rb, 1, none⟩ = some (.slice a L.length c) := fun w1 b => by
      have h1 := h.later b
      refine (rwithout7_spec h1 hl hi).mono ?_
      rintro e w' ⟨v', rfl, o, b2⟩
      obtain ⟨A, c', rfl, _, _⟩ := own_form o
      have bb := b.trans (b2.mono b.size)
      rw [del_at hK hi, e2] at o
      exact ⟨A, c', rfl, own_mono7 o b.size, bb, (h.later bb).r.frz 1, (h.later bb).r.cell 1 _ rfl⟩
    have H := hide h
    have ln : (delK L key).length = L.length - 1 := by
      rw [← e2, ← del_at hK hi, List.length_append, List.length_take, List.length_drop]; omega
    obtain ⟨n, hn⟩ : ∃ n, n = L.length - 1 := ⟨_, rfl⟩
    rw [← hn] at kw ln
    have LN := hide ln
    have i0 : decide ((i : Int) < 0) = false := by rw [decide_eq_false_iff_not]; omega
    have lr := h.r.lt
    generalize L.length = m at kw
    clear h hK hh e1 e2 e3 hi hn ln hl
    go_enter Try.func17, Try.ntmps17
    go_wp2_with (first
      | (go_at_call 28; refine kf.mono ?_; rintro e w1 ⟨rfl, b1⟩)
      | (go_at_call 29; refine (kw _ b1).mono ?_; rintro e w2 ⟨A, c', rfl, O2, B2, fz, c1⟩))
    go_returns
    obtain ⟨a', c9, r, C, mv⟩ := H.out.put B2.out O2.out LN.out.symm
    exact ⟨rfl, a', c9, r, C, mv⟩
end Go.Proofs.Ytdfmfkibafcbcaa
