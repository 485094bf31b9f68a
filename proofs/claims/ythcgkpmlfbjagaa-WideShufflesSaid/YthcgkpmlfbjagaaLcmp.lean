/- The reference of layer 1: cmpL. -/
import Derived.Test.YthcgkpmlfbjagaaLadd
namespace Go.Proofs.Ythcgkpmlfbjagaa
set_option linter.unusedVariables false
open Go.RowKit W Lb
def CmpPost (w : World) (x y : Int) (e : Ending) (w' : World) : Prop := e = .returned (.int .i64 (cmpI x y)) ∧ Below w.heap.size w w'
/-- Two lists of one length that agree from place k on. -/
structure CmpAt (w wr : World) (la lb : List Int) (k : Nat) : Prop where
  kk : k ≤ la.length
  eq : val (la.drop k) = val (lb.drop k)
  at_ : ∃ n, wr = w.drewN n
def CmpInv (w wr : World) (la lb : List Int) (i : Value) : Prop := ∃ k : Nat, i = .int .i64 ((k : Int) - 1) ∧ CmpAt w wr la lb k
set_option maxHeartbeats 4000000 in
theorem cmpL_same (b o cap b' o' cap' n : Nat) (va vb : Value) (la lb : List Int) (w : World) (n1 : n ≤ 1000) (l1 : la.length = n) (l2 : lb.length = n) (oa : Ok la) (ob : Ok lb)
    (ca : Same 65 #[va] w (.slice (some ⟨b, o, none⟩) n cap)) (cb : Same 65 #[vb] w (.slice (some ⟨b', o', none⟩) n cap'))
    (ha : ∀ k, k < n → w.cell? ⟨b, o + k, none⟩ = some (.int .u32 (la.getD k 0))) (hb : ∀ k, k < n → w.cell? ⟨b', o' + k, none⟩ = some (.int .u32 (lb.getD k 0))) :
    Calls Try.prog 66 #[va, vb] w (CmpPost w (val la) (val lb)) := by
  have OA := hide oa
  have OB := hide ob
  have HA := hide ha
  have HB := hide hb
  have L1 := hide l1
  have L2 := hide l2
  clear oa ob ha hb l1 l2
  go_enter Try.func66, Try.ntmps66
  go_wp2_with fail
  refine ca.mono ?_
  rintro e w' ⟨rfl, rfl⟩
  go_wp2_with fail
  refine cb.mono ?_
  rintro e w' ⟨rfl, rfl⟩
  go_wp2_with fail
  clear ca cb
  go_loopw [5] (fun i wr => CmpInv w wr la lb i) (fun i _ => (intOf i + 1).toNat)
  case atStart => exact ⟨n, rfl, by have := L1.out; omega, by have := L1.out; have := L2.out; rw [List.drop_of_length_le (by omega), List.drop_of_length_le (by omega)], 0, rfl⟩
  case round =>
    obtain ⟨k, rfl, kk, eq, m, rfl⟩ := hrel
    rw [L1.out] at kk
    have EQ := hide eq
    clear eq
    rcases k with _ | k
    · have e0 : ((0 : Nat) : Int) - 1 = -1 := by omega
      rw [e0]
      have FIN : Hid (cmpI (val la) (val lb) = 0) := by have := EQ.out; simp only [List.drop_zero] at this; exact cmp_eq this
      go_wp2
      go_returns
      exact ⟨by rw [FIN.out]; rfl, below_drewN (Below.refl _ _) m⟩
    · have ei : ((k + 1 : Nat) : Int) - 1 = k := by omega
      rw [ei]
      clear ei
      have h1 := HA.out k (by omega)
      have h2 := HB.out k (by omega)
      have kn : k < n := by omega
      have LT : Hid (la.getD k 0 < lb.getD k 0 → cmpI (val la) (val lb) = -1) := fun h => cmp_lt (cmp_step (by rw [L1.out]; omega) (by rw [L2.out]; omega) OA.out OB.out (by rw [L1.out, L2.out]) EQ.out h)
      have GT : Hid (lb.getD k 0 < la.getD k 0 → cmpI (val la) (val lb) = 1) := fun h => cmp_gt (cmp_step (by rw [L2.out]; omega) (by rw [L1.out]; omega) OB.out OA.out (by rw [L1.out, L2.out]) EQ.out.symm h)
      have SM : Hid (la.getD k 0 = lb.getD k 0 → val (la.drop k) = val (lb.drop k)) := fun h => by rw [drop_val la k (by rw [L1.out]; omega), drop_val lb k (by rw [L2.out]; omega), EQ.out, h]
      generalize la.getD k 0 = x at *
      generalize lb.getD k 0 = y at *
      clear EQ
      rcases Int.lt_trichotomy x y with h | h | h
      · have F := hide (LT.out h)
        clear LT GT SM
        go_wp2
        go_quiet (fail)
        go_wp2
        go_returns
        exact ⟨by rw [F.out]; rfl, by (try simp only [World.drewN_drewN]); exact below_drewN (Below.refl _ _) _⟩
      · have F := hide (SM.out h)
        clear LT GT SM
        subst h
        go_wp2
        go_quiet (fail)
        go_wp2
        go_quiet (fail)
        go_wp2
        go_roundw
        case rel => exact ⟨k, by go_num, by have := L1.out; omega, F.out, by (try simp only [World.drewN_drewN]); exact ⟨_, rfl⟩⟩
        case measure => simp [intOf]
      · have F := hide (GT.out h)
        clear LT GT SM
        have h' : ¬ x < y := by omega
        go_wp2
        go_quiet (fail)
        go_wp2
        go_quiet (fail)
        go_wp2
        go_returns
        exact ⟨by rw [F.out]; rfl, by (try simp only [World.drewN_drewN]); exact below_drewN (Below.refl _ _) _⟩
theorem cmpL_short (p q : Option Addr) (n m cap cap' : Nat) (va vb : Value) (x y : Int) (w : World) (n1 : n ≤ 1000) (h : n < m) (m1 : m ≤ 1000) (le : x < y)
    (ca : Same 65 #[va] w (.slice p n cap)) (cb : Same 65 #[vb] w (.slice q m cap')) :
    Calls Try.prog 66 #[va, vb] w (CmpPost w x y) := by
  have F := hide (cmp_lt le)
  have nm : ¬ n = m := by omega
  clear le
  go_enter Try.func66, Try.ntmps66
  go_wp2_with fail
  refine ca.mono ?_
  rintro e w' ⟨rfl, rfl⟩
  go_wp2_with fail
  refine cb.mono ?_
  rintro e w' ⟨rfl, rfl⟩
  go_wp2_with fail
  go_returns
  exact ⟨by rw [F.out]; rfl, Below.refl _ _⟩
theorem cmpL_long (p q : Option Addr) (n m cap cap' : Nat) (va vb : Value) (x y : Int) (w : World) (n1 : n ≤ 1000) (h : m < n) (m1 : m ≤ 1000) (le : y < x)
    (ca : Same 65 #[va] w (.slice p n cap)) (cb : Same 65 #[vb] w (.slice q m cap')) :
    Calls Try.prog 66 #[va, vb] w (CmpPost w x y) := by
  have F := hide (cmp_gt le)
  have nm : ¬ n = m := by omega
  have nl : ¬ n < m := by omega
  clear le
  go_enter Try.func66, Try.ntmps66
  go_wp2_with fail
  refine ca.mono ?_
  rintro e w' ⟨rfl, rfl⟩
  go_wp2_with fail
  refine cb.mono ?_
  rintro e w' ⟨rfl, rfl⟩
  go_wp2_with fail
  go_returns
  exact ⟨by rw [F.out]; rfl, Below.refl _ _⟩
theorem cmpL_none (p q : Option Addr) (cap cap' : Nat) (va vb : Value) (w : World)
    (ca : Same 65 #[va] w (.slice p 0 cap)) (cb : Same 65 #[vb] w (.slice q 0 cap')) :
    Calls Try.prog 66 #[va, vb] w (CmpPost w 0 0) := by
  go_enter Try.func66, Try.ntmps66
  go_wp2_with fail
  refine ca.mono ?_
  rintro e w' ⟨rfl, rfl⟩
  go_wp2_with fail
  refine cb.mono ?_
  rintro e w' ⟨rfl, rfl⟩
  go_wp2_with fail
  refine wp_loop_rounds 1 ?_
  rw [rounds_succ]
  go_wp2_with fail
  go_returns
  exact ⟨rfl, Below.refl _ _⟩
/-- cmpL: the order of the numbers. -/
theorem cmpL_spec (va vb : Value) (la lb : List Int) (w : World) (Ha : Limbs w va la) (Hb : Limbs w vb lb) (oa : Ok la) (ob : Ok lb) (na : la.length ≤ 1000) (nb : lb.length ≤ 1000) :
    Calls Try.prog 66 #[va, vb] w (CmpPost w (val la) (val lb)) := by
  obtain ⟨va', ca, Ha'⟩ := trim_spec va la w Ha (by omega)
  obtain ⟨vb', cb, Hb'⟩ := trim_spec vb lb w Hb (by omega)
  have ma := Mag.of_top oa
  have mb := Mag.of_top ob
  have l1 := List.length_take_le (top la la.length) la
  have l2 := List.length_take_le (top lb lb.length) lb
  have t1 := top_le la la.length
  have t2 := top_le lb lb.length
  generalize la.take (top la la.length) = a at *
  generalize lb.take (top lb lb.length) = b at *
  rcases Nat.lt_trichotomy a.length b.length with h | h | h
  · obtain ⟨p, c, rfl⟩ := Ha'.form
    obtain ⟨q, c', rfl⟩ := Hb'.form
    exact cmpL_short p q _ _ c c' va vb _ _ w (by omega) h (by omega) (ma.lt_len mb h) ca cb
  · rcases Ha' with ⟨p, c, rfl, rfl⟩ | ⟨b1, o1, c1, rfl, h1, h2, _, h3⟩
    · have e : b = [] := List.eq_nil_of_length_eq_zero (by simpa using h.symm)
      subst e
      obtain ⟨q, c', rfl⟩ := Hb'.form
      rw [← ma.val, ← mb.val]
      exact cmpL_none p q c c' va vb w ca cb
    · rcases Hb' with ⟨p, c, rfl, rfl⟩ | ⟨b2, o2, c2, rfl, g1, g2, _, g3⟩
      · have e : a = [] := List.eq_nil_of_length_eq_zero (by simpa using h)
        subst e
        rw [← ma.val, ← mb.val]
        exact cmpL_none _ p _ c va vb w ca cb
      · rw [← ma.val, ← mb.val]
        rw [← h] at cb g3
        exact cmpL_same b1 o1 c1 b2 o2 c2 _ va vb a b w (by omega) rfl h.symm ma.ok mb.ok ca cb h3 g3
  · obtain ⟨p, c, rfl⟩ := Ha'.form
    obtain ⟨q, c', rfl⟩ := Hb'.form
    exact cmpL_long p q _ _ c c' va vb _ _ w (by omega) h (by omega) (mb.lt_len ma h) ca cb
end Go.Proofs.Ythcgkpmlfbjagaa
