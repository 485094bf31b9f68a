/- The reference of layer 1: numbers with a sign: make2, NegN, CmpN, AddN. -/
import Derived.Test.YthcgkpmlfbjagaaLsub
import Derived.Test.YthcgkpmlfbjagaaLcmp
namespace Go.Proofs.Ythcgkpmlfbjagaa
set_option linter.unusedVariables false
open Go.RowKit W Lb
/-- The number z as its sign s and its limbs l, which the slice reads as. -/
structure IsNum (w : World) (s : Bool) (p : Option Addr) (c : Nat) (l : List Int) (z : Int) : Prop where
  neg : s = decide (z < 0)
  lim : Limbs w (.slice p l.length c) l
  mag : Mag l (Lb.ab z)
theorem IsNum.later {w w' : World} {s : Bool} {p : Option Addr} {c : Nat} {l : List Int} {z : Int} (h : IsNum w s p c l z) (k : Below w.heap.size w w') : IsNum w' s p c l z := ⟨h.neg, h.lim.later k, h.mag⟩
def NumPost (w : World) (z : Int) (e : Ending) (w' : World) : Prop := ∃ s p c l, e = .returned (.agg #[.bool s, .slice p l.length c]) ∧ IsNum w' s p c l z ∧ Below w.heap.size w w'
/-- The sign and the amount that make2 gives. -/
def mkZ (n : Bool) (m : Int) : Int := if n then -m else m
set_option maxHeartbeats 1000000 in
theorem make2_spec (n : Bool) (p : Option Addr) (c : Nat) (l : List Int) (w : World) (H : Limbs w (.slice p l.length c) l) (o : Ok l) (hl : l.length ≤ 1000) :
    Calls Try.prog 45 #[.bool n, .slice p l.length c] w (NumPost w (mkZ n (val l))) := by
  have hn := Mag.of_top o
  have tl := top_le l l.length
  have fin : ∀ (s : Bool) (w' : World), s = decide (mkZ n (val l) < 0) → Below w.heap.size w w' → NumPost w (mkZ n (val l)) (.returned (.agg #[.bool s, .slice p (top l l.length) c])) w' := by
    intro s w' hs hb
    have e : (l.take (top l l.length)).length = top l l.length := List.length_take_of_le tl
    have hm := hn
    refine ⟨s, p, c, l.take (top l l.length), by rw [e], ⟨hs, by rw [e]; exact (H.take _ tl).later hb, ?_⟩, hb⟩
    have : Lb.ab (mkZ n (val l)) = val l := by have := val_nonneg o; unfold mkZ Lb.ab; split <;> split <;> omega
    rw [this]; exact hm
  have neg : decide (mkZ n (val l) < 0) = (n && decide (0 < top l l.length)) := by
    have e : (l.take (top l l.length)).length = top l l.length := List.length_take_of_le tl
    have h0 := val_nonneg o
    have hi := hn.nil_iff
    have : (0 < top l l.length) ↔ 0 < val l := by
      constructor
      · intro h; have : ¬ l.take (top l l.length) = [] := fun q => by rw [q] at e; simp at e; omega
        have := mt hi.2 this; omega
      · intro h; apply Decidable.byContradiction; intro q
        have : l.take (top l l.length) = [] := List.eq_nil_of_length_eq_zero (by omega)
        have := hi.1 this; omega
    cases n
    · simp [mkZ]; omega
    · simp [mkZ, this]
  have HH := hide H
  have T1 : top l l.length ≤ 1000 := by omega
  have FIN := hide fin
  have NEG := hide neg
  clear H hn fin neg tl o
  have TR := fun w H => trim_at p c l w H (by omega)
  generalize top l l.length = t at *
  cases n
  · go_enter Try.func45, Try.ntmps45
    go_wp2_with fail
    refine (TR _ ?hT).mono ?_
    case hT => exact HH.out.later (by go_grown)
    rintro e w' ⟨rfl, rfl⟩
    clear TR
    go_wp2_with fail
    refine bodyPost_ret (by simp [results, Try.results45, go_sem]; try rfl) rfl ?_
    exact FIN.out _ _ NEG.out.symm (by go_grown)
  · by_cases ht : 0 < t
    · have d : decide (0 < t) = true := decide_eq_true ht
      have NEG2 := hide NEG.out
      go_enter Try.func45, Try.ntmps45
      go_wp2_with fail
      refine (TR _ ?hT).mono ?_
      case hT => exact HH.out.later (by go_grown)
      rintro e w' ⟨rfl, rfl⟩
      clear TR
      go_wp2_with fail
      refine bodyPost_ret (by simp [results, Try.results45, go_sem]; try rfl) rfl ?_
      exact FIN.out _ _ (by rw [NEG2.out, d]; rfl) (by go_grown)
    · have d : decide (0 < t) = false := decide_eq_false ht
      have NEG2 := hide NEG.out
      go_enter Try.func45, Try.ntmps45
      go_wp2_with fail
      refine (TR _ ?hT).mono ?_
      case hT => exact HH.out.later (by go_grown)
      rintro e w' ⟨rfl, rfl⟩
      clear TR
      go_wp2_with fail
      refine bodyPost_ret (by simp [results, Try.results45, go_sem]; try rfl) rfl ?_
      exact FIN.out _ _ (by rw [NEG2.out, d]; rfl) (by go_grown)
theorem IsNum.set {w : World} {s : Bool} {p : Option Addr} {c : Nat} {l : List Int} {z : Int} (h : IsNum w s p c l z) {r i : Nat} {t : TypeId} {m : Nat} (hr : w.shape? r = some (t, m)) (ht : t ≠ 88) (x : Value) : IsNum (w.setCell ⟨r, i, none⟩ x) s p c l z := ⟨h.neg, h.lim.set hr ht x, h.mag⟩
theorem num_end {w w1 : World} {s : Bool} {p : Option Addr} {c : Nat} {l : List Int} {z : Int} (N : IsNum w1 s p c l z) (hb : Below w.heap.size w w1) {r : Nat} {m : Nat} (hr : w1.shape? r = some (57, m)) (hg : w.heap.size ≤ r) (x y : Value) :
    NumPost w z (.returned (.agg #[.bool s, .slice p l.length c])) ((w1.setCell ⟨r, 0, none⟩ x).setCell ⟨r, 1, none⟩ y) :=
  ⟨s, p, c, l, rfl, (N.set hr (by decide) x).set (by rw [shape_set]; exact hr) (by decide) y, (hb.setCell hg x).setCell hg y⟩
theorem mkZ_not (z : Int) (s : Bool) (h : s = decide (z < 0)) : mkZ (!s) (Lb.ab z) = -z := by
  subst h; unfold mkZ Lb.ab; by_cases q : z < 0 <;> simp [q]
theorem mkZ_same (z : Int) (s : Bool) (h : s = decide (z < 0)) : mkZ s (Lb.ab z) = z := by
  subst h; unfold mkZ Lb.ab; by_cases q : z < 0 <;> simp [q]
set_option maxHeartbeats 1000000 in
theorem negN_spec (s : Bool) (p : Option Addr) (c : Nat) (l : List Int) (z : Int) (w : World) (H : IsNum w s p c l z) (hl : l.length ≤ 1000) :
    Calls Try.prog 43 #[.agg #[.bool s, .slice p l.length c]] w (NumPost w (-z)) := by
  have KM := fun (w : World) (H1 : Limbs w (.slice p l.length c) l) => make2_spec (!s) p c l w H1 H.mag.ok hl
  rw [H.mag.val, mkZ_not z s H.neg] at KM
  have HH := hide H
  clear H
  go_enter Try.func43, Try.ntmps43
  go_wp2_with fail
  refine (KM _ ?hT).mono ?_
  case hT => exact HH.out.lim.later (by go_grown)
  rintro e w1 ⟨s', p', c', l', rfl, N', hb⟩
  obtain ⟨bc, bf, bs⟩ := bcell hb
  simp only [World.size_alloc] at bc bf bs
  have z1 : w.heap.size + 1 < w1.heap.size := by omega
  clear KM
  have B : Below w.heap.size w w1 := Below.trans (by go_grown) (hb.mono (by first | (simp; done) | omega | (simp; omega)))
  have hr : w1.shape? (w.heap.size + 1) = some (57, 2) := (shape_later hb (by simp)).trans (shape_top _ _ _ _ (by simp))
  have F := hide (num_end N' B hr (by omega))
  clear N' B hr hb
  go_wp2_with fail
  refine bodyPost_ret (by simp [results, Try.results43, go_sem, bc, bf, z1]; try rfl) rfl ?_
  exact F.out _ _
set_option maxHeartbeats 1000000 in
theorem cmpN_tf (s s' : Bool) (pa pb : Option Addr) (ca cb : Nat) (la lb : List Int) (d : Int) (w : World) (hs : s = true) (hs' : s' = false) (hd : True)
    (KC : ∀ w', Below w.heap.size w w' → Calls Try.prog 66 #[.slice pa la.length ca, .slice pb lb.length cb] w' fun e w'' => e = .returned (.int .i64 d) ∧ Below w'.heap.size w' w'') :
    Calls Try.prog 46 #[.agg #[.bool s, .slice pa la.length ca], .agg #[.bool s', .slice pb lb.length cb]] w fun e w' => e = .returned (.int .i64 (-1)) ∧ Below w.heap.size w w' := by
  subst hs hs'
  have HD := hide hd
  clear hd
  go_enter Try.func46, Try.ntmps46
  go_wp2_with fail
  go_returns
  exact ⟨rfl, by go_grown⟩
set_option maxHeartbeats 1000000 in
theorem cmpN_ft (s s' : Bool) (pa pb : Option Addr) (ca cb : Nat) (la lb : List Int) (d : Int) (w : World) (hs : s = false) (hs' : s' = true) (hd : True)
    (KC : ∀ w', Below w.heap.size w w' → Calls Try.prog 66 #[.slice pa la.length ca, .slice pb lb.length cb] w' fun e w'' => e = .returned (.int .i64 d) ∧ Below w'.heap.size w' w'') :
    Calls Try.prog 46 #[.agg #[.bool s, .slice pa la.length ca], .agg #[.bool s', .slice pb lb.length cb]] w fun e w' => e = .returned (.int .i64 (1)) ∧ Below w.heap.size w w' := by
  subst hs hs'
  have HD := hide hd
  clear hd
  go_enter Try.func46, Try.ntmps46
  go_wp2_with fail
  go_returns
  exact ⟨rfl, by go_grown⟩
set_option maxHeartbeats 1000000 in
theorem cmpN_ff (s s' : Bool) (pa pb : Option Addr) (ca cb : Nat) (la lb : List Int) (d : Int) (w : World) (hs : s = false) (hs' : s' = false) (hd : True)
    (KC : ∀ w', Below w.heap.size w w' → Calls Try.prog 66 #[.slice pa la.length ca, .slice pb lb.length cb] w' fun e w'' => e = .returned (.int .i64 d) ∧ Below w'.heap.size w' w'') :
    Calls Try.prog 46 #[.agg #[.bool s, .slice pa la.length ca], .agg #[.bool s', .slice pb lb.length cb]] w fun e w' => e = .returned (.int .i64 (d)) ∧ Below w.heap.size w w' := by
  subst hs hs'
  have HD := hide hd
  clear hd
  go_enter Try.func46, Try.ntmps46
  go_wp2_with fail
  refine (KC _ (by go_grown)).mono ?_
  rintro e w1 ⟨rfl, hb⟩
  obtain ⟨bc, bf, bs⟩ := bcell hb
  simp only [World.size_alloc] at bc bf bs
  have B : Below w.heap.size w w1 := Below.trans (by go_grown) (hb.mono (by first | (simp; done) | omega | (simp; omega)))
  go_wp2_with fail
  go_returns
  exact ⟨rfl, B⟩
set_option maxHeartbeats 1000000 in
theorem cmpN_tt (s s' : Bool) (pa pb : Option Addr) (ca cb : Nat) (la lb : List Int) (d : Int) (w : World) (hs : s = true) (hs' : s' = true) (hd : -1 ≤ d ∧ d ≤ 1)
    (KC : ∀ w', Below w.heap.size w w' → Calls Try.prog 66 #[.slice pa la.length ca, .slice pb lb.length cb] w' fun e w'' => e = .returned (.int .i64 d) ∧ Below w'.heap.size w' w'') :
    Calls Try.prog 46 #[.agg #[.bool s, .slice pa la.length ca], .agg #[.bool s', .slice pb lb.length cb]] w fun e w' => e = .returned (.int .i64 (-d)) ∧ Below w.heap.size w w' := by
  subst hs hs'
  have HD := hide hd
  clear hd
  go_enter Try.func46, Try.ntmps46
  go_wp2_with fail
  refine (KC _ (by go_grown)).mono ?_
  rintro e w1 ⟨rfl, hb⟩
  obtain ⟨bc, bf, bs⟩ := bcell hb
  simp only [World.size_alloc] at bc bf bs
  have B : Below w.heap.size w w1 := Below.trans (by go_grown) (hb.mono (by first | (simp; done) | omega | (simp; omega)))
  obtain ⟨d0, d1⟩ := HD.out
  clear HD
  go_wp2_with fail
  go_returns
  exact ⟨rfl, B⟩
theorem cmp_ab_neg {x y : Int} (a : x < 0) (b : y < 0) : -(cmpI (Lb.ab x) (Lb.ab y)) = cmpI x y := by
  unfold cmpI Lb.ab; rw [if_pos a, if_pos b]; split <;> split <;> (try split) <;> omega
theorem cmp_ab_pos {x y : Int} (a : ¬ x < 0) (b : ¬ y < 0) : cmpI (Lb.ab x) (Lb.ab y) = cmpI x y := by
  unfold Lb.ab; rw [if_neg a, if_neg b]
theorem cmp_small (x y : Int) : -1 ≤ cmpI x y ∧ cmpI x y ≤ 1 := by unfold cmpI; split <;> (try split) <;> omega
theorem cmpN_spec (s s' : Bool) (pa pb : Option Addr) (ca cb : Nat) (la lb : List Int) (x y : Int) (w : World) (Ha : IsNum w s pa ca la x) (Hb : IsNum w s' pb cb lb y) (na : la.length ≤ 1000) (nb : lb.length ≤ 1000) :
    Calls Try.prog 46 #[.agg #[.bool s, .slice pa la.length ca], .agg #[.bool s', .slice pb lb.length cb]] w fun e w' => e = .returned (.int .i64 (cmpI x y)) ∧ Below w.heap.size w w' := by
  have KC := fun (w' : World) (h : Below w.heap.size w w') => cmpL_spec _ _ la lb w' (Ha.lim.later h) (Hb.lim.later h) Ha.mag.ok Hb.mag.ok na nb
  rw [Ha.mag.val, Hb.mag.val] at KC
  have sa := Ha.neg
  have sb := Hb.neg
  by_cases a : x < 0 <;> by_cases b : y < 0
  · rw [← cmp_ab_neg a b]; exact cmpN_tt s s' pa pb ca cb la lb _ w (by simp [sa, a]) (by simp [sb, b]) (cmp_small _ _) KC
  · rw [cmp_lt (by omega)]; exact cmpN_tf s s' pa pb ca cb la lb _ w (by simp [sa, a]) (by simp [sb, b]) trivial KC
  · rw [cmp_gt (by omega)]; exact cmpN_ft s s' pa pb ca cb la lb _ w (by simp [sa, a]) (by simp [sb, b]) trivial KC
  · rw [← cmp_ab_pos a b]; exact cmpN_ff s s' pa pb ca cb la lb _ w (by simp [sa, a]) (by simp [sb, b]) trivial KC
end Go.Proofs.Ythcgkpmlfbjagaa
