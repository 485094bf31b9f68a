/- due: down. -/
import Derived.Test.YtdfmfkibafcbcaaQu
namespace Go.Proofs.Ytdfmfkibafcbcaa
set_option linter.unusedVariables false
set_option linter.unusedSimpArgs false
open Go.RowKit W Go.Maps
/-- While something goes down. -/
structure DnS (B : Nat) (w : World) (kb mb : Nat) (v : Value) (l : List En) (n i0 : Nat) (wr : World) (l' : List En) (i : Nat) : Prop where
  kq : KQ B wr kb mb v l'
  perm : l'.Perm l
  inv : DownInv ltE (fE l') n i0 i
  le : i0 ≤ i
  tail : ∀ k, n ≤ k → l'[k]? = l[k]?
  same : i = i0 → l' = l
  chg : Chg (kS3 kb mb v) w wr
/-- What down leaves. -/
def DnP (B : Nat) (w : World) (kb mb : Nat) (v : Value) (l : List En) (n i0 : Nat) (w' : World) (b : Bool) : Prop :=
  ∃ l', KQ B w' kb mb v l' ∧ l'.Perm l ∧ Chg (kS3 kb mb v) w w' ∧ (∀ k, n ≤ k → l'[k]? = l[k]?) ∧ (b = true ∨ i0 = 0 → HeapF ltE (fE l') n) ∧ (b = false → l' = l ∧ UpInv ltE (fE l) n i0)
theorem DnS.fin {B : Nat} {w wr w' : World} {kb mb n i0 i : Nat} {v : Value} {l l' : List En} (h : DnS B w kb mb v l n i0 wr l' i) (c : Below wr.heap.size wr w') (hm : ∀ k, 0 < k → k < n → (k - 1) / 2 = i → ltE (fE l' k) (fE l' i) = false) : DnP B w kb mb v l n i0 w' (decide (i0 < i)) := by
  have le := h.le
  refine ⟨l', h.kq.later c, h.perm, h.chg.trans (Chg.of_below (S := kS3 kb mb v) c) (fun _ _ q => q), h.tail, fun q => h.inv.heap (q.imp (fun q => by simpa using q) id) hm, fun q => ?_⟩
  have e : i = i0 := by simp at q; omega
  have e2 := h.same e
  subst e
  subst e2
  exact ⟨rfl, h.inv.up hm⟩
theorem DnS.step {B : Nat} {w wr w' : World} {kb mb n i0 i j : Nat} {v : Value} {l l' : List En} (h : DnS B w kb mb v l n i0 wr l' i) (hj0 : 0 < j) (hjn : j < n) (jl : j < l'.length) (il : i < l'.length) (hp : (j - 1) / 2 = i)
    (hm : ∀ k, 0 < k → k < n → (k - 1) / 2 = i → ltE (fE l' k) (fE l' j) = false) (hl : ltE l'[j] l'[i] = true) (q : KQ B w' kb mb v (swapL l' i j)) (c : Chg (kS3 kb mb v) wr w') : DnS B w kb mb v l n i0 w' (swapL l' i j) j := by
  have le := h.le
  refine ⟨q, (swapL_perm il jl).trans h.perm, ?_, by omega, fun k hk => ?_, fun e => by omega, h.chg.trans c (fun _ _ q => q)⟩
  · rw [fE, fn_swap il jl]
    exact h.inv.step ordE le hj0 hjn hp hm (by rw [fn_get jl, fn_get il]; exact hl)
  · rw [← h.tail k hk, swapL_eq il jl, List.getElem?_set_ne (by omega), List.getElem?_set_ne (by omega)]
theorem kids {n i k : Nat} (h0 : 0 < k) (hp : (k - 1) / 2 = i) : k = 2 * i + 1 ∨ k = 2 * i + 2 := by omega
set_option maxRecDepth 100000 in
set_option maxHeartbeats 16000000 in
theorem down_spec {B : Nat} {w : World} {kb mb n i0 : Nat} {v : Value} {l : List En} (h : KQ B w kb mb v l) (hn : n ≤ l.length) (hi : i0 ≤ l.length) (inv : DownInv ltE (fE l) n i0 i0) :
    Calls Try.prog 37 #[kV kb, .int .i64 (i0 : Int), .int .i64 (n : Int)] w fun e w' => ∃ b, e = .returned (.bool b) ∧ DnP B w kb mb v l n i0 w' b := by
  have U0 : Hid (DnS B w kb mb v l n i0 w l i0) := ⟨h, List.Perm.refl _, inv, Nat.le_refl _, fun _ _ => rfl, fun _ => rfl, Chg.refl _ _⟩
  have hl := h.len
  clear h inv
  go_enter Try.func37, Try.ntmps37
  go_wp2_with fail
  go_loopw [7] (fun s7 wr => ∃ (l' : List En) (i : Nat), s7 = .int .i64 (i : Int) ∧ i ≤ l.length ∧ Hid (DnS B w kb mb v l n i0 wr l' i)) (fun s7 _ => l.length - (intOf s7).toNat)
  case atStart => exact ⟨l, i0, rfl, hi, U0⟩
  case round =>
    obtain ⟨l', i, rfl, hk, U⟩ := hrel
    have sl := U.out.kq.len
    have ln := U.out.perm.length_eq
    obtain ⟨j1, hj1⟩ : ∃ j1, j1 = 2 * i + 1 := ⟨_, rfl⟩
    have e1 : 2 * (i : Int) + 1 = (j1 : Int) := by omega
    have b1 : j1 ≤ 131073 := by omega
    have ng : decide ((j1 : Int) < 0) = false := by rw [decide_eq_false_iff_not]; omega
    by_cases c1 : n ≤ j1
    · have g1 : decide ((n : Int) ≤ (j1 : Int)) = true := by rw [decide_eq_true_eq]; omega
      have g1' : decide (n ≤ j1) = true := by rw [decide_eq_true_eq]; omega
      have F := hide (fun (w' : World) (b : Below wr.heap.size wr w') => U.out.fin b (fun k k0 kn kp => by have := kids (n := n) k0 kp; omega))
      clear hj1
      go_wp2_with fail
      go_returns
      exact ⟨_, rfl, F.out _ (by go_grown)⟩
    · have g1 : decide ((n : Int) ≤ (j1 : Int)) = false := by rw [decide_eq_false_iff_not]; omega
      have g1' : decide (n ≤ j1) = false := by rw [decide_eq_false_iff_not]; omega
      obtain ⟨j2, hj2⟩ : ∃ j2, j2 = j1 + 1 := ⟨_, rfl⟩
      have e2 : (j1 : Int) + 1 = (j2 : Int) := by omega
      have b2 : j2 ≤ 131074 := by omega
      have il : i < l'.length := by omega
      have j1l : j1 < l'.length := by omega
      by_cases c2 : j2 < n
      · have g2 : decide ((j2 : Int) < (n : Int)) = true := by rw [decide_eq_true_eq]; omega
        have g2' : decide (j2 < n) = true := by rw [decide_eq_true_eq]; omega
        have j2l : j2 < l'.length := by omega
        have kl2 := less_spec U.out.kq.km j2l j1l sl
        obtain ⟨t2, ht2⟩ : ∃ t2, t2 = ltE l'[j2] l'[j1] := ⟨_, rfl⟩
        have HT2 := hide ht2
        rw [← ht2] at kl2
        clear ht2
        cases t2
        · obtain ⟨t, ht⟩ : ∃ t, t = ltE l'[j1] l'[i] := ⟨_, rfl⟩
          have HT := hide ht
          have ki := fun (w' : World) (b : Below wr.heap.size wr w') => less_spec (U.out.kq.later b).km j1l il sl
          rw [← ht] at ki
          have HM : Hid (∀ k, 0 < k → k < n → (k - 1) / 2 = i → ltE (fE l' k) (fE l' j1) = false) := by
            intro k k0 kn kp
            rcases kids (n := n) k0 kp with q | q
            · rw [show k = j1 from by omega]; exact ordE.irr _
            · rw [show k = j2 from by omega, fE_get j2l, fE_get j1l]; exact HT2.out.symm
          have kw := fun (w' : World) (b : Below wr.heap.size wr w') => swap_spec (U.out.kq.later b) (i := i) (j := j1) il j1l
          have JP : Hid (0 < j1 ∧ j1 < n ∧ (j1 - 1) / 2 = i) := ⟨by omega, by omega, by omega⟩
          clear ht hj1 hj2
          cases t
          · clear kw
            go_wp2_with (first
              | (go_at_call 78; (with_reducible refine Calls.mono (ki _ (by first | exact b4 | go_grown)) ?_); rintro e w5 ⟨rfl, b5⟩)
              | (go_at_call 78; (with_reducible refine Calls.mono kl2 ?_); rintro e w4 ⟨rfl, b4⟩))
            go_returns
            exact ⟨_, rfl, U.out.fin (by first | exact b4.trans (b5.mono b4.size) | exact b5 | go_grown) (fun k k0 kn kp => ordE.tr _ _ _ (HM.out k k0 kn kp) (by rw [fE_get j1l, fE_get il]; exact HT.out.symm))⟩
          · go_wp2_with (first
              | (go_at_call 78; (with_reducible refine Calls.mono (ki _ (by first | exact b4 | go_grown)) ?_); rintro e w5 ⟨rfl, b5⟩)
              | (go_at_call 78; (with_reducible refine Calls.mono kl2 ?_); rintro e w4 ⟨rfl, b4⟩)
              | (go_at_call 81; refine (kw _ (by first | exact b4.trans (b5.mono b4.size) | exact b5 | go_grown)).mono ?_; rintro e w6 ⟨rfl, k6, c6⟩))
            go_roundw
            case rel => exact ⟨_, j1, rfl, by omega, hide (U.out.step JP.out.1 JP.out.2.1 j1l il JP.out.2.2 HM.out HT.out.symm k6 ((Chg.of_below (by first | exact b4.trans (b5.mono b4.size) | exact b5 | go_grown)).trans c6 (fun _ _ q => q)))⟩
            case measure => have := JP.out; simp [intOf]; omega
        · obtain ⟨t, ht⟩ : ∃ t, t = ltE l'[j2] l'[i] := ⟨_, rfl⟩
          have HT := hide ht
          have ki := fun (w' : World) (b : Below wr.heap.size wr w') => less_spec (U.out.kq.later b).km j2l il sl
          rw [← ht] at ki
          have HM : Hid (∀ k, 0 < k → k < n → (k - 1) / 2 = i → ltE (fE l' k) (fE l' j2) = false) := by
            intro k k0 kn kp
            rcases kids (n := n) k0 kp with q | q
            · rw [show k = j1 from by omega, fE_get j2l, fE_get j1l]; exact ordE.asym _ _ HT2.out.symm
            · rw [show k = j2 from by omega]; exact ordE.irr _
          have kw := fun (w' : World) (b : Below wr.heap.size wr w') => swap_spec (U.out.kq.later b) (i := i) (j := j2) il j2l
          have JP : Hid (0 < j2 ∧ j2 < n ∧ (j2 - 1) / 2 = i) := ⟨by omega, by omega, by omega⟩
          clear ht hj1 hj2
          cases t
          · clear kw
            go_wp2_with (first
              | (go_at_call 78; (with_reducible refine Calls.mono (ki _ (by first | exact b4 | go_grown)) ?_); rintro e w5 ⟨rfl, b5⟩)
              | (go_at_call 78; (with_reducible refine Calls.mono kl2 ?_); rintro e w4 ⟨rfl, b4⟩))
            go_returns
            exact ⟨_, rfl, U.out.fin (by first | exact b4.trans (b5.mono b4.size) | exact b5 | go_grown) (fun k k0 kn kp => ordE.tr _ _ _ (HM.out k k0 kn kp) (by rw [fE_get j2l, fE_get il]; exact HT.out.symm))⟩
          · go_wp2_with (first
              | (go_at_call 78; (with_reducible refine Calls.mono (ki _ (by first | exact b4 | go_grown)) ?_); rintro e w5 ⟨rfl, b5⟩)
              | (go_at_call 78; (with_reducible refine Calls.mono kl2 ?_); rintro e w4 ⟨rfl, b4⟩)
              | (go_at_call 81; refine (kw _ (by first | exact b4.trans (b5.mono b4.size) | exact b5 | go_grown)).mono ?_; rintro e w6 ⟨rfl, k6, c6⟩))
            go_roundw
            case rel => exact ⟨_, j2, rfl, by omega, hide (U.out.step JP.out.1 JP.out.2.1 j2l il JP.out.2.2 HM.out HT.out.symm k6 ((Chg.of_below (by first | exact b4.trans (b5.mono b4.size) | exact b5 | go_grown)).trans c6 (fun _ _ q => q)))⟩
            case measure => have := JP.out; simp [intOf]; omega
      · have g2 : decide ((j2 : Int) < (n : Int)) = false := by rw [decide_eq_false_iff_not]; omega
        have g2' : decide (j2 < n) = false := by rw [decide_eq_false_iff_not]; omega
        obtain ⟨t, ht⟩ : ∃ t, t = ltE l'[j1] l'[i] := ⟨_, rfl⟩
        have HT := hide ht
        have ki := fun (w' : World) (b : Below wr.heap.size wr w') => less_spec (U.out.kq.later b).km j1l il sl
        rw [← ht] at ki
        have HM : Hid (∀ k, 0 < k → k < n → (k - 1) / 2 = i → ltE (fE l' k) (fE l' j1) = false) := by
          intro k k0 kn kp
          rcases kids (n := n) k0 kp with q | q
          · rw [show k = j1 from by omega]; exact ordE.irr _
          · omega
        have kw := fun (w' : World) (b : Below wr.heap.size wr w') => swap_spec (U.out.kq.later b) (i := i) (j := j1) il j1l
        have JP : Hid (0 < j1 ∧ j1 < n ∧ (j1 - 1) / 2 = i) := ⟨by omega, by omega, by omega⟩
        clear ht hj1 hj2
        cases t
        · clear kw
          go_wp2_with (first
            | (go_at_call 78; (with_reducible refine Calls.mono (ki _ (by first | exact b4 | go_grown)) ?_); rintro e w5 ⟨rfl, b5⟩))
          go_returns
          exact ⟨_, rfl, U.out.fin (by first | exact b4.trans (b5.mono b4.size) | exact b5 | go_grown) (fun k k0 kn kp => ordE.tr _ _ _ (HM.out k k0 kn kp) (by rw [fE_get j1l, fE_get il]; exact HT.out.symm))⟩
        · go_wp2_with (first
            | (go_at_call 78; (with_reducible refine Calls.mono (ki _ (by first | exact b4 | go_grown)) ?_); rintro e w5 ⟨rfl, b5⟩)
            | (go_at_call 81; refine (kw _ (by first | exact b4.trans (b5.mono b4.size) | exact b5 | go_grown)).mono ?_; rintro e w6 ⟨rfl, k6, c6⟩))
          go_roundw
          case rel => exact ⟨_, j1, rfl, by omega, hide (U.out.step JP.out.1 JP.out.2.1 j1l il JP.out.2.2 HM.out HT.out.symm k6 ((Chg.of_below (by first | exact b4.trans (b5.mono b4.size) | exact b5 | go_grown)).trans c6 (fun _ _ q => q)))⟩
          case measure => have := JP.out; simp [intOf]; omega
end Go.Proofs.Ytdfmfkibafcbcaa
