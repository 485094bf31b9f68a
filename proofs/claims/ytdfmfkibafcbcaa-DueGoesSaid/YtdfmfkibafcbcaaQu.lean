/- due: up. -/
import Derived.Test.YtdfmfkibafcbcaaQq
namespace Go.Proofs.Ytdfmfkibafcbcaa
set_option linter.unusedVariables false
set_option linter.unusedSimpArgs false
open Go.RowKit W Go.Maps
abbrev kV (kb : Nat) : Value := .iface 52 (.pointer (some ⟨kb, 0, none⟩))
abbrev d0E : En := (ByteArray.empty, 0)
abbrev fE (l : List En) : Nat → En := fn d0E l
abbrev HeapE (l : List En) : Prop := HeapF ltE (fE l) l.length
theorem fE_get {l : List En} {k : Nat} (h : k < l.length) : fE l k = l[k] := fn_get h
/-- While something goes up. -/
structure UpS (B : Nat) (w : World) (kb mb : Nat) (v : Value) (l : List En) (n : Nat) (wr : World) (l' : List En) (j : Nat) : Prop where
  kq : KQ B wr kb mb v l'
  perm : l'.Perm l
  inv : UpInv ltE (fE l') n j
  lt : j < n
  nl : n ≤ l'.length
  tail : ∀ k, n ≤ k → l'[k]? = l[k]?
  chg : Chg (kS3 kb mb v) w wr
def UpP (B : Nat) (w : World) (kb mb : Nat) (v : Value) (l : List En) (n : Nat) (w' : World) : Prop :=
  ∃ l', KQ B w' kb mb v l' ∧ l'.Perm l ∧ HeapF ltE (fE l') n ∧ (∀ k, n ≤ k → l'[k]? = l[k]?) ∧ Chg (kS3 kb mb v) w w'
theorem tdiv2 {k p : Nat} (h : 0 < k) (hp : p = (k - 1) / 2) : Int.tdiv ((k : Int) - 1) 2 = (p : Int) := by
  subst hp
  rw [show ((k : Int) - 1) = ((k - 1 : Nat) : Int) from by omega]
  exact Int.ofNat_tdiv _ _
theorem UpS.step {B : Nat} {w wr w' : World} {kb mb k p n : Nat} {v : Value} {l l' : List En} (h : UpS B w kb mb v l n wr l' k) (hp : p = (k - 1) / 2) (k0 : 0 < k) (kl : k < l'.length) (pl : p < l'.length) (hl : ltE l'[k] l'[p] = true) (q : KQ B w' kb mb v (swapL l' p k)) (c : Chg (kS3 kb mb v) wr w') : UpS B w kb mb v l n w' (swapL l' p k) p := by
  have lt := h.lt
  refine ⟨q, (swapL_perm pl kl).trans h.perm, ?_, by omega, by rw [swapL_len]; exact h.nl, fun i hi => ?_, h.chg.trans c (fun _ _ q => q)⟩
  · subst hp
    rw [fE, fn_swap pl kl]
    exact h.inv.step ordE lt k0 (by rw [fn_get kl, fn_get pl]; exact hl)
  · rw [← h.tail i hi, swapL_eq pl kl, List.getElem?_set_ne (by omega), List.getElem?_set_ne (by omega)]
theorem UpS.fin {B : Nat} {w wr w' : World} {kb mb k n : Nat} {v : Value} {l l' : List En} (h : UpS B w kb mb v l n wr l' k) (c : Below wr.heap.size wr w') (hd : k = 0 ∨ ltE (fE l' k) (fE l' ((k - 1) / 2)) = false) : UpP B w kb mb v l n w' :=
  ⟨l', h.kq.later c, h.perm, h.inv.done hd, h.tail, h.chg.trans (Chg.of_below (S := kS3 kb mb v) c) (fun _ _ q => q)⟩
set_option maxRecDepth 100000 in
set_option maxHeartbeats 8000000 in
theorem up_spec {B : Nat} {w : World} {kb mb j n : Nat} {v : Value} {l : List En} (h : KQ B w kb mb v l) (hn : n ≤ l.length) (hj : j < n) (hi : UpInv ltE (fE l) n j) :
    Calls Try.prog 38 #[kV kb, .int .i64 (j : Int)] w fun e w' => e = .returned (.tuple #[]) ∧ UpP B w kb mb v l n w' := by
  have U0 : Hid (UpS B w kb mb v l n w l j) := ⟨h, List.Perm.refl _, hi, hj, hn, fun _ _ => rfl, Chg.refl _ _⟩
  have hl := h.len
  clear h hi
  go_enter Try.func38, Try.ntmps38
  go_wp2_with fail
  go_loopw [1] (fun s1 wr => ∃ (l' : List En) (k : Nat), s1 = .int .i64 (k : Int) ∧ k < n ∧ Hid (UpS B w kb mb v l n wr l' k)) (fun s1 _ => (intOf s1).toNat)
  case atStart => exact ⟨l, j, rfl, hj, U0⟩
  case round =>
    obtain ⟨l', k, rfl, hk, U⟩ := hrel
    have sl := U.out.kq.len
    have nl := U.out.nl
    have kl : k < l'.length := by omega
    by_cases k0 : k = 0
    · subst k0
      have q0 : Int.tdiv (((0 : Nat) : Int) - 1) 2 = ((0 : Nat) : Int) := rfl
      go_wp2_with fail
      go_end0
      exact ⟨rfl, U.out.fin (by go_grown) (.inl rfl)⟩
    · obtain ⟨p, hp⟩ : ∃ p, p = (k - 1) / 2 := ⟨_, rfl⟩
      have qd := tdiv2 (by omega) hp
      have pk : p < k := by omega
      have pl : p < l'.length := by omega
      have HP := hide hp
      clear hp
      have ne : ((p : Int) == (k : Int)) = false := by rw [beq_eq_false_iff_ne]; omega
      have ks := less_spec U.out.kq.km kl (j := p) pl sl
      have kw := fun (w' : World) (b : Below wr.heap.size wr w') => swap_spec (U.out.kq.later b) (i := p) (j := k) pl kl
      obtain ⟨t, ht⟩ : ∃ t, t = ltE l'[k] l'[p] := ⟨_, rfl⟩
      have HT := hide ht
      rw [← ht] at ks
      clear ht
      cases t
      · go_wp2_with (go_at_call 78; refine ks.mono ?_; rintro e w5 ⟨rfl, b5⟩)
        go_end0
        exact ⟨rfl, U.out.fin (by go_grown) (.inr (by rw [fE_get kl, ← HP.out, fE_get pl]; exact HT.out.symm))⟩
      · go_wp2_with (first
          | (go_at_call 78; refine ks.mono ?_; rintro e w5 ⟨rfl, b5⟩)
          | (go_at_call 81; refine (kw _ (by go_grown)).mono ?_; rintro e w6 ⟨rfl, k6, c6⟩))
        go_roundw
        case rel => exact ⟨_, p, rfl, by omega, hide (U.out.step HP.out (by omega) kl pl HT.out.symm k6 ((Chg.of_below (by go_grown)).trans c6 (fun _ _ q => q)))⟩
        case measure => simp [intOf]; omega
end Go.Proofs.Ytdfmfkibafcbcaa
