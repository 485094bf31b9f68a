/- sink: the connections one after another: plain facts. -/
import Derived.Test.YtbahhlgcebgfeaaDoorSnk23
namespace Go.Proofs.YtbahhlgcebgfeaaDoor
set_option linter.unusedVariables false
set_option linter.unusedSimpArgs false
open Go.RowKit W
/-- The bytes of d frames from k on. -/
def seg (L : List (List UInt8)) (k : Nat) : Nat → List UInt8
  | 0 => []
  | d + 1 => seg L k d ++ L.getD (k + d) []
theorem seg_cons (L : List (List UInt8)) (k d : Nat) : seg L k (d + 1) = L.getD k [] ++ seg L (k + 1) d := by
  induction d with
  | zero => rw [seg, seg, seg]; simp
  | succ d ih => rw [seg, ih, seg, List.append_assoc, Nat.add_right_comm k 1 d, Nat.add_assoc k d 1]
theorem seg_none (L : List (List UInt8)) (k d : Nat) (h : ∀ j, k ≤ j → j < k + d → L.getD j [] = []) : seg L k d = [] := by
  induction d with
  | zero => rfl
  | succ d ih => rw [seg, ih (fun j h1 h2 => h j h1 (by omega)), h (k + d) (by omega) (by omega)]; rfl
theorem pth_thru (W : List Int) (fl : Bool) (L : List (List UInt8)) (t n : Nat) (d k : Nat) (hk : k + d ≤ n) (h : ∀ j : Nat, k ≤ j → j < k + d → L.getD j [] = [] ∨ (j : Int) ∈ W) (r : List UInt8) (p : Pth W fl L t (n - (k + d)) (k + d) r) : Pth W fl L t (n - k) k (seg L k d ++ r) := by
  induction d generalizing k with
  | zero => simpa [seg] using p
  | succ d ih =>
    have ih2 := ih (k + 1) (by omega) (fun j h1 h2 => h j (by omega) (by omega)) (by rw [show k + 1 + d = k + (d + 1) by omega]; exact p)
    rw [show n - k = (n - (k + 1)) + 1 by omega, seg_cons, List.append_assoc]
    rw [Pth]
    by_cases e : L.getD k [] = []
    · rw [e]
      exact .inr (.inl ⟨rfl, ih2⟩)
    · have hw := (h k (Nat.le_refl _) (by omega)).resolve_left e
      refine .inr (.inr (.inr ⟨e, hw, ?_, ?_, ?_⟩))
      · rw [List.length_append]; omega
      · exact List.take_left
      · rw [List.drop_left]; exact ih2
theorem pth_stop (W : List Int) (fl : Bool) (L : List (List UInt8)) (m j : Nat) : Pth W fl L j m j [] := by
  cases m with
  | zero => exact ⟨rfl, rfl⟩
  | succ m => exact .inl ⟨rfl, rfl⟩
/-- Connections, the first one beginning at the frame k, the next one at t. -/
def Chn (W : List Int) (L : List (List UInt8)) : List (List UInt8 × Bool) → Nat → Nat → Prop
  | [], k, t => t = k
  | c :: cs, k, t => ∃ k1, Pth W c.2 L k1 (L.length - k) k c.1 ∧ k1 ≤ L.length ∧ Chn W L cs k1 t
theorem chn_snoc {W : List Int} {L : List (List UInt8)} {cs : List (List UInt8 × Bool)} {a t k1 : Nat} {c : List UInt8 × Bool} (h : Chn W L cs a t) (p : Pth W c.2 L k1 (L.length - t) t c.1) (l : k1 ≤ L.length) : Chn W L (cs ++ [c]) a k1 := by
  induction cs generalizing a with
  | nil =>
    have h : t = a := h
    subst h
    exact ⟨k1, p, l, rfl⟩
  | cons x cs ih =>
    obtain ⟨k2, q, l2, h⟩ := h
    exact ⟨k2, q, l2, ih h⟩
theorem send_parts (p : List Ch) (acc : List UInt8) (f : Bool) (b : List UInt8) (idle : Nat) (n : Int) : ∃ q, (sendL p acc f b idle n).2.1 = acc ++ b.take q ∧ (sendL p acc f b idle n).2.2.2.1 = b.drop q ∧ q ≤ b.length ∧ ((sendL p acc f b idle n).2.2.1 = false → b.drop q = []) := by
  fun_induction sendL p acc f b idle n with
  | case1 p acc idle n => exact ⟨0, by simp, by simp, by simp, fun _ => by simp⟩
  | case2 p acc b idle n hb h => exact ⟨_, rfl, rfl, wrF_le _ _, fun e => by cases e⟩
  | case3 p acc b idle n hb h k ih =>
    obtain ⟨q, h1, h2, h3, h4⟩ := ih
    rw [List.length_drop] at h3
    have hl := wrF_le p b.length
    refine ⟨(wrF p b.length).1 + q, ?_, ?_, by omega, fun e => ?_⟩
    · rw [h1, List.append_assoc, List.take_add]
    · rw [h2, List.drop_drop]
    · rw [← List.drop_drop]; exact h4 e
  | case4 p acc b idle n hb h k i => exact ⟨0, by simp, by simp, by omega, fun e => by cases e⟩
  | case5 p acc b idle n hb h k i ih => exact ih
theorem pl_up (P : List Ch) (L : List (List UInt8)) {k n : Nat} (h : k ≤ n) : (∀ x ∈ (plS P L k).wh, x ∈ (plS P L n).wh) ∧ (∀ x ∈ (plS P L k).lo, x ∈ (plS P L n).lo) := by
  induction n with
  | zero => obtain rfl : k = 0 := by omega
            exact ⟨fun _ q => q, fun _ q => q⟩
  | succ n ih =>
    by_cases e : k = n + 1
    · subst e; exact ⟨fun _ q => q, fun _ q => q⟩
    · obtain ⟨h1, h2⟩ := ih (by omega)
      have hs : (∀ x ∈ (plS P L n).wh, x ∈ (plS P L (n + 1)).wh) ∧ (∀ x ∈ (plS P L n).lo, x ∈ (plS P L (n + 1)).lo) := by
        rw [plS]
        unfold frS
        rw [if_neg (pl_no P L n)]
        constructor
        · intro x hx
          simp only
          split
          · exact List.mem_append_left _ hx
          · exact hx
        · intro x hx
          simp only
          split
          · exact hx
          · exact List.mem_append_left _ hx
      exact ⟨fun x q => hs.1 x (h1 x q), fun x q => hs.2 x (h2 x q)⟩
/-- Behind k frames. -/
def Stg (W : List Int) (L : List (List UInt8)) (cs : List (List UInt8 × Bool)) (k : Nat) : Prop :=
  (opn cs = (cs, []) ∧ ∃ t, t ≤ k ∧ Chn W L cs 0 t ∧ ∀ j, t ≤ j → j < k → L.getD j [] = []) ∨ (∃ D acc k0, cs = D ++ [(acc, false)] ∧ k0 ≤ k ∧ Chn W L D 0 k0 ∧ acc = seg L k0 (k - k0) ∧ ∀ j : Nat, k0 ≤ j → j < k → L.getD j [] = [] ∨ (j : Int) ∈ W)
theorem stg_all (P : List Ch) (L : List (List UInt8)) (k : Nat) (hk : k ≤ L.length) : Stg (plS P L L.length).wh L (plS P L k).cs k := by
  induction k with
  | zero => exact .inl ⟨rfl, 0, Nat.le_refl _, rfl, fun j h1 h2 => by omega⟩
  | succ k ih =>
    have ih := ih (by omega)
    have up := pl_up P L (k := k + 1) (n := L.length) hk
    have ex := (nm_all P L L.length).ex k (by omega)
    obtain ⟨W, hW⟩ : ∃ W, W = (plS P L L.length).wh := ⟨_, rfl⟩
    rw [← hW] at ih up ex ⊢
    clear hW
    rw [plS] at up ⊢
    unfold frS at up ⊢
    rw [if_neg (pl_no P L k)] at up ⊢
    generalize plS P L k = S at ih up
    obtain ⟨b, hb⟩ : ∃ b, b = L.getD k [] := ⟨_, rfl⟩
    rw [← hb] at up ⊢
    by_cases b0 : b = []
    · rw [b0, sendF_nil]
      rcases ih with ⟨h1, t, h2, h3, h4⟩ | ⟨D, acc, k0, h1, h2, h3, h4, h5⟩
      · refine .inl ⟨h1, t, by omega, h3, fun j j1 j2 => ?_⟩
        by_cases e : j = k
        · rw [e, ← hb, b0]
        · exact h4 j j1 (by omega)
      · refine .inr ⟨D, acc, k0, h1, by omega, h3, ?_, fun j j1 j2 => ?_⟩
        · rw [show k + 1 - k0 = (k - k0) + 1 by omega, seg, show k0 + (k - k0) = k by omega, ← hb, b0, List.append_nil]; exact h4
        · by_cases e : j = k
          · left; rw [e, ← hb, b0]
          · exact h5 j j1 (by omega)
    · rw [sendF_some _ _ _ b0] at up ⊢
      have op : ∃ k0, k0 ≤ k ∧ Chn W L (opn S.cs).1 0 k0 ∧ (opn S.cs).2 = seg L k0 (k - k0) ∧ ∀ j : Nat, k0 ≤ j → j < k → L.getD j [] = [] ∨ (j : Int) ∈ W := by
        rcases ih with ⟨h1, t, h2, h3, h4⟩ | ⟨D, acc, k0, h1, h2, h3, h4, h5⟩
        · refine ⟨t, h2, by rw [h1]; exact h3, ?_, fun j j1 j2 => .inl (h4 j j1 j2)⟩
          rw [h1, seg_none L t (k - t) (fun j j1 j2 => h4 j j1 (by omega))]
        · refine ⟨k0, h2, ?_, ?_, h5⟩
          · rw [h1, opn_old]; exact h3
          · rw [h1, opn_old]; exact h4
      obtain ⟨k0, o1, o2, o3, o4⟩ := op
      obtain ⟨q, s1, s2, s3, s4⟩ := send_parts S.P (opn S.cs).2 false b 0 S.n
      simp only [s1, s2] at up ⊢
      generalize (sendL S.P (opn S.cs).2 false b 0 S.n).2.2.1 = f at s4 up ⊢
      rw [o3]
      by_cases wl : b.drop q = []
      · have hq : q = b.length := by have := congrArg List.length wl; rw [List.length_drop] at this; simp at this; omega
        have kw : (k : Int) ∈ W := up.1 _ (by simp [wl])
        rw [hq, List.take_length]
        cases f
        · refine .inr ⟨_, _, k0, rfl, by omega, o2, ?_, fun j j1 j2 => ?_⟩
          · rw [show k + 1 - k0 = (k - k0) + 1 by omega, seg, show k0 + (k - k0) = k by omega, ← hb]
          · by_cases e : j = k
            · right; rw [e]; exact kw
            · exact o4 j j1 (by omega)
        · refine .inl ⟨opn_failed _ _, k + 1, Nat.le_refl _, chn_snoc o2 ?_ hk, fun j j1 j2 => by omega⟩
          have := pth_thru W true L (k + 1) L.length (k - k0) k0 (by omega) (fun j j1 j2 => o4 j j1 (by omega)) b (by
            rw [show k0 + (k - k0) = k by omega, show L.length - k = (L.length - (k + 1)) + 1 by omega, Pth, ← hb]
            exact .inr (.inr (.inr ⟨b0, kw, Nat.le_refl _, List.take_length, by rw [List.drop_length]; exact pth_stop _ _ _ _ _⟩)))
          exact this
      · cases f
        · exact absurd (s4 rfl) wl
        · have kl := up.2 (k : Int) (by simp [wl])
          have kw : (k : Int) ∉ W := fun h => ex.1 h kl
          refine .inl ⟨opn_failed _ _, k + 1, Nat.le_refl _, chn_snoc o2 ?_ hk, fun j j1 j2 => by omega⟩
          have hq : q < b.length := by
            rcases Nat.lt_or_ge q b.length with h | h
            · exact h
            · exact absurd (List.drop_eq_nil_of_le h) wl
          have := pth_thru W true L (k + 1) L.length (k - k0) k0 (by omega) (fun j j1 j2 => o4 j j1 (by omega)) (b.take q) (by
            rw [show k0 + (k - k0) = k by omega, show L.length - k = (L.length - (k + 1)) + 1 by omega, Pth, ← hb]
            refine .inr (.inr (.inl ⟨b0, kw, rfl, ?_, ?_, rfl⟩))
            · rw [List.length_take]; omega
            · rw [List.length_take, Nat.min_eq_left (by omega)])
          exact this
/-- All connections, and what is left is empty. -/
theorem chn_all (P : List Ch) (L : List (List UInt8)) : ∃ t, t ≤ L.length ∧ Chn (plS P L L.length).wh L (plS P L L.length).cs 0 t ∧ ∀ j, t ≤ j → j < L.length → L.getD j [] = [] := by
  rcases stg_all P L L.length (Nat.le_refl _) with ⟨h1, t, h2, h3, h4⟩ | ⟨D, acc, k0, h1, h2, h3, h4, h5⟩
  · exact ⟨t, h2, h3, h4⟩
  · refine ⟨L.length, Nat.le_refl _, ?_, fun j h1 h2 => by omega⟩
    rw [h1]
    refine chn_snoc h3 ?_ (Nat.le_refl _)
    have := pth_thru (plS P L L.length).wh false L L.length L.length (L.length - k0) k0 (by omega) (fun j j1 j2 => h5 j j1 (by omega)) [] (by
      rw [show k0 + (L.length - k0) = L.length by omega]
      exact pth_stop _ _ _ _ _)
    rw [List.append_nil, ← h4] at this
    exact this
end Go.Proofs.YtbahhlgcebgfeaaDoor
