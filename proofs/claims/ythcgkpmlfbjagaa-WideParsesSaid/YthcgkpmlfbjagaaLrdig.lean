/- The reference of layer 1: its faces: Int, Digits, Parse; WideParses. (gen_lparse.py) -/
import Derived.Test.YthcgkpmlfbjagaaLsum
import Derived.Test.YthcgkpmlfbjagaaWtxt
import Derived.Test.YthcgkpmlfbjagaaLawsigns
import Derived.Deep.DeepCutAuto
namespace Go.Proofs.Ythcgkpmlfbjagaa
set_option linter.unusedVariables false
set_option linter.unusedSimpArgs false
open Go.RowKit W Lb
theorem wk_lt (s : ByteArray) (hd : ∀ j (hj : j < s.size), Dc.isD s[j] = true) (k : Nat) (hk : k ≤ s.size) : wk s k < 10 ^ k := by
  induction k with
  | zero => rw [wk_zero]; decide
  | succ k ih =>
    have := ih (by omega)
    have dd := hd k (by omega)
    rw [wk_succ s k (by omega), Nat.pow_succ]
    unfold Dc.isD at dd
    simp at dd
    omega
theorem plain_first {s : ByteArray} (h : plainB s = true) (h1 : 1 < s.size) : 49 ≤ (s[0]'(by omega)).toNat := by
  have dd := plain_digits h 0 (by omega)
  have hl : s.toList.length = s.size := by rw [ByteArray.toList_eq]; simp
  have hh : s.toList.head? = some (s[0]'(by omega)) := by
    rw [ByteArray.toList_eq, List.head?_eq_getElem?, List.getElem?_eq_getElem (by rw [ByteArray.toList_eq] at hl; omega)]; rfl
  unfold plainB at h
  have ne : (s.toList == [48]) = false := by
    simp only [beq_eq_false_iff_ne, ne_eq]
    intro e; rw [e] at hl; simp at hl; omega
  rw [hh, ne] at h
  simp only [Bool.and_eq_true, Bool.or_false, Bool.not_eq_true', beq_eq_false_iff_ne, ne_eq, Option.some.injEq] at h
  have n48 : ¬ (s[0]'(by omega)).toNat = 48 := fun e => h.1.2 (UInt8.toNat_inj.1 (by rw [e]; rfl))
  unfold Dc.isD at dd
  simp at dd
  omega
theorem wk_ge {s : ByteArray} (h : plainB s = true) (h1 : 1 < s.size) (k : Nat) (hk : k + 1 ≤ s.size) : 10 ^ k ≤ wk s (k + 1) := by
  induction k with
  | zero =>
    have := plain_first h h1
    rw [wk_succ s 0 (by omega), wk_zero]
    simp; omega
  | succ k ih =>
    have := ih (by omega)
    rw [wk_succ s (k + 1) (by omega), Nat.pow_succ]
    omega
theorem wk_big {s : ByteArray} (h : plainB s = true) (h1 : 40 < s.size) : ¬ wk s s.size < 340282366920938463463374607431768211456 := by
  have a := wk_ge h (by omega) 40 (by omega)
  have b := wk_mono s (40 + 1)
  have e : (10:Nat) ^ 40 = 10000000000000000000000000000000000000000 := by decide
  omega
theorem rint_spec (n : Int) (j : IsHi n) (w : World) :
    Calls Try.prog 64 #[.int .i64 n] w (NumPost w n) := by
  have k1 := rof_spec n j
  have k2 := from_spec (hi n) (lo n) ⟨by obtain ⟨_, _⟩ := j; exact ⟨by unfold hi; omega, by unfold hi; omega⟩, isLo_lo n⟩
  rw [V_hi_lo] at k2
  unfold wideRes at k1
  go_enter Try.func64, Try.ntmps64
  go_wp2_with fail
  refine (k1 _).mono ?_
  rintro e w1 ⟨rfl, h1⟩
  obtain ⟨a0, a1, a2⟩ := live (.bool false) h1 w.heap.size 0 (by first | omega | (simp; done) | (simp; omega)) (by simp [go_sem]) (by simp [go_sem])
  obtain ⟨b0, b1, b2⟩ := live (.slice none 0 0) h1 w.heap.size 1 (by first | omega | (simp; done) | (simp; omega)) (by simp [go_sem]) (by simp [go_sem])
  have s1 := h1.size
  have B1 : Below w.heap.size w w1 := Below.trans (by go_grown) (h1.mono (by first | (simp; done) | omega | (simp; omega)))
  have y1 := B1.size
  go_wp2_with fail
  refine (k2 _).mono ?_
  rintro e w2 ⟨s, p, c, l, rfl, N, h2⟩
  have B2 : Below w.heap.size w w2 := B1.trans (h2.mono y1)
  have B3 := hide (Below.trans h1 (h2.mono (by first | exact s1 | (simp; omega) | omega | (simp; done))))
  obtain ⟨c0, c1, c2⟩ := live (.bool false) h2 w.heap.size 0 (by first | omega | (simp; done) | (simp; omega)) (by simp [go_sem, a0, a2]) (by simp [go_sem, a1, a2])
  obtain ⟨d0, d1, d2⟩ := live (.slice none 0 0) h2 w.heap.size 1 (by first | omega | (simp; done) | (simp; omega)) (by simp [go_sem, b0, a2]) (by simp [go_sem, b1, a2])
  have F := hide N
  clear N k1 k2 h1 h2 a0 a1 b0 b1
  go_wp2_with fail
  refine bodyPost_ret (by simp [results, Try.results64, go_sem, c0, c1, c2, d0, d1]; try rfl) rfl ?_
  refine ⟨_, _, _, _, rfl, ?_, ?_⟩
  · have sh : w2.shape? w.heap.size = some (57, 2) := by
      refine (shape_later B3.out (by simp)).trans ?_
      exact shape_new _ _ _ _
    have ne : (57 : TypeId) ≠ 88 := by decide
    repeat (first | exact F.out | refine IsNum.set ?_ (by first | exact sh | (rw [shape_set]; exact sh)) ne _)
  · repeat (first | exact B2 | refine Below.setCell ?_ (by first | (simp; done) | omega | (simp; omega)) _ | refine Below.drew ?_ | refine below_drewN ?_ _ | refine Below.alloc ?_ (by first | (simp; done) | omega | (simp; omega)) _)
set_option maxRecDepth 100000 in
set_option maxHeartbeats 4000000 in
theorem rdig_loop (s : ByteArray) (w : World) (hs : s.size ≤ 140737488355328) (h0 : 0 < s.size) (n1 : ¬ s.toList = []) (n2 : s.toList.isEmpty = false)
    (z : (s.toList == [48]) = true ∨ ((s.toList == [48]) = false ∧ ((s[0].toNat : Int) != 48) = true)) :
    Same 63 #[.string s] w (.bool (allD s)) := by
  rcases z with z | ⟨z, z2⟩
  all_goals
    go_enter Try.func63, Try.ntmps63
    go_wp2
    go_loop [3] (fun i => ∃ k : Nat, k ≤ s.size ∧ i = .int .i64 k ∧ Hid (∀ j (hj : j < s.size), j < k → Dc.isD s[j] = true)) (fun i => s.size - (intOf i).toNat)
    case atStart => exact ⟨0, by omega, rfl, fun j _ h => by omega⟩
    case round =>
      obtain ⟨k, hk, rfl, hd⟩ := hrel
      by_cases hlt : k < s.size
      · by_cases a : (s[k].toNat : Int) < 48
        · have F := hide (not_all k hlt (isD_no _ (.inl a)))
          go_wp2
          go_returns
          exact ⟨by rw [F.out]; rfl, rfl⟩
        · by_cases b : 57 < (s[k].toNat : Int)
          · have F := hide (not_all k hlt (isD_no _ (.inr b)))
            go_wp2
            go_returns
            exact ⟨by rw [F.out]; rfl, rfl⟩
          · have N : Hid (∀ j (hj : j < s.size), j < k + 1 → Dc.isD s[j] = true) := fun j hj h => by
              by_cases e : j = k
              · subst e; exact isD_yes _ (by omega) (by omega)
              · exact hd.out j hj (by omega)
            clear hd
            go_wp2
            go_round
            case rel => exact ⟨k + 1, by omega, by go_num, N⟩
            case measure => simp [intOf]; omega
      · obtain rfl : k = s.size := by omega
        have F := hide (all_of fun j hj => hd.out j hj hj)
        clear hd
        go_wp2
        go_returns
        exact ⟨by rw [F.out]; rfl, rfl⟩
set_option maxRecDepth 100000 in
set_option maxHeartbeats 4000000 in
theorem rdig_lead (s : ByteArray) (w : World) (hs : s.size ≤ 140737488355328) (h0 : 0 < s.size) (n1 : ¬ s.toList = []) (n2 : s.toList.isEmpty = false)
    (z : (s.toList == [48]) = false) (z2 : ((s[0].toNat : Int) != 48) = false) :
    Same 63 #[.string s] w (.bool false) := by
  go_enter Try.func63, Try.ntmps63
  go_wp2
  go_loop [3] (fun i => ∃ k : Nat, k ≤ s.size ∧ i = .int .i64 k) (fun i => s.size - (intOf i).toNat)
  case atStart => exact ⟨0, by omega, rfl⟩
  case round =>
    obtain ⟨k, hk, rfl⟩ := hrel
    by_cases hlt : k < s.size
    · by_cases a : (s[k].toNat : Int) < 48
      · go_wp2
        go_returns
        exact ⟨rfl, rfl⟩
      · by_cases b : 57 < (s[k].toNat : Int)
        · go_wp2
          go_returns
          exact ⟨rfl, rfl⟩
        · go_wp2
          go_round
          case rel => exact ⟨k + 1, by omega, by go_num⟩
          case measure => simp [intOf]; omega
    · obtain rfl : k = s.size := by omega
      go_wp2
      go_returns
      exact ⟨rfl, rfl⟩
set_option maxRecDepth 100000 in
set_option maxHeartbeats 4000000 in
theorem rdig_empty (w : World) : Same 63 #[.string ⟨#[]⟩] w (.bool false) := by
  go_enter Try.func63, Try.ntmps63
  go_wp2
  go_loop [3] (fun i => i = .int .i64 0) (fun i => 0)
  case atStart => rfl
  case round =>
    obtain rfl := hrel
    go_wp2
    go_returns
    exact ⟨rfl, rfl⟩
theorem rdig_spec (s : ByteArray) (w : World) (hs : s.size ≤ 140737488355328) : Same 63 #[.string s] w (.bool (plainB s)) := by
  by_cases h0 : s.size = 0
  · have e : s = ⟨#[]⟩ := by
      obtain ⟨d⟩ := s
      have : d.size = 0 := h0
      rw [Array.eq_empty_of_size_eq_zero this]
    subst e
    have q : plainB ⟨#[]⟩ = false := by unfold plainB; rw [show (⟨#[]⟩ : ByteArray).toList = [] from ByteArray.toList_mk []]; rfl
    rw [q]
    exact rdig_empty w
  · have hl : s.toList.length = s.size := by rw [ByteArray.toList_eq]; simp
    have n1 : ¬ s.toList = [] := fun e => by rw [e] at hl; simp at hl; omega
    have n2 : s.toList.isEmpty = false := by simpa using n1
    have hh : s.toList.head? = some (s[0]'(by omega)) := by
      rw [ByteArray.toList_eq, List.head?_eq_getElem?, List.getElem?_eq_getElem (by rw [ByteArray.toList_eq] at hl; omega)]; rfl
    unfold plainB
    rw [n2, hh]
    by_cases z : (s.toList == [48]) = true
    · rw [z]
      simpa using rdig_loop s w hs (by omega) n1 n2 (.inl z)
    · have z : (s.toList == [48]) = false := by simpa using z
      rw [z]
      by_cases z2 : ((s[0]'(by omega)).toNat : Int) = 48
      · have z' : s[0]'(by omega) = 48 := UInt8.toNat_inj.1 (by show _ = 48; omega)
        rw [z']
        exact rdig_lead s w hs (by omega) n1 n2 z (by simpa using z2)
      · have z' : ¬ s[0]'(by omega) = 48 := fun e => z2 (by rw [e]; rfl)
        have : (some (s[0]'(by omega)) == some 48) = false := by simpa using z'
        rw [this]
        simpa using rdig_loop s w hs (by omega) n1 n2 (.inr ⟨z, by simpa using z2⟩)
end Go.Proofs.Ythcgkpmlfbjagaa
