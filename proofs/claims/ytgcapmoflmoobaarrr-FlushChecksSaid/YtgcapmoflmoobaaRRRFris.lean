/- flush: rising; slices.Contains of numbers. -/
import Derived.Test.YtgcapmoflmoobaaRRRInts
import Derived.Test.YtgcapmoflmoobaaRRRFmath
namespace Go.Proofs.YtgcapmoflmoobaaRRR
set_option linter.unusedVariables false
set_option linter.unusedSimpArgs false
open Go.RowKit W
set_option maxRecDepth 100000 in
set_option maxHeartbeats 4000000 in
theorem rising_spec (a : Option Addr) (c : Nat) (xs : List Int) (m : Int) (w : World) (hx : IsInts .i64 w a xs) (hl : xs.length ≤ 140737488355328) :
    CalcN 24 #[.slice a xs.length c, .int .i64 m] w (.bool (riseB m xs)) := by
  rcases hx with rfl | ⟨g, o, rfl, hx⟩
  · go_enter Try.func24, Try.ntmps24
    go_wp2
    refine wp_loop_rounds 1 ?_
    rw [rounds_succ]
    go_wp2
    go_returns
    exact ⟨rfl, rfl⟩
  obtain ⟨E, hE⟩ : ∃ E, E = riseB m xs := ⟨_, rfl⟩
  rw [← hE]
  have HE : Hid (riseB m (xs.drop 0) = E) := hE.symm
  have H := hide hx
  clear hE hx
  go_enter Try.func24, Try.ntmps24
  go_wp2
  go_loop [9] (fun i => ∃ k : Nat, k ≤ xs.length ∧ i = .int .i64 k ∧ Hid ((k = 0 ∧ riseB m (xs.drop 0) = E) ∨ ∃ (j : Nat) (h : j < xs.length), k = j + 1 ∧ m ≤ xs[j] ∧ riseB (xs[j] + 1) (xs.drop k) = E)) (fun i => xs.length - (intOf i).toNat)
  case atStart => exact ⟨0, by omega, rfl, .inl ⟨rfl, HE.out⟩⟩
  case round =>
    obtain ⟨k, hk, rfl, hd⟩ := hrel
    by_cases hlt : k < xs.length
    · have c0 := H.out.cell k hlt
      have dd : xs.drop k = xs[k] :: xs.drop (k + 1) := List.drop_eq_getElem_cons hlt
      rcases hd with ⟨rfl, q⟩ | ⟨j, hj, rfl, hm, q⟩
      · rw [dd, riseB] at q
        rw [Nat.add_zero] at c0
        obtain ⟨x, hxk⟩ : ∃ x, x = xs[0] := ⟨_, rfl⟩
        rw [← hxk] at q c0
        have X := hide hxk
        have Q := hide q
        clear q hxk dd
        by_cases t : m ≤ x
        · have F : Hid (riseB (x + 1) (xs.drop 1) = E) := by have q := Q.out; rw [decide_eq_true t, Bool.true_and] at q; exact q
          have t2 : ¬ x < m := by omega
          clear Q
          go_wp2_with fail
          go_round
          case rel => exact ⟨1, by omega, by go_num, .inr ⟨0, hlt, rfl, by rw [← X.out]; exact t, by rw [← X.out]; exact F.out⟩⟩
          case measure => simp [intOf]; omega
        · have F : Hid (E = false) := by have q := Q.out; rw [decide_eq_false t, Bool.false_and] at q; exact q.symm
          have t2 : x < m := by omega
          clear Q
          go_wp2_with fail
          all_goals
            go_returns
            exact ⟨by rw [F.out]; rfl, rfl⟩
      · rw [dd, riseB] at q
        have c1 := H.out.cell j hj
        obtain ⟨x, hxk⟩ : ∃ x, x = xs[j + 1] := ⟨_, rfl⟩
        obtain ⟨y, hyk⟩ : ∃ y, y = xs[j] := ⟨_, rfl⟩
        rw [← hxk] at q c0
        rw [← hyk] at q c1 hm
        have X := hide hxk
        have Q := hide q
        clear q hxk hyk dd
        by_cases t : y + 1 ≤ x
        · have F : Hid (riseB (x + 1) (xs.drop (j + 1 + 1)) = E) := by have q := Q.out; rw [decide_eq_true t, Bool.true_and] at q; exact q
          have t2 : ¬ x < m := by omega
          have t3 : ¬ x ≤ y := by omega
          clear Q
          go_wp2_with fail
          go_round
          case rel => exact ⟨j + 1 + 1, by omega, by go_num, .inr ⟨j + 1, hlt, rfl, by rw [← X.out]; omega, by rw [← X.out]; exact F.out⟩⟩
          case measure => simp [intOf]; omega
        · have F : Hid (E = false) := by have q := Q.out; rw [decide_eq_false t, Bool.false_and] at q; exact q.symm
          have t3 : x ≤ y := by omega
          clear Q t
          go_wp2_with fail
          all_goals
            go_returns
            exact ⟨by rw [F.out]; rfl, rfl⟩
    · obtain rfl : k = xs.length := by omega
      have F : Hid (E = true) := by
        rcases hd with ⟨h0, q⟩ | ⟨j, hj, h0, hm, q⟩
        · have : xs = [] := List.eq_nil_of_length_eq_zero h0
          rw [this] at q; exact q.symm
        · rw [List.drop_eq_nil_of_le (Nat.le_refl _)] at q; exact q.symm
      clear hd
      go_wp2
      go_returns
      exact ⟨by rw [F.out]; rfl, rfl⟩
def IdxPost (xs : List Int) (v : Int) (w : World) (e : Ending) (w' : World) : Prop := ∃ n : Int, e = .returned (.int .i64 n) ∧ decide (0 ≤ n) = decide (v ∈ xs) ∧ w = w'
theorem idx_mk {xs : List Int} {v : Int} {w : World} (n : Int) (h : 0 ≤ n ↔ v ∈ xs) : IdxPost xs v w (.returned (.int .i64 n)) w := ⟨n, rfl, by simp only [decide_eq_decide]; exact h, rfl⟩
set_option maxRecDepth 100000 in
set_option maxHeartbeats 4000000 in
theorem index_spec (a : Option Addr) (c : Nat) (xs : List Int) (v : Int) (w : World) (hx : IsInts .i64 w a xs) (hl : xs.length ≤ 140737488355328) :
    Calls Try.prog 37 #[.slice a xs.length c, .int .i64 v] w (IdxPost xs v w) := by
  rcases hx with rfl | ⟨g, o, rfl, hx⟩
  · go_enter Try.func37, Try.ntmps37
    go_wp2
    refine wp_loop_rounds 1 ?_
    rw [rounds_succ]
    go_wp2
    go_returns
    exact idx_mk (-1) (by simp)
  have H := hide hx
  clear hx
  go_enter Try.func37, Try.ntmps37
  go_wp2
  go_loop [8] (fun i => ∃ k : Nat, k ≤ xs.length ∧ i = .int .i64 k ∧ Hid (∀ (j : Nat) (h : j < xs.length), j < k → xs[j] ≠ v)) (fun i => xs.length - (intOf i).toNat)
  case atStart => exact ⟨0, by omega, rfl, fun j _ h => absurd h (by omega)⟩
  case round =>
    obtain ⟨k, hk, rfl, hd⟩ := hrel
    by_cases hlt : k < xs.length
    · have c0 := H.out.cell k hlt
      by_cases t : v = xs[k]
      · have M : Hid (v ∈ xs) := by rw [t]; exact List.getElem_mem hlt
        rw [← t] at c0
        clear t
        go_wp2_with fail
        go_returns
        exact idx_mk (k : Int) ⟨fun _ => M.out, fun _ => by omega⟩
      · obtain ⟨x, hxk⟩ : ∃ x, x = xs[k] := ⟨_, rfl⟩
        have N : Hid (∀ (j : Nat) (h : j < xs.length), j < k + 1 → xs[j] ≠ v) := by
          intro j h hj e
          by_cases q : j = k
          · subst q; exact t e.symm
          · exact hd.out j h (by omega) e
        rw [← hxk] at c0 t
        have tb : (v == x) = false := by rw [beq_eq_false_iff_ne]; exact t
        clear hxk hd
        go_wp2_with fail
        go_round
        case rel => exact ⟨k + 1, by omega, by go_num, N⟩
        case measure => simp [intOf]; omega
    · obtain rfl : k = xs.length := by omega
      have M : Hid (v ∉ xs) := by
        intro h
        obtain ⟨j, hj, e⟩ := List.getElem_of_mem h
        exact hd.out j hj hj e
      clear hd
      go_wp2
      go_returns
      exact idx_mk (-1) ⟨fun h => by omega, fun h => absurd h M.out⟩
set_option maxRecDepth 100000 in
theorem contains_spec (a : Option Addr) (c : Nat) (xs : List Int) (v : Int) (w : World) (hx : IsInts .i64 w a xs) (hl : xs.length ≤ 140737488355328) :
    CalcN 25 #[.slice a xs.length c, .int .i64 v] w (.bool (decide (v ∈ xs))) := by
  have k := index_spec a c xs v w hx hl
  obtain ⟨B, hB⟩ : ∃ B, B = decide (v ∈ xs) := ⟨_, rfl⟩
  rw [← hB]
  have HB := hide hB
  clear hB
  go_enter Try.func25, Try.ntmps25
  go_wp2_with fail
  refine k.mono ?_
  rintro e w1 ⟨n, rfl, h, rfl⟩
  have N : Hid (decide (0 ≤ n) = B) := by show _ = _; rw [h, HB.out]
  clear h k
  go_wp2_with fail
  all_goals
    go_returns
    refine ⟨?_, rfl⟩
    show Ending.returned (.bool _) = _
    exact ret_bool N.out
end Go.Proofs.YtgcapmoflmoobaaRRR
