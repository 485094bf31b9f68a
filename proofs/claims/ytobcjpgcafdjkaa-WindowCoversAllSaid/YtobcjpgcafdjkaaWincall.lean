/- WindowCoversAll: the windows side by side. -/
import Derived.Test.YtobcjpgcafdjkaaWincov3
namespace Go.Proofs.Ytobcjpgcafdjkaa
set_option linter.unusedVariables false
open Go.RowKit W
set_option maxHeartbeats 1000000 in
theorem all_nil (t l d x : Int) (c1 : CoverIs 15 t l d x) (h : (x != 0) = true ∨ l ≤ t) (w : World) :
    Calls Try.prog 4 #[.int .i64 t, .int .i64 l, .int .i64 d] w fun e w' => e = .returned (.bool true) ∧ Below w.heap.size w w' := by
  have c0 := awake_ok
  by_cases n : l ≤ t
  · clear h
    go_enter Try.func4, Try.ntmps4
    go_wp2_with fail
    refine (c1 _).mono ?_
    rintro e w' ⟨rfl, rfl⟩
    go_wp2_with fail
    refine (c0 _).mono ?_
    rintro e w' ⟨rfl, rfl⟩
    go_wp2_with fail
    all_goals go_returns
    all_goals exact ⟨rfl, Below.refl _ _⟩
  · have h' : (x != 0) = true := by rcases h with h | h; exact h; exact absurd h n
    clear h
    go_enter Try.func4, Try.ntmps4
    go_wp2_with fail
    refine (c1 _).mono ?_
    rintro e w' ⟨rfl, rfl⟩
    go_wp2_with fail
    refine (c0 _).mono ?_
    rintro e w' ⟨rfl, rfl⟩
    go_wp2_with fail
    all_goals go_returns
    all_goals exact ⟨rfl, Below.refl _ _⟩
set_option maxHeartbeats 4000000 in
theorem all_some (t l d p q : Int) (n : Nat) (n1 : 1 ≤ n) (n2 : n ≤ 4096) (lt : t < l) (c1 : CoverHas 15 t l d p n) (c2 : Two 14 t d p 0) (c3 : Two 14 (l - 1) d q 0)
    (hq : q = p + n - 1) (hw : wrap64 (l - 1) = l - 1) (hp : -9223372036854775808 ≤ p) (hm : p + n ≤ 9223372036854775808) (w : World) :
    Calls Try.prog 4 #[.int .i64 t, .int .i64 l, .int .i64 d] w fun e w' => e = .returned (.bool true) ∧ Below w.heap.size w w' := by
  have c0 := awake_ok
  have N1 : Hid (1 ≤ n ∧ n ≤ 4096) := ⟨n1, n2⟩
  have P : Hid (-9223372036854775808 ≤ p ∧ p + n ≤ 9223372036854775808) := ⟨hp, hm⟩
  have Q : Hid (q = p + n - 1) := hq
  have nl : ¬ l ≤ t := by omega
  have nn : ((n : Int) == 0) = false := by simp; omega
  have nm : ¬ 4096 < (n : Int) := by omega
  clear hp hm hq n1 n2 lt
  go_enter Try.func4, Try.ntmps4
  go_wp2_with fail
  refine (c1 _).mono ?_
  intro e v1 hp
  obtain ⟨g, cap, he, la, b1⟩ := got hp N1.out.1
  clear hp
  rw [he]
  go_wp2_with fail
  refine (c0 _).mono ?_
  rintro e w' ⟨rfl, rfl⟩
  go_wp2_with fail
  go_loopw [9] (fun i wr => ∃ k : Nat, k + 1 ≤ n ∧ i = .int .i64 ((k : Int) + 1) ∧ Below v1.heap.size v1 wr) (fun i _ => n - (intOf i).toNat)
  case atStart => exact ⟨0, N1.out.1, rfl, Below.refl _ _⟩
  case round =>
    obtain ⟨k, hk, rfl, bl⟩ := hrel
    have nb := N1.out.2
    by_cases hlt : k + 1 < n
    · have y1 := (la.later bl).cell k (by omega)
      have y2 := (la.later bl).cell (k + 1) (by omega)
      simp only [Nat.zero_add] at y1 y2
      have ex : wrap64 (p + (k : Int) + 1) = p + ((k + 1 : Nat) : Int) := by have := P.out; exact (wrap_in ⟨by omega, by omega⟩).trans (by omega)
      have ne : ((p + (k : Int)) == 9223372036854775807) = false := by have := P.out; simp; omega
      generalize p + (k : Int) = x at *
      generalize p + ((k + 1 : Nat) : Int) = y at *
      have BL : Hid (Below v1.heap.size v1 wr) := bl
      have lt' : (k : Int) + 1 < (n : Int) := by omega
      have tn : ((k : Int) + 1).toNat = k + 1 := by omega
      have sb : (k : Int) + 1 - 1 = k := by omega
      clear bl la
      go_wp2_with fail
      go_quiet (fail)
      go_wp2_with fail
      go_roundw
      case rel => exact ⟨k + 1, by omega, by go_num, winb_drewN BL.out _⟩
      case measure => simp [intOf]; omega
    · obtain rfl : n = k + 1 := by omega
      have y0 := (la.later bl).cell 0 (by omega)
      have y1 := (la.later bl).cell k (by omega)
      simp only [Nat.zero_add, Nat.add_zero] at y0 y1
      have e0 : p + ((0 : Nat) : Int) = p := by omega
      have e1 : p + (k : Int) = q := by have := Q.out; omega
      rw [e0] at y0
      rw [e1] at y1
      have sb : (k : Int) + 1 - 1 = k := by omega
      have BB : Hid (Below w.heap.size w wr) := b1.trans (bl.mono b1.size)
      have lt' : ¬ (k : Int) + 1 < ((k + 1 : Nat) : Int) := by omega
      have k0 : (0 : Int) < ((k + 1 : Nat) : Int) := by omega
      clear bl la e0 e1 b1
      go_wp2_with fail
      refine (c2 _).mono ?_
      rintro e1 w1 ⟨rfl, rfl⟩
      go_wp2_with fail
      refine (c3 _).mono ?_
      rintro e2 w2 ⟨rfl, rfl⟩
      go_wp2_with fail
      all_goals go_returns
      all_goals exact ⟨rfl, BB.out⟩
theorem law_WindowCoversAll (t l d : Int) (w0 : (Lit.int .i64 t).wf = true) (w1 : (Lit.int .i64 l).wf = true) (w2 : (Lit.int .i64 d).wf = true) (w : World) :
    Calls Try.prog 4 #[.int .i64 t, .int .i64 l, .int .i64 d] w fun e w' => e = .returned (.bool true) ∧ Below w.heap.size w w' := by
  have i := win_hi_of_wf w0
  have j := win_hi_of_wf w1
  by_cases h : d < 1 ∨ 1048576 < d
  · exact all_nil t l d _ (cover_bad t l d h) (.inl rfl) w
  · have h1 : 1 ≤ d := by omega
    have h2 : d ≤ 1048576 := by omega
    by_cases le : l ≤ t
    · exact all_nil t l d _ (cover_none t l d h1 h2 le) (.inr le) w
    · have lt : t < l := by omega
      have jl : IsHi (l - 1) := by obtain ⟨_, _⟩ := i; obtain ⟨_, _⟩ := j; exact ⟨by omega, by omega⟩
      have pq : t / d ≤ (l - 1) / d := Int.ediv_le_ediv (by omega) (by omega)
      by_cases many : 4096 ≤ (l - 1) / d - t / d
      · exact all_nil t l d _ (cover_many t l d _ _ i j h1 h2 lt rfl rfl pq many) (.inl rfl) w
      · have hn : (l - 1) / d = t / d + (((l - 1) / d - t / d + 1).toNat : Int) - 1 := by omega
        have ip := div_hi i h1
        have iq := div_hi jl h1
        obtain ⟨p1, p2⟩ := ip
        obtain ⟨q1, q2⟩ := iq
        exact all_some t l d _ _ _ (by omega) (by omega) lt (cover_ok t l d _ _ _ i j h1 h2 lt rfl rfl hn (by omega) (by omega)) (of_ok t d _ i h1 h2 rfl) (of_ok (l - 1) d _ jl h1 h2 rfl) hn (wrap_in jl) p1 (by omega) w
end Go.Proofs.Ytobcjpgcafdjkaa
