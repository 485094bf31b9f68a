/- The reference's Cover; WindowCovers. -/
import Derived.Test.YtobcjpgcafdjkaaWinsame
namespace Go.Proofs.Ytobcjpgcafdjkaa
set_option linter.unusedVariables false
open Go.RowKit W
set_option maxHeartbeats 4000000 in
theorem rcover_ok (t l d p q : Int) (n : Nat) (i : IsHi t) (j : IsHi l) (h1 : 1 ≤ d) (h2 : d ≤ 1048576) (lt : t < l) (hp : p = t / d) (hq : q = (l - 1) / d) (hn : q = p + n - 1) (n1 : 1 ≤ n) (n2 : n ≤ 4096) (w : World) :
    Calls Try.prog 18 #[.int .i64 t, .int .i64 l, .int .i64 d] w (CoverPost w p n) := by
  have c1 := rbad_no d h1 h2
  have c2 := rof_ok t d p i h1 h2 hp
  have jl : IsHi (l - 1) := by obtain ⟨_, _⟩ := i; obtain ⟨_, _⟩ := j; exact ⟨by omega, by omega⟩
  have c3 := rof_ok (l - 1) d q jl h1 h2 hq
  have ip := div_hi i h1
  have iq := div_hi jl h1
  rw [← hp] at ip
  rw [← hq] at iq
  obtain ⟨p1, p2⟩ := ip
  obtain ⟨q1, q2⟩ := iq
  obtain ⟨m, hm⟩ : ∃ m : Int, m = (n : Int) - 1 := ⟨_, rfl⟩
  have e1 : IntKind.u64.wrap (IntKind.u64.wrap q - IntKind.u64.wrap p) = m := by simp only [IntKind.wrap_u64]; omega
  have e0 : wrap64 (l - 1) = l - 1 := wrap_in jl
  have nl : ¬ l ≤ t := by omega
  have P1 : Hid (-9223372036854775808 ≤ p ∧ p + n ≤ 9223372036854775808) := ⟨p1, by omega⟩
  have M : Hid (m = (n : Int) - 1) := hm
  have mm : m < 4096 := by omega
  clear hp hq hn jl p1 p2 q1 q2 hm
  go_enter Try.func18, Try.ntmps18
  go_wp2_with fail
  refine (c1 _).mono ?_
  rintro e w' ⟨rfl, rfl⟩
  go_wp2_with fail
  refine (c2 _).mono ?_
  rintro e w' ⟨rfl, rfl⟩
  go_wp2_with fail
  refine (c3 _).mono ?_
  rintro e w' ⟨rfl, rfl⟩
  go_wp2_with fail
  clear e0 c1 c2 c3
  go_loopw [12, 13] (fun v i wr => ∃ k : Nat, k ≤ n ∧ i = .int .u64 k ∧ Owns w wr v p k) (fun _ i _ => n - (intOf i).toNat)
  case atStart => exact ⟨0, by omega, rfl, ⟨⟨rfl, .inl ⟨rfl, rfl⟩⟩, Below.refl _ _, fun _ => rfl⟩⟩
  case round =>
    obtain ⟨k, hk, rfl, own⟩ := hrel
    by_cases hlt : k < n
    · have e5 : wrap64 (p + k) = p + k := by have := P1.out; exact wrap_in ⟨by omega, by omega⟩
      have e6 : IntKind.i64.wrap (k : Int) = k := by rw [IntKind.wrap_i64]; omega
      have e7 : IntKind.u64.wrap ((k : Int) + 1) = k + 1 := by rw [IntKind.wrap_u64]; omega
      have km : (k : Int) ≤ m := by have := M.out; omega
      have ow := own.own
      have bl := own.below
      have sz := bl.size
      clear own
      have c3 : k + 1 ≤ maxLen := by unfold maxLen; omega
      obtain ⟨i0, hi0, hz0, hz1, hz2⟩ := info_parts info_i64
      have HI : Hid (Try.prog.info? 2 = some i0 ∧ i0.zero = some (.int .i64 0) ∧ i0.size = 1 ∧ i0.bytes = 8) := ⟨hi0, hz0, hz1, hz2⟩
      clear hi0 hz0 hz1 hz2
      have OW : Hid (wr.ownsRow w.heap.size 2 1 u12 k (runs p k)) := ow
      clear ow
      go_wp2_with (at_builtin; refine wpList_append_own _ rfl _ _ 27 rfl w.heap.size 2 i0 (.int .i64 0) 1 8 Try.underlying27 HI.out.1 HI.out.2.1 HI.out.2.2.1 HI.out.2.2.2 rfl (by decide) u12 k (runs p k) rfl (OW.out.alloc _) ⟨wr.heap.size, 0, none⟩ 1 1 [.int .i64 (p + k)] rfl rfl (cell_one_new _ _ _) one_int c3 (by omega) (by simp; omega) ?_; intro v' w1 hown' hgrow hnil)
      go_roundw
      case rel =>
        have own2 : Owns w w1 v' p (k + 1) := ⟨by rw [runs_succ]; exact hown', (bl.alloc sz _).grown hgrow (by simp; omega) (fun j hj => (OW.out.lt j hj).1), fun h => by omega⟩
        exact ⟨k + 1, by omega, by go_num, own2⟩
      case measure => simp [intOf]; omega
    · obtain rfl : k = n := by omega
      have km : ¬ (k : Int) ≤ m := by have := M.out; omega
      go_wp2
      go_returns
      exact ⟨u12, rfl, own⟩
theorem rcover_bad (t l d : Int) (h1 : d < 1 ∨ 1048576 < d) (w : World) :
    Calls Try.prog 18 #[.int .i64 t, .int .i64 l, .int .i64 d] w fun e w' => e = .returned (.tuple #[.slice none 0 0, .int .i64 61]) ∧ w = w' := by
  have c1 := rbad_yes d h1
  clear h1
  go_enter Try.func18, Try.ntmps18
  go_wp2_with (go_at_call 35; refine (c1 _).mono ?_; rintro e w' ⟨rfl, rfl⟩)
  go_returns
  exact ⟨rfl, rfl⟩
theorem rcover_none (t l d : Int) (h1 : 1 ≤ d) (h2 : d ≤ 1048576) (le : l ≤ t) (w : World) :
    Calls Try.prog 18 #[.int .i64 t, .int .i64 l, .int .i64 d] w fun e w' => e = .returned (.tuple #[.slice none 0 0, .int .i64 0]) ∧ w = w' := by
  have c1 := rbad_no d h1 h2
  go_enter Try.func18, Try.ntmps18
  go_wp2_with (go_at_call 35; refine (c1 _).mono ?_; rintro e w' ⟨rfl, rfl⟩)
  go_returns
  exact ⟨rfl, rfl⟩
theorem rcover_many (t l d p q : Int) (i : IsHi t) (j : IsHi l) (h1 : 1 ≤ d) (h2 : d ≤ 1048576) (lt : t < l) (hp : p = t / d) (hq : q = (l - 1) / d) (pq : p ≤ q) (many : 4096 ≤ q - p) (w : World) :
    Calls Try.prog 18 #[.int .i64 t, .int .i64 l, .int .i64 d] w fun e w' => e = .returned (.tuple #[.slice none 0 0, .int .i64 3]) ∧ w = w' := by
  have c1 := rbad_no d h1 h2
  have c2 := rof_ok t d p i h1 h2 hp
  have jl : IsHi (l - 1) := by obtain ⟨_, _⟩ := i; obtain ⟨_, _⟩ := j; exact ⟨by omega, by omega⟩
  have c3 := rof_ok (l - 1) d q jl h1 h2 hq
  have ip := div_hi i h1
  have iq := div_hi jl h1
  rw [← hp] at ip
  rw [← hq] at iq
  obtain ⟨p1, p2⟩ := ip
  obtain ⟨q1, q2⟩ := iq
  obtain ⟨m, hm⟩ : ∃ m, m = q - p := ⟨_, rfl⟩
  have e1 : IntKind.u64.wrap (IntKind.u64.wrap q - IntKind.u64.wrap p) = m := by simp only [IntKind.wrap_u64]; omega
  have e0 : wrap64 (l - 1) = l - 1 := wrap_in jl
  have nl : ¬ l ≤ t := by omega
  have mm : 4096 ≤ m := by omega
  clear hp hq jl p1 p2 q1 q2 hm many pq i j
  go_enter Try.func18, Try.ntmps18
  go_wp2_with fail
  refine (c1 _).mono ?_
  rintro e w' ⟨rfl, rfl⟩
  go_wp2_with fail
  refine (c2 _).mono ?_
  rintro e w' ⟨rfl, rfl⟩
  go_wp2_with fail
  refine (c3 _).mono ?_
  rintro e w' ⟨rfl, rfl⟩
  go_wp2_with fail
  go_returns
  exact ⟨rfl, rfl⟩
end Go.Proofs.Ytobcjpgcafdjkaa
