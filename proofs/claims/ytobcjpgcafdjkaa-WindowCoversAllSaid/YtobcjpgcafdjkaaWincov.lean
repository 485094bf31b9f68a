/- window: Cover: the windows from one second up to another. -/
import Derived.Test.YtobcjpgcafdjkaaWinref
namespace Go.Proofs.Ytobcjpgcafdjkaa
set_option linter.unusedVariables false
open Go.RowKit W
theorem info_i64 : (Try.prog.info? 2).map (fun i => (i.zero, i.size, i.bytes)) = some (some (.int .i64 0), 1, 8) := by kernel_rfl
/-- The numbers from q on, k of them, as cells. -/
def runs (q : Int) (k : Nat) : List Value := (List.range k).map fun j : Nat => Value.int .i64 (q + (j : Int))
theorem runs_succ (q : Int) (k : Nat) : runs q (k + 1) = runs q k ++ [.int .i64 (q + k)] := by simp [runs, List.range_succ]
theorem runs_len (q : Int) (k : Nat) : (runs q k).length = k := by simp [runs]
theorem one_int {k : IntKind} {x : Int} : ∀ u ∈ [Value.int k x], u.oneCell' = true := by intro u hu; rw [List.mem_singleton] at hu; subst hu; rfl
/-- The slice that Cover answers. -/
structure Owns (w wr : World) (v : Value) (q : Int) (k : Nat) : Prop where
  own : wr.ownsRow w.heap.size 2 1 v k (runs q k)
  below : Below w.heap.size w wr
  nil : k = 0 → v = .slice none 0 0
def CoverPost (w : World) (q : Int) (n : Nat) (e : Ending) (w' : World) : Prop := ∃ v, e = .returned (.tuple #[v, .int .i64 0]) ∧ Owns w w' v q n
set_option maxHeartbeats 4000000 in
theorem cover_ok (t l d p q : Int) (n : Nat) (i : IsHi t) (j : IsHi l) (h1 : 1 ≤ d) (h2 : d ≤ 1048576) (lt : t < l) (hp : p = t / d) (hq : q = (l - 1) / d) (hn : q = p + n - 1) (n1 : 1 ≤ n) (n2 : n ≤ 4096) (w : World) :
    Calls Try.prog 15 #[.int .i64 t, .int .i64 l, .int .i64 d] w (CoverPost w p n) := by
  have c1 := width_ok d h1 h2
  have c2 := floor_spec t d p i h1 hp
  have jl : IsHi (l - 1) := by obtain ⟨_, _⟩ := i; obtain ⟨_, _⟩ := j; exact ⟨by omega, by omega⟩
  have c3 := floor_spec (l - 1) d q jl h1 hq
  have ip := div_hi i h1
  have iq := div_hi jl h1
  rw [← hp] at ip
  rw [← hq] at iq
  obtain ⟨p1, p2⟩ := ip
  obtain ⟨q1, q2⟩ := iq
  obtain ⟨l1, l2⟩ := j
  obtain ⟨t1, t2⟩ := i
  have e1 : IntKind.u64.wrap (IntKind.u64.wrap q - IntKind.u64.wrap p) = (n : Int) - 1 := by simp only [IntKind.wrap_u64]; omega
  have e2 : wrap64 (wrap64 (q - p) + 1) = n := by
    have : wrap64 (q - p) = q - p := wrap_in ⟨by omega, by omega⟩
    rw [this]; exact (wrap_in ⟨by omega, by omega⟩).trans (by omega)
  have nl : ¬ l ≤ t := by omega
  have HN : Hid (q = p + n - 1) := hn
  have e0 : wrap64 (l - 1) = l - 1 := wrap_in jl
  have e3 : wrap64 (q - p) = (n : Int) - 1 := (wrap_in ⟨by omega, by omega⟩).trans (by omega)
  have e4 : wrap64 ((n : Int) - 1 + 1) = n := (wrap_in ⟨by omega, by omega⟩).trans (by omega)
  have P1 : Hid (-9223372036854775808 ≤ p ∧ p + n ≤ 9223372036854775808) := ⟨p1, by omega⟩
  clear hp hq hn jl e2 p1 p2 q1 q2 l1 l2 t1 t2
  go_enter Try.func15, Try.ntmps15
  go_wp2_with fail
  refine (c1 _).mono ?_
  rintro e w' ⟨rfl, rfl⟩
  go_wp2_with fail
  refine (c2 _).mono ?_
  rintro e w' ⟨rfl, rfl⟩
  go_wp2_with fail
  refine (c3 _).mono ?_
  rintro e w' ⟨rfl, rfl⟩
  go_wp2_with fail
  clear e0 e1 e3 e4
  go_loopw [10, 35] (fun v i wr => ∃ k : Nat, k ≤ n ∧ i = .int .i64 k ∧ Owns w wr v p k) (fun _ i _ => n - (intOf i).toNat)
  case atStart => exact ⟨0, by omega, rfl, ⟨⟨rfl, .inl ⟨rfl, rfl⟩⟩, Below.refl _ _, fun _ => rfl⟩⟩
  case round =>
    obtain ⟨k, hk, rfl, own⟩ := hrel
    by_cases hlt : k < n
    · have e5 : wrap64 (p + k) = p + k := by have := P1.out; exact wrap_in ⟨by omega, by omega⟩
      have ow := own.own
      have bl := own.below
      have sz := bl.size
      have HO : Hid (Owns w wr u10 p k) := own
      clear own
      have c3 : k + 1 ≤ maxLen := by unfold maxLen; omega
      obtain ⟨i0, hi0, hz0, hz1, hz2⟩ := info_parts info_i64
      have HI : Hid (Try.prog.info? 2 = some i0 ∧ i0.zero = some (.int .i64 0) ∧ i0.size = 1 ∧ i0.bytes = 8) := ⟨hi0, hz0, hz1, hz2⟩
      clear hi0 hz0 hz1 hz2
      have OW : Hid (wr.ownsRow w.heap.size 2 1 u10 k (runs p k)) := ow
      clear ow
      go_wp2_with (at_builtin; go_loud (refine wpList_append_own _ rfl _ _ 27 rfl w.heap.size 2 i0 (.int .i64 0) 1 8 Try.underlying27 HI.out.1 HI.out.2.1 HI.out.2.2.1 HI.out.2.2.2 rfl (by decide) u10 k (runs p k) rfl (OW.out.alloc _) ⟨wr.heap.size, 0, none⟩ 1 1 [.int .i64 (p + k)] rfl rfl (cell_one_new _ _ _) one_int c3 (by omega) (by simp; omega) ?_); intro v' w1 hown' hgrow hnil)
      go_roundw
      case rel =>
        have own2 : Owns w w1 v' p (k + 1) := ⟨by rw [runs_succ]; exact hown', (bl.alloc sz _).grown hgrow (by simp; omega) (fun j hj => (OW.out.lt j hj).1), fun h => by omega⟩
        exact ⟨k + 1, by omega, by go_num, own2⟩
      case measure => simp [intOf]; omega
    · obtain rfl : k = n := by omega
      go_wp2
      go_returns
      exact ⟨u10, rfl, own⟩
theorem cover_bad (t l d : Int) (h1 : d < 1 ∨ 1048576 < d) (w : World) :
    Calls Try.prog 15 #[.int .i64 t, .int .i64 l, .int .i64 d] w fun e w' => e = .returned (.tuple #[.slice none 0 0, .int .i64 61]) ∧ w = w' := by
  have c1 := width_bad d h1
  clear h1
  go_enter Try.func15, Try.ntmps15
  go_wp2_with (go_at_call 33; refine (c1 _).mono ?_; rintro e w' ⟨rfl, rfl⟩)
  go_returns
  exact ⟨rfl, rfl⟩
theorem cover_none (t l d : Int) (h1 : 1 ≤ d) (h2 : d ≤ 1048576) (le : l ≤ t) (w : World) :
    Calls Try.prog 15 #[.int .i64 t, .int .i64 l, .int .i64 d] w fun e w' => e = .returned (.tuple #[.slice none 0 0, .int .i64 0]) ∧ w = w' := by
  have c1 := width_ok d h1 h2
  go_enter Try.func15, Try.ntmps15
  go_wp2_with (go_at_call 33; refine (c1 _).mono ?_; rintro e w' ⟨rfl, rfl⟩)
  go_returns
  exact ⟨rfl, rfl⟩
theorem cover_many (t l d p q : Int) (i : IsHi t) (j : IsHi l) (h1 : 1 ≤ d) (h2 : d ≤ 1048576) (lt : t < l) (hp : p = t / d) (hq : q = (l - 1) / d) (pq : p ≤ q) (many : 4096 ≤ q - p) (w : World) :
    Calls Try.prog 15 #[.int .i64 t, .int .i64 l, .int .i64 d] w fun e w' => e = .returned (.tuple #[.slice none 0 0, .int .i64 3]) ∧ w = w' := by
  have c1 := width_ok d h1 h2
  have c2 := floor_spec t d p i h1 hp
  have jl : IsHi (l - 1) := by obtain ⟨_, _⟩ := i; obtain ⟨_, _⟩ := j; exact ⟨by omega, by omega⟩
  have c3 := floor_spec (l - 1) d q jl h1 hq
  have ip := div_hi i h1
  have iq := div_hi jl h1
  rw [← hp] at ip
  rw [← hq] at iq
  obtain ⟨p1, p2⟩ := ip
  obtain ⟨q1, q2⟩ := iq
  obtain ⟨m, hm⟩ : ∃ m, m = q - p := ⟨_, rfl⟩
  have e1 : IntKind.u64.wrap (IntKind.u64.wrap q - IntKind.u64.wrap p) = m := by simp only [IntKind.wrap_u64]; omega
  have e0 : wrap64 (l - 1) = l - 1 := wrap_in jl
  have nl : ¬ l ≤ t := by omega
  have mm : 4096 ≤ m := by omega
  clear hp hq jl p1 p2 q1 q2 hm many pq i j
  go_enter Try.func15, Try.ntmps15
  go_wp2_with fail
  refine (c1 _).mono ?_
  rintro e w' ⟨rfl, rfl⟩
  go_wp2_with fail
  refine (c2 _).mono ?_
  rintro e w' ⟨rfl, rfl⟩
  go_wp2_with fail
  refine (c3 _).mono ?_
  rintro e w' ⟨rfl, rfl⟩
  go_wp2_with fail
  go_returns
  exact ⟨rfl, rfl⟩
end Go.Proofs.Ytobcjpgcafdjkaa
