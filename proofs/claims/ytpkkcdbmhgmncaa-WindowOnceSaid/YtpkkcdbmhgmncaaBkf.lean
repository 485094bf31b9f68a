/- The reference's Book: New, Has, Put. -/
import Derived.Test.YtpkkcdbmhgmncaaBkcl
import Derived.Test.YtpkkcdbmhgmncaaWinref
namespace Go.Proofs.Ytpkkcdbmhgmncaa
set_option linter.unusedVariables false
set_option linter.unusedSimpArgs false
open Go.RowKit W T9 Go.Maps
/-- The reference's book in block rb; its list lies in no block of X. -/
structure RBook (X : List Nat) (w : World) (rb : Nat) (d c : Int) (S : List Int) : Prop where
  c0 : w.cell? ⟨rb, 0, none⟩ = some (.int .i64 d)
  c1 : ∃ a cap, w.cell? ⟨rb, 1, none⟩ = some (.slice a S.length cap) ∧ IsInts .i64 w a S ∧ (a = none → cap = 0) ∧ S.length ≤ cap ∧ cap ≤ 9223372036854775807 ∧ ∀ g, a = some g → g.block ∉ X ∧ g.block < w.heap.size
  c2 : w.cell? ⟨rb, 2, none⟩ = some (.int .i64 c)
  f1 : w.frozen? ⟨rb, 1, none⟩ = false
  f2 : w.frozen? ⟨rb, 2, none⟩ = false
  lt : ∀ x ∈ X, x < w.heap.size
  mem : rb ∈ X
theorem RBook.mod {X l : List Nat} {w w' : World} {rb : Nat} {d c : Int} {S : List Int} (h : RBook X w rb d c S) (k : Mod l w w') (h1 : rb ∉ l) (h2 : ∀ x ∈ l, x ∈ X) : RBook X w' rb d c S := by
  obtain ⟨a, cap, e, i, n, z1, z2, m⟩ := h.c1
  have lr := h.lt rb h.mem
  exact ⟨(k.cell lr h1).trans h.c0, ⟨a, cap, (k.cell lr h1).trans e, i.mod k fun g hg q => (m g hg).1 (h2 _ q), n, z1, z2, fun g hg => ⟨(m g hg).1, Nat.lt_of_lt_of_le (m g hg).2 k.size⟩⟩, (k.cell lr h1).trans h.c2, (k.frozen lr h1).trans h.f1, (k.frozen lr h1).trans h.f2, fun x hx => Nat.lt_of_lt_of_le (h.lt x hx) k.size, h.mem⟩
theorem RBook.later {X : List Nat} {w w' : World} {rb : Nat} {d c : Int} {S : List Int} (h : RBook X w rb d c S) (k : Below w.heap.size w w') : RBook X w' rb d c S := h.mod (Mod.of_below (l := []) k) (by simp) (by simp)
set_option maxRecDepth 100000 in
set_option maxHeartbeats 4000000 in
theorem has_spec6 {X : List Nat} {w : World} {rb : Nat} {d c : Int} {S : List Int} (h : RBook X w rb d c S) (hs : S.length ≤ 4096) (q : Int) :
    CalcN 39 #[.pointer (some ⟨rb, 0, none⟩), .int .i64 q] w (.bool (decide (q ∈ S))) := by
  obtain ⟨a, cap, c1, i, n0, z1, z2, m⟩ := h.c1
  clear h n0 m
  by_cases z : S = []
  · subst z
    rw [show decide (q ∈ ([] : List Int)) = false by simp]
    go_enter Try.func39, Try.ntmps39
    go_wp2
    refine wp_loop_rounds 1 ?_
    rw [rounds_succ]
    go_wp2
    go_returns
    exact ⟨rfl, rfl⟩
  · obtain ⟨g, o, rfl, la⟩ := i.resolve_left z
    have H := hide la
    obtain ⟨R, hR⟩ : ∃ R, R = decide (q ∈ S) := ⟨_, rfl⟩
    rw [← hR]
    have RR := hide hR
    obtain ⟨n, hn⟩ : ∃ n, n = S.length := ⟨_, rfl⟩
    rw [← hn] at c1 hs z1
    have NN := hide hn
    clear la z i hR hn
    go_enter Try.func39, Try.ntmps39
    go_wp2
    go_loopw [5] (fun i wr => ∃ k : Nat, k ≤ n ∧ i = .int .i64 k ∧ wr = w ∧ Hid (q ∉ S.take k)) (fun i _ => n - (intOf i).toNat)
    case atStart => exact ⟨0, by omega, rfl, rfl, by simp [Hid]⟩
    case round =>
      obtain ⟨k, hk, rfl, rfl, NT⟩ := hrel
      by_cases hlt : k < n
      · have k1 : k < S.length := by have := NN.out; omega
        have e1 := H.out.cell k k1
        obtain ⟨x, hx⟩ : ∃ x, x = S[k] := ⟨_, rfl⟩
        rw [← hx] at e1
        have hlt' : (k : Int) < (n : Int) := by omega
        by_cases t : x = q
        · have F : Hid (R = true) := by
            show R = true
            rw [RR.out]
            exact decide_eq_true (by rw [← t, hx]; exact List.getElem_mem _)
          subst t
          clear hx k1
          go_wp2
          go_returns
          exact ⟨by rw [F.out]; rfl, rfl⟩
        · have NX : Hid (q ∉ S.take (k + 1)) := by
            show q ∉ S.take (k + 1)
            rw [List.take_add_one, List.getElem?_eq_getElem k1, ← hx]
            simp only [Option.toList_some, List.mem_append, List.mem_singleton, not_or]
            exact ⟨NT.out, fun e => t e.symm⟩
          clear hx k1
          go_wp2
          go_roundw
          case rel => exact ⟨k + 1, by omega, by go_num, by first | rfl | trivial, NX⟩
          case measure => simp [intOf]; omega
      · obtain rfl : k = n := by omega
        have F : Hid (R = false) := by
          show R = false
          have := NT.out
          rw [RR.out]
          rw [NN.out, List.take_length] at this
          exact decide_eq_false this
        clear NT
        go_wp2
        go_returns
        exact ⟨by rw [F.out]; rfl, rfl⟩
theorem insS_le {x y : Int} {T : List Int} (h : ¬ x < y) : insS x (y :: T) = y :: insS x T := by
  show (if x < y then x :: y :: T else y :: insS x T) = _
  rw [if_neg h]
theorem insS_lt {x y : Int} {T : List Int} (h : x < y) : insS x (y :: T) = x :: y :: T := by
  show (if x < y then x :: y :: T else y :: insS x T) = _
  rw [if_pos h]
theorem drop_cons {S : List Int} {k : Nat} (h : k < S.length) : S.drop k = S[k] :: S.drop (k + 1) := List.drop_eq_getElem_cons h
def RPutPost (X : List Nat) (w : World) (rb : Nat) (d c : Int) (S : List Int) (q : Int) (e : Ending) (w' : World) : Prop := e = .returned (.tuple #[.int .i64 q, .int .i64 0]) ∧ RBook X w' rb d c S ∧ Mod [rb] w w'
set_option maxRecDepth 100000 in
set_option maxHeartbeats 4000000 in
theorem rput_late {X : List Nat} {w : World} {rb : Nat} {d c : Int} {S : List Int} (h : RBook X w rb d c S) (t q : Int) (j : IsHi t) (h1 : 1 ≤ d) (h2 : d ≤ 1048576) (hq : q = t / d) (hc : q ≤ c) :
    CalcN 15 #[.pointer (some ⟨rb, 0, none⟩), .int .i64 t] w (.tuple #[.int .i64 0, .int .i64 62]) := by
  have kf := rof_ok t d q j h1 h2 hq
  have c0 := h.c0
  have c2 := h.c2
  clear h j h1 h2 hq
  go_enter Try.func15, Try.ntmps15
  go_wp2_with fail
  refine (kf _).mono ?_
  rintro e w' ⟨rfl, rfl⟩
  go_wp2_with fail
  go_returns
  exact ⟨rfl, rfl⟩
set_option maxRecDepth 100000 in
set_option maxHeartbeats 4000000 in
theorem rput_in {X : List Nat} {w : World} {rb : Nat} {d c : Int} {S : List Int} (h : RBook X w rb d c S) (hs : S.length ≤ 4096) (t q : Int) (j : IsHi t) (h1 : 1 ≤ d) (h2 : d ≤ 1048576) (hq : q = t / d) (hc : c < q) (n : q ∈ S) :
    CalcN 15 #[.pointer (some ⟨rb, 0, none⟩), .int .i64 t] w (.tuple #[.int .i64 q, .int .i64 0]) := by
  have kf := rof_ok t d q j h1 h2 hq
  have kh := has_spec6 h hs q
  rw [decide_eq_true n] at kh
  have c0 := h.c0
  have c2 := h.c2
  have nc : ¬ q ≤ c := by omega
  clear h j h1 h2 hq n hs hc
  go_enter Try.func15, Try.ntmps15
  go_wp2_with fail
  refine (kf _).mono ?_
  rintro e w' ⟨rfl, rfl⟩
  go_wp2_with fail
  refine kh.mono ?_
  rintro e w' ⟨rfl, rfl⟩
  go_wp2_with fail
  go_returns
  exact ⟨rfl, rfl⟩
set_option maxRecDepth 100000 in
set_option maxHeartbeats 4000000 in
theorem rput_many {X : List Nat} {w : World} {rb : Nat} {d c : Int} {S : List Int} (h : RBook X w rb d c S) (hs : S.length = 4096) (t q : Int) (j : IsHi t) (h1 : 1 ≤ d) (h2 : d ≤ 1048576) (hq : q = t / d) (hc : c < q) (n : q ∉ S) :
    CalcN 15 #[.pointer (some ⟨rb, 0, none⟩), .int .i64 t] w (.tuple #[.int .i64 0, .int .i64 3]) := by
  have kf := rof_ok t d q j h1 h2 hq
  have kh := has_spec6 h (by omega) q
  rw [decide_eq_false n] at kh
  have c0 := h.c0
  obtain ⟨a, cap, c1, _⟩ := h.c1
  rw [hs] at c1
  have c2 := h.c2
  have nc : ¬ q ≤ c := by omega
  clear h j h1 h2 hq n hs hc
  go_enter Try.func15, Try.ntmps15
  go_wp2_with fail
  refine (kf _).mono ?_
  rintro e w' ⟨rfl, rfl⟩
  go_wp2_with fail
  refine kh.mono ?_
  rintro e w' ⟨rfl, rfl⟩
  go_wp2_with fail
  go_returns
  exact ⟨rfl, rfl⟩
end Go.Proofs.Ytpkkcdbmhgmncaa
