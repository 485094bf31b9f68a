/- sink: has; what is whole and what is lost. -/
import Derived.Test.YtbahhlgcebgfeaaDoorSnk16
namespace Go.Proofs.YtbahhlgcebgfeaaDoor
set_option linter.unusedVariables false
set_option linter.unusedSimpArgs false
open Go.RowKit W
theorem still18 {f : FuncId} {args : Array Value} {w : World} {n : Nat} {v : Value} (h : CalcN f args (w.drewN n) v) : Calls Tryd.prog f args (w.drewN n) fun e u => e = .returned v ∧ ∃ m, u = w.drewN m :=
  h.mono fun e u q => ⟨q.1, ⟨n, q.2.symm⟩⟩
set_option maxRecDepth 100000 in
set_option maxHeartbeats 4000000 in
theorem has_is {w : World} {a : Option Addr} {c : Nat} {S : List Int} (i : IsInts .i64 w a S) (hs : S.length ≤ maxLen) (q : Int) :
    CalcN 19 #[.slice a S.length c, .int .i64 q] w (.bool (decide (q ∈ S))) := by
  unfold maxLen at hs
  by_cases z : S = []
  · subst z
    rw [show decide (q ∈ ([] : List Int)) = false by simp]
    go_enter Tryd.func19, Tryd.ntmps19
    go_wp2
    refine wp_loop_rounds 1 ?_
    rw [rounds_succ]
    go_wp2
    go_returns
    exact ⟨rfl, rfl⟩
  · obtain ⟨g, o, rfl, la⟩ := i.resolve_left z
    have H := hide la
    obtain ⟨R, hR⟩ : ∃ R, R = decide (q ∈ S) := ⟨_, rfl⟩
    rw [← hR]
    have RR := hide hR
    obtain ⟨n, hn⟩ : ∃ n, n = S.length := ⟨_, rfl⟩
    rw [← hn] at hs ⊢
    have NN := hide hn
    clear la z i hR hn
    go_enter Tryd.func19, Tryd.ntmps19
    go_wp2
    go_loopw [5] (fun i wr => ∃ k : Nat, k ≤ n ∧ i = .int .i64 k ∧ wr = w ∧ Hid (q ∉ S.take k)) (fun i _ => n - (intOf i).toNat)
    case atStart => exact ⟨0, by omega, rfl, rfl, by simp [Hid]⟩
    case round =>
      obtain ⟨k, hk, rfl, rfl, NT⟩ := hrel
      by_cases hlt : k < n
      · have k1 : k < S.length := by have := NN.out; omega
        have e1 := H.out.cell k k1
        obtain ⟨x, hx⟩ : ∃ x, x = S[k] := ⟨_, rfl⟩
        rw [← hx] at e1
        have hlt' : (k : Int) < (n : Int) := by omega
        by_cases t : x = q
        · have F : Hid (R = true) := by
            show R = true
            rw [RR.out]
            exact decide_eq_true (by rw [← t, hx]; exact List.getElem_mem _)
          subst t
          clear hx k1
          go_wp2
          go_returns
          exact ⟨by rw [F.out]; rfl, rfl⟩
        · have NX : Hid (q ∉ S.take (k + 1)) := by
            show q ∉ S.take (k + 1)
            rw [List.take_add_one, List.getElem?_eq_getElem k1, ← hx]
            simp only [Option.toList_some, List.mem_append, List.mem_singleton, not_or]
            exact ⟨NT.out, fun e => t e.symm⟩
          clear hx k1
          go_wp2
          go_roundw
          case rel => exact ⟨k + 1, by omega, by go_num, by first | rfl | trivial, NX⟩
          case measure => simp [intOf]; omega
      · obtain rfl : k = n := by omega
        have F : Hid (R = false) := by
          show R = false
          rw [RR.out]
          refine decide_eq_false ?_
          have := NT.out
          rw [NN.out, List.take_length] at this
          exact this
        go_wp2
        go_returns
        exact ⟨by rw [F.out]; rfl, rfl⟩
/-- All connections but the last one have failed. -/
def Fa (cs : List (List UInt8 × Bool)) : Prop := ∀ i (h : i + 1 < cs.length), (cs[i]'(by omega)).2 = true
theorem sendF_nil (P : List Ch) (cs : List (List UInt8 × Bool)) (n : Int) : sendF P cs n [] = (P, cs, true, n) := by unfold sendF; rw [if_pos rfl]
theorem sendF_some (P : List Ch) (cs : List (List UInt8 × Bool)) (n : Int) {b : List UInt8} (h : b ≠ []) : sendF P cs n b = ((sendL P (opn cs).2 false b 0 n).1, (opn cs).1 ++ [((sendL P (opn cs).2 false b 0 n).2.1, (sendL P (opn cs).2 false b 0 n).2.2.1)], decide ((sendL P (opn cs).2 false b 0 n).2.2.2.1 = []), (sendL P (opn cs).2 false b 0 n).2.2.2.2) := by unfold sendF; rw [if_neg h]
/-- What is named. -/
structure Nm (S : SS) (L : List (List UInt8)) (k : Nat) : Prop where
  sum : S.wh.length + S.lo.length = k
  cs : S.cs.length ≤ k
  ex : ∀ i : Nat, i < k → (((i : Int) ∈ S.wh) ↔ ¬ ((i : Int) ∈ S.lo))
  em : ∀ i : Nat, i < k → L.getD i [] = [] → (i : Int) ∉ S.lo
  lw : ∀ x ∈ S.wh, x < (k : Int)
  ll : ∀ x ∈ S.lo, x < (k : Int)
  rw : S.wh.Pairwise (· < ·)
  rl : S.lo.Pairwise (· < ·)
  fa : Fa S.cs
theorem opn_fails (cs : List (List UInt8 × Bool)) (fa : Fa cs) : (∀ x ∈ (opn cs).1, x.2 = true) := by
  unfold opn
  cases e : cs.getLast? with
  | none =>
    rw [List.getLast?_eq_none_iff] at e
    subst e
    exact fun x h => by cases h
  | some x =>
    obtain ⟨acc, f⟩ := x
    obtain ⟨D, rfl⟩ : ∃ D, cs = D ++ [(acc, f)] := by
      have := List.getLast?_eq_some_iff.1 e
      exact this
    have hD : ∀ x ∈ D, x.2 = true := fun x hx => by
      obtain ⟨i, hi, rfl⟩ := List.getElem_of_mem hx
      have := fa i (by rw [List.length_append, List.length_singleton]; omega)
      rw [List.getElem_append_left hi] at this
      exact this
    cases f
    · simp only [Bool.false_eq_true, if_false, List.dropLast_concat]; exact hD
    · simp only [if_true]
      intro x hx
      rcases List.mem_append.1 hx with h | h
      · exact hD x h
      · rw [List.mem_singleton] at h; rw [h]
theorem all_fa {D : List (List UInt8 × Bool)} (h : ∀ x ∈ D, x.2 = true) (y : List UInt8 × Bool) : Fa (D ++ [y]) := by
  intro i hi
  rw [List.length_append, List.length_singleton] at hi
  rw [List.getElem_append_left (by omega)]
  exact h _ (List.getElem_mem _)
theorem nm_all (P : List Ch) (L : List (List UInt8)) (k : Nat) : Nm (plS P L k) L k := by
  induction k with
  | zero => exact ⟨rfl, by simp [plS], by omega, by omega, by simp [plS], by simp [plS], by simp [plS], by simp [plS], fun i h => absurd h (by simp [plS])⟩
  | succ k ih =>
    rw [plS]
    unfold frS
    rw [if_neg (pl_no P L k)]
    generalize plS P L k = S at ih
    generalize hb : L.getD k [] = b
    have hcs : Fa (sendF S.P S.cs S.n b).2.1 := by
      by_cases b0 : b = []
      · rw [b0, sendF_nil]; exact ih.fa
      · rw [sendF_some _ _ _ b0]; exact all_fa (opn_fails S.cs ih.fa) _
    have hlen : (sendF S.P S.cs S.n b).2.1.length ≤ k + 1 := by
      have := ih.cs
      unfold sendF
      by_cases b0 : b = []
      · rw [if_pos b0]; simp only []; omega
      · rw [if_neg b0]
        have := (opn_sub S.cs).2.1
        simp only [List.length_append, List.length_singleton]; omega
    have hem : b = [] → (sendF S.P S.cs S.n b).2.2.1 = true := fun b0 => by unfold sendF; rw [if_pos b0]
    generalize (sendF S.P S.cs S.n b).2.2.1 = f at hem
    have sum := ih.sum
    have nw : (k : Int) ∉ S.wh := fun q => by have := ih.lw _ q; omega
    have nl : (k : Int) ∉ S.lo := fun q => by have := ih.ll _ q; omega
    have snoc : ∀ l : List Int, (∀ x ∈ l, x < (k : Int)) → l.Pairwise (· < ·) → (l ++ [(k : Int)]).Pairwise (· < ·) := fun l h p => by
      rw [List.pairwise_append]
      exact ⟨p, List.pairwise_singleton _ _, fun x hx y hy => by rw [List.mem_singleton] at hy; subst hy; exact h x hx⟩
    have up : ∀ l : List Int, (∀ x ∈ l, x < (k : Int)) → ∀ x ∈ l ++ [(k : Int)], x < ((k + 1 : Nat) : Int) := fun l h x hx => by
      rcases List.mem_append.1 hx with q | q
      · have := h x q; omega
      · rw [List.mem_singleton] at q; omega
    cases f
    · have b0 : b ≠ [] := fun e => by have := hem e; cases this
      refine ⟨?_, hlen, fun i hi => ?_, fun i hi e => ?_, fun x hx => ?_, ?_, ?_, ?_, hcs⟩
      · simp only [Bool.false_eq_true, if_false, List.length_append, List.length_singleton]; omega
      · simp only [Bool.false_eq_true, if_false, List.mem_append, List.mem_singleton]
        by_cases hik : i < k
        · have := ih.ex i hik
          constructor
          · intro h q
            rcases q with q | q
            · exact this.1 h q
            · omega
          · intro h
            exact this.2 (fun q => h (.inl q))
        · obtain rfl : i = k := by omega
          exact ⟨fun h => absurd h nw, fun h => absurd (.inr rfl) h⟩
      · simp only [Bool.false_eq_true, if_false, List.mem_append, List.mem_singleton, not_or]
        by_cases hik : i < k
        · exact ⟨ih.em i hik e, by omega⟩
        · obtain rfl : i = k := by omega
          exact absurd (hb.symm.trans e) b0
      · simp only [Bool.false_eq_true, if_false] at hx; have := ih.lw x hx; omega
      · simp only [Bool.false_eq_true, if_false]; exact up _ ih.ll
      · simp only [Bool.false_eq_true, if_false]; exact ih.rw
      · simp only [Bool.false_eq_true, if_false]; exact snoc _ ih.ll ih.rl
    · refine ⟨?_, hlen, fun i hi => ?_, fun i hi e => ?_, ?_, fun x hx => ?_, ?_, ?_, hcs⟩
      · simp only [if_true, List.length_append, List.length_singleton]; omega
      · simp only [if_true, List.mem_append, List.mem_singleton]
        by_cases hik : i < k
        · have := ih.ex i hik
          constructor
          · intro h q
            rcases h with h | h
            · exact this.1 h q
            · omega
          · intro h
            exact .inl (this.2 h)
        · obtain rfl : i = k := by omega
          exact ⟨fun _ => nl, fun _ => .inr rfl⟩
      · simp only [if_true]
        by_cases hik : i < k
        · exact ih.em i hik e
        · obtain rfl : i = k := by omega
          exact nl
      · simp only [if_true]; exact up _ ih.lw
      · simp only [if_true] at hx; have := ih.ll x hx; omega
      · simp only [if_true]; exact snoc _ ih.lw ih.rw
      · simp only [if_true]; exact ih.rl
theorem pw_at {l : List Int} (h : l.Pairwise (· < ·)) (i : Nat) (hi : i + 1 < l.length) : l[i]'(by omega) < l[i + 1] := by
  rw [List.pairwise_iff_getElem] at h
  exact h i (i + 1) (by omega) hi (by omega)
end Go.Proofs.YtbahhlgcebgfeaaDoor
