/- wire: Split. -/
import Derived.Test.YthaphijkfedihaaWsp
namespace Go.Proofs.Ythaphijkfedihaa
set_option linter.unusedVariables false
set_option linter.unusedSimpArgs false
open Go.RowKit W
/-- What is still to be split from the place k on. -/
def restS (l : List UInt8) (k : Nat) : List (List UInt8) := if k ≤ l.length then splitL (l.drop k) else []
theorem restS_step (l : List UInt8) (k : Nat) (h : k ≤ l.length) :
    restS l k = (if bareL ((l.take (k + lineN (l.drop k))).drop k) = [] then [] else [bareL ((l.take (k + lineN (l.drop k))).drop k)]) ++ restS l (k + lineN (l.drop k) + 1) := by
  unfold restS
  rw [if_pos h]
  have e : (l.take (k + lineN (l.drop k))).drop k = (l.drop k).take (lineN (l.drop k)) := by rw [List.drop_take]; congr 1; omega
  rw [e]
  unfold splitL
  conv => lhs; rw [cut_line]
  have le := lineN_le (l.drop k)
  rw [List.length_drop] at le
  rw [List.map_cons, List.filter_cons]
  have q : (List.map bareL (if lineN (l.drop k) < (l.drop k).length then cutL 10 [] ((l.drop k).drop (lineN (l.drop k) + 1)) else [])).filter (fun p => !p.isEmpty) = if k + lineN (l.drop k) + 1 ≤ l.length then ((cutL 10 [] (l.drop (k + lineN (l.drop k) + 1))).map bareL).filter (fun p => !p.isEmpty) else [] := by
    by_cases g : k + lineN (l.drop k) + 1 ≤ l.length
    · rw [if_pos g, if_pos (by rw [List.length_drop]; omega), List.drop_drop, Nat.add_assoc]
    · rw [if_neg g, if_neg (by rw [List.length_drop]; omega)]; rfl
  rw [q]
  by_cases z : bareL ((l.drop k).take (lineN (l.drop k))) = []
  · rw [z]; simp
  · have zz : (!(bareL ((l.drop k).take (lineN (l.drop k)))).isEmpty) = true := by simpa using z
    rw [if_pos zz, if_neg z]; rfl
def SplitPost (l : List UInt8) (w : World) (e : Ending) (w' : World) : Prop := ∃ v ps, e = .returned v ∧ ps.map lst = splitL l ∧ OwnT w w' v ps
set_option maxRecDepth 100000 in
set_option maxHeartbeats 8000000 in
theorem split_spec (a : Option Addr) (l : List UInt8) (c : Nat) (w : World) (h : IsBytes w a l) (hl : l.length ≤ 8000000000000) (hc : l.length ≤ c) (hn : a = none → l.length = 0 ∧ c = 0) :
    Calls Try.prog 26 #[.slice a l.length c] w (SplitPost l w) := by
  obtain ⟨T, hT⟩ : ∃ T, T = splitL l := ⟨_, rfl⟩
  have HT : Hid (restS l 0 = T) := by show _ = _; unfold restS; rw [if_pos (Nat.zero_le _), hT]; rfl
  have HP : Hid (∀ v ps w', ps.map lst = T → OwnT w w' v ps → SplitPost l w (.returned v) w') := by
    intro v ps w' h2 h3; exact ⟨v, ps, rfl, h2.trans hT, h3⟩
  have HI := hide h
  have HN := hide hn
  clear hT h hn
  obtain ⟨n, hn⟩ : ∃ n, n = l.length := ⟨_, rfl⟩
  have NN := hide hn
  rw [← hn] at hl hc ⊢
  clear hn
  go_enter Try.func26, Try.ntmps26
  go_wp2
  go_loopw [3, 4] (fun v i wr => ∃ (k : Nat) (ps : List ByteArray), k ≤ n + 1 ∧ ps.length ≤ k ∧ i = .int .i64 k ∧ OwnT w wr v ps ∧ Hid (ps.map lst ++ restS l k = T)) (fun _ i _ => n + 1 - (intOf i).toNat)
  case atStart => exact ⟨0, [], by omega, by simp, rfl, OwnT.none_ w, HT⟩
  case round =>
    obtain ⟨k, ps, hk, hp, rfl, own, hd⟩ := hrel
    have HO := hide own
    have bl := own.below
    have sz := bl.size
    clear own
    by_cases hlt : k ≤ n
    · have i0 : IsBytes wr a l := HI.out.later bl
      have f1 := bytes_from i0 c k (by rw [← NN.out]; exact hlt) (by rw [← NN.out]; exact hc)
      rw [← NN.out] at f1
      obtain ⟨a2, r1, i2, n2⟩ := f1
      have kl := linelen_spec a2 (l.drop k) (c - k) wr i2 (by rw [List.length_drop, ← NN.out]; omega) (fun e => by
        have := HN.out (n2 e); rw [List.length_drop]; omega)
      rw [List.length_drop, ← NN.out] at kl
      have hm := lineN_le (l.drop k)
      rw [List.length_drop, ← NN.out] at hm
      have ST := restS_step l k (by rw [← NN.out]; exact hlt)
      obtain ⟨m, hmm⟩ : ∃ m, m = lineN (l.drop k) := ⟨_, rfl⟩
      rw [← hmm] at kl hm ST
      have f2 := bytes_cut i0 c k (k + m) (by omega) (by rw [← NN.out]; omega) (by rw [← NN.out]; exact hc)
      rw [← NN.out] at f2
      obtain ⟨a3, r3, i3⟩ := f2
      have l3 : ((l.take (k + m)).drop k).length = m := by rw [List.length_drop, List.length_take, ← NN.out]; omega
      have kb := bare_spec a3 ((l.take (k + m)).drop k) m wr i3 (by omega) (by omega)
      rw [l3] at kb
      rw [Nat.add_sub_cancel_left] at r3
      simp only [Int.natCast_add] at r3
      obtain ⟨q, hq⟩ : ∃ q, q = bareL ((l.take (k + m)).drop k) := ⟨_, rfl⟩
      rw [← hq] at kb ST
      have HST : Hid (ps.map lst ++ ((if q = [] then [] else [q]) ++ restS l (k + m + 1)) = T) := by have := hd.out; rw [ST] at this; exact this
      have s1 : IntKind.i64.wrap ((k : Int) + m) = k + m := by rw [IntKind.wrap_i64]; omega
      clear i2 n2 ST hmm i3 l3 hq hd i0
      go_wp2_with fail
      refine kl.mono ?_
      rintro e w1 ⟨rfl, rfl⟩
      clear kl r1
      go_wp2_with fail
      refine kb.mono ?_
      rintro e w1 ⟨a4, c4, rfl, hc4, i4, rfl⟩
      clear kb r3
      by_cases z : q = []
      · have HD : Hid (ps.map lst ++ restS l (k + m + 1) = T) := by have := HST.out; rw [if_pos z] at this; apply hide; simpa using this
        rw [z, List.length_nil] at *
        clear z HST i4 hc4
        go_wp2_with fail
        go_roundw
        case rel => exact ⟨k + m + 1, ps, by omega, by omega, by go_num, HO.out, HD⟩
        case measure => first | (simp [intOf]; done) | (simp [intOf]; omega)
      · obtain ⟨x, hx, cv⟩ := bytes_text i4 z c4
        have HD : Hid ((ps ++ [x]).map lst ++ restS l (k + m + 1) = T) := by have := HST.out; rw [if_neg z] at this; apply hide; rw [List.map_append]; simpa [hx] using this
        have qn : 0 < q.length := by cases q; exact absurd rfl z; simp
        have cv1 := cv wr (Below.refl _ _)
        obtain ⟨qn', hqn⟩ : ∃ y, y = q.length := ⟨_, rfl⟩
        rw [← hqn] at cv1 qn ⊢
        clear HST i4 hc4 z hx cv hqn
        have c3 : ps.length + 1 ≤ maxLen := by unfold maxLen; omega
        obtain ⟨i0, hi0, hz0, hz1, hz2⟩ := info_parts info_txt
        have HI : Hid (Try.prog.info? 9 = some i0 ∧ i0.zero = some (.string ByteArray.empty) ∧ i0.size = 1 ∧ i0.bytes = 16) := ⟨hi0, hz0, hz1, hz2⟩
        clear hi0 hz0 hz1 hz2
        go_wp2_with (
          at_builtin
          refine wpList_append_own _ rfl _ _ 27 rfl w.heap.size 9 i0 (.string ByteArray.empty) 1 16 Try.underlying27 HI.out.1 HI.out.2.1 HI.out.2.2.1 HI.out.2.2.2 ?a1 ?a2 u3 ps.length (ps.map Value.string) ?a3 ?a4 ⟨wr.heap.size, 0, none⟩ 1 1 [.string x] ?a5 ?a6 ?a7 ?a8 ?a9 ?b1 ?b2 ?_
          case a1 => rfl
          case a2 => decide
          case a3 => rfl
          case a4 => exact HO.out.own.alloc _
          case a5 => rfl
          case a6 => rfl
          case a7 => exact cell_one_new _ _ _
          case a8 => exact one_txt
          case a9 => exact c3
          case b1 => omega
          case b2 => (simp; omega)
          intro v' w1 hown' hgrow hnil)
        go_roundw
        case rel => exact ⟨k + m + 1, ps ++ [x], by omega, by simp; omega, by go_num, HO.out.more hown' hgrow, HD⟩
        case measure => first | (simp [intOf]; done) | (simp [intOf]; omega)
    · obtain rfl : k = n + 1 := by omega
      have HD : Hid (ps.map lst = T) := by
        have q := hd.out
        unfold restS at q
        rw [if_neg (by rw [← NN.out]; omega), List.append_nil] at q
        exact q
      clear hd
      go_wp2
      go_returns
      exact HP.out _ ps _ HD.out HO.out
end Go.Proofs.Ythaphijkfedihaa
