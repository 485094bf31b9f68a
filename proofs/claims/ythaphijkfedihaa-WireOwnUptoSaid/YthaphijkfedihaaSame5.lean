/- 'same' of the statements of layer 5; a list of texts that is answered. -/
import Derived.Test.YthaphijkfedihaaWspl
import Derived.Laws.BytesString
import Derived.Deep.QuietTactic
import Derived.BigQuiet
namespace Go.Proofs.Ythaphijkfedihaa
set_option linter.unusedVariables false
set_option linter.unusedSimpArgs false
open Go.RowKit W
theorem bytes_text0 {w : World} {a : Option Addr} {l : List UInt8} (h : IsBytes w a l) (c : Nat) :
    ∃ x : ByteArray, lst x = l ∧ ∀ v, Below w.heap.size w v → (convert 35 9 (.slice a l.length c)).run Try.prog v = .ok (.string x) v := by
  by_cases e : l = []
  · subst e
    refine ⟨⟨#[]⟩, rfl, fun v _ => ?_⟩
    show (convert 35 9 (.slice a 0 c)).run Try.prog v = _
    rw [run_convert_bytes_string v 35 9 5 a 0 c Try.underlying35 Try.underlying5 Try.underlying9]
    cases a <;> simp [Conv.bytesToString, loadCells] <;> rfl
  · exact bytes_text h e c
def TextPost (l : List UInt8) (w : World) (e : Ending) (w' : World) : Prop := ∃ x, e = .returned (.string x) ∧ lst x = l ∧ w = w'
/-- A list of texts that is answered. -/
def TxtsPost (T : List (List UInt8)) (w : World) (e : Ending) (w' : World) : Prop := ∃ a c ps, e = .returned (.slice a (List.length ps) c) ∧ ps.map lst = T ∧ IsTxts w' a ps ∧ Below w.heap.size w w'
theorem tp_of {T : List (List UInt8)} {w0 w wr : World} {v : Value} {ps : List ByteArray} (h : OwnT w wr v ps) (b : Below w0.heap.size w0 w) (hp : ps.map lst = T) : TxtsPost T w0 (.returned v) wr := by
  obtain ⟨a, c, rfl, i⟩ := h.is
  exact ⟨a, c, ps, rfl, hp, i, b.trans (h.below.mono b.size)⟩
theorem split_post {l : List UInt8} {w w' : World} {e : Ending} (h : SplitPost l w e w') : TxtsPost (splitL l) w e w' := by
  obtain ⟨v, ps, rfl, hp, o⟩ := h
  exact tp_of o (Below.refl _ _) hp
set_option maxHeartbeats 2000000 in
theorem same5_true (a b : Option Addr) (c d : Nat) (ps : List ByteArray) (w : World) (ha : IsTxts w a ps) (hb : IsTxts w b ps) (hn : ps.length ≤ 140737488355328) :
    Calls Try.prog 19 #[.slice a ps.length c, .slice b ps.length d] w fun e w' => e = .returned (.bool true) ∧ Below w.heap.size w w' := by
  by_cases z : ps = []
  · subst z
    go_enter Try.func19, Try.ntmps19
    go_wp2
    refine wp_loop_rounds 1 ?_
    rw [rounds_succ]
    go_wp2
    go_returns
    exact ⟨rfl, Below.refl _ _⟩
  · obtain ⟨g, o, rfl, la⟩ := ha.resolve_left z
    obtain ⟨g', o', rfl, lb⟩ := hb.resolve_left z
    have H := hide la
    have H' := hide lb
    clear la lb z ha hb
    go_enter Try.func19, Try.ntmps19
    go_wp2
    go_loopw [5] (fun i wr => ∃ k : Nat, k ≤ ps.length ∧ i = .int .i64 k ∧ Hid (Below w.heap.size w wr)) (fun i _ => ps.length - (intOf i).toNat)
    case atStart => exact ⟨0, by omega, rfl, Below.refl _ _⟩
    case round =>
      obtain ⟨k, hk, rfl, bl⟩ := hrel
      by_cases hlt : k < ps.length
      · have e1 := (H.out.later bl.out).cell k hlt
        have e2 := (H'.out.later bl.out).cell k hlt
        generalize ps[k] = x at *
        have hlt' : (k : Int) < (ps.length : Int) := by omega
        go_wp2_with fail
        go_quiet (fail)
        go_wp2_with fail
        go_roundw
        case rel => exact ⟨k + 1, by omega, by go_num, below_drewN bl.out _⟩
        case measure => simp [intOf]; omega
      · obtain rfl : k = ps.length := by omega
        go_wp2
        go_returns
        exact ⟨rfl, bl.out⟩
end Go.Proofs.Ythaphijkfedihaa
