/- due: the reference's New. -/
import Derived.Test.YtdfmfkibafcbcaaRdf
namespace Go.Proofs.Ytdfmfkibafcbcaa
set_option linter.unusedVariables false
set_option linter.unusedSimpArgs false
open Go.RowKit W Go.Maps
set_option maxRecDepth 100000 in
theorem rnew7_ok (lim : Int) (h1 : 1 ≤ lim) (h2 : lim ≤ 65536) (w : World) : Calls Try.prog 7 #[.int .i64 lim] w fun e w' => e = .returned (.tuple #[.agg #[.int .i64 lim, .slice none 0 0], .int .i64 0]) ∧ Below w.heap.size w w' := by
  have d1 : decide (lim < 1) = false := by rw [decide_eq_false_iff_not]; omega
  have d2 : decide (65536 < lim) = false := by rw [decide_eq_false_iff_not]; omega
  go_enter Try.func7, Try.ntmps7
  go_wp2_with fail
  go_returns
  exact ⟨rfl, by go_grown⟩
set_option maxRecDepth 100000 in
theorem rnew7_bad (lim : Int) (h : ¬ (1 ≤ lim ∧ lim ≤ 65536)) (w : World) : Calls Try.prog 7 #[.int .i64 lim] w fun e w' => e = .returned (.tuple #[.agg #[.int .i64 0, .slice none 0 0], .int .i64 1]) ∧ Below w.heap.size w w' := by
  by_cases q : lim < 1
  · have d1 : decide (lim < 1) = true := decide_eq_true q
    clear h
    go_enter Try.func7, Try.ntmps7
    go_wp2_with fail
    go_returns
    exact ⟨rfl, by go_grown⟩
  · have d1 : decide (lim < 1) = false := decide_eq_false q
    have d2 : decide (65536 < lim) = true := by rw [decide_eq_true_eq]; omega
    clear h
    go_enter Try.func7, Try.ntmps7
    go_wp2_with fail
    go_returns
    exact ⟨rfl, by go_grown⟩
set_option maxRecDepth 100000 in
set_option maxHeartbeats 4000000 in
theorem rset7_full {w : World} {rb c : Nat} {lim : Int} {a : Option Addr} {L : List En} (h : RQ w rb lim a c L) (hK : Keys L) (hl : L.length ≤ 65536) (key : ByteArray) (t : Int) (hh : hasK L key = false) (hf : lim ≤ (L.length : Int)) :
    Calls Try.prog 14 #[.pointer (some ⟨rb, 0, none⟩), .string key, .int .i64 t] w fun e w' => e = .returned (.int .i64 70) ∧ Below w.heap.size w w' := by
  have kf := rfind7_spec h hK hl key
  rw [fdI_neg hh] at kf
  have HLT : Hid (∀ V, Below w.heap.size w V → V.cell? ⟨rb, 0, none⟩ = some (.int .i64 lim) ∧ V.cell? ⟨rb, 1, none⟩ = some (.slice a L.length c) ∧ rb < V.heap.size) := fun V b => ⟨(h.later b).r.cell 0 _ rfl, (h.later b).r.cell 1 _ rfl, (h.later b).r.lt⟩
  obtain ⟨n, hn⟩ : ∃ n, n = L.length := ⟨_, rfl⟩
  rw [← hn] at HLT hl hf
  have d1 : decide (lim ≤ (n : Int)) = true := decide_eq_true hf
  clear h hK hh hn
  go_enter Try.func14, Try.ntmps14
  go_wp2_with (go_at_call 28; refine kf.mono ?_; rintro e w1 ⟨rfl, b1⟩; obtain ⟨y0, y1, y2⟩ := HLT.out w1 b1)
  go_quiet (fail)
  all_goals
    go_wp2_with fail
    go_returns
    exact ⟨rfl, by first | exact b1 | exact below_drewN b1 _⟩
end Go.Proofs.Ytdfmfkibafcbcaa
