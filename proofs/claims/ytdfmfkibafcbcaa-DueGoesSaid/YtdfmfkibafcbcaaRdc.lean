/- due: the reference's At, Next, Take, New. -/
import Derived.Test.YtdfmfkibafcbcaaRda
namespace Go.Proofs.Ytdfmfkibafcbcaa
set_option linter.unusedVariables false
set_option linter.unusedSimpArgs false
open Go.RowKit W Go.Maps
section
variable {w : World} {rb : Nat} {lim : Int} {a : Option Addr} {c : Nat} {L : List En}
theorem fdI_neg {key : ByteArray} (h : hasK L key = false) : fdI L key = -1 := by
  unfold fdI; rw [idxK_none.2 h]
theorem fdI_pos (hK : Keys L) {key : ByteArray} (h : hasK L key = true) : ∃ i, ∃ hi : i < L.length, fdI L key = (i : Int) ∧ L[i].1 = key ∧ atK L key = some L[i].2 := by
  cases q : idxK L key with
  | none => rw [idxK_none.1 q] at h; cases h
  | some i =>
    obtain ⟨hi, e⟩ := (idxK_some hK).1 q
    exact ⟨i, hi, by unfold fdI; rw [q], e, (atK_some hK).2 (by rw [← e]; exact List.getElem_mem hi)⟩
set_option maxRecDepth 100000 in
set_option maxHeartbeats 4000000 in
theorem rat7_spec (h : RQ w rb lim a c L) (hK : Keys L) (hl : L.length ≤ 65536) (key : ByteArray) :
    Calls Try.prog 22 #[.pointer (some ⟨rb, 0, none⟩), .string key] w fun e w' => e = .returned (.tuple #[.int .i64 ((atK L key).getD 0), .bool (hasK L key)]) ∧ Below w.heap.size w w' := by
  have kf := rfind7_spec h hK hl key
  cases hh : hasK L key with
  | false =>
    have q : (atK L key).getD 0 = 0 := by rw [atK_none.2 hh]; rfl
    rw [fdI_neg hh] at kf
    rw [q]
    clear h hK hh q
    go_enter Try.func22, Try.ntmps22
    go_wp2_with (go_at_call 28; refine kf.mono ?_; rintro e w1 ⟨rfl, b1⟩)
    go_returns
    exact ⟨rfl, b1⟩
  | true =>
    obtain ⟨i, hi, e1, e2, e3⟩ := fdI_pos hK hh
    rw [e1] at kf
    rw [e3]
    obtain ⟨g, o, rfl, gl, x0, x1⟩ := h.is.at_ hi
    have hr := h.r.cell 1 _ rfl
    have lr := h.r.lt
    have cp := h.cap
    obtain ⟨n, hn⟩ : ∃ n, n = L.length := ⟨_, rfl⟩
    obtain ⟨t, ht⟩ : ∃ t, t = L[i].2 := ⟨_, rfl⟩
    have HLT : Hid (∀ V, Below w.heap.size w V → V.cell? ⟨rb, 1, none⟩ = some (.slice (some ⟨g, o, none⟩) n c) ∧ V.cell? ⟨g, o + i * 2 + 1, none⟩ = some (.int .i64 t)) := fun V b => ⟨by rw [hn]; exact (b.cell (p := ⟨rb, 1, none⟩) lr).trans hr, by rw [ht]; exact (b.cell (p := ⟨g, o + i * 2 + 1, none⟩) gl).trans x1⟩
    rw [← hn] at hi cp hl
    rw [← ht]
    simp only [Option.getD_some]
    have i0 : ¬ ((i : Int) < 0) := by omega
    have d0 : decide ((i : Int) < 0) = false := by rw [decide_eq_false_iff_not]; omega
    clear h hK hh e1 e2 e3 x0 x1 hr ht hn
    go_enter Try.func22, Try.ntmps22
    go_wp2_with (go_at_call 28; refine kf.mono ?_; rintro e w1 ⟨rfl, b1⟩; obtain ⟨y1, y2⟩ := HLT.out w1 b1)
    go_returns
    exact ⟨rfl, b1⟩
set_option maxRecDepth 100000 in
set_option maxHeartbeats 4000000 in
theorem rnext7_spec (h : RQ w rb lim a c L) (hl : L.length ≤ 65536) :
    Calls Try.prog 23 #[.pointer (some ⟨rb, 0, none⟩)] w fun e w' => e = .returned (nxtV L) ∧ Below w.heap.size w w' := by
  have hr := h.r.cell 1 _ rfl
  have lr := h.r.lt
  have hi := h.is
  cases L with
  | nil =>
    simp only [nxtV]
    clear h hi
    rw [List.length_nil] at hr
    go_enter Try.func23, Try.ntmps23
    go_wp2_with fail
    go_returns
    exact ⟨rfl, by go_grown⟩
  | cons x L =>
    simp only [nxtV]
    obtain ⟨g, o, rfl, gl, x0, x1⟩ := hi.at_ (i := 0) (by simp)
    rw [show 0 * 2 = 0 from rfl, Nat.add_zero] at x0 x1
    rw [List.getElem_cons_zero] at x0 x1
    obtain ⟨n, hn⟩ : ∃ n, n = (x :: L).length := ⟨_, rfl⟩
    have n0 : 0 < n := by rw [hn]; simp
    have ne : ((n : Int) == 0) = false := by rw [beq_eq_false_iff_ne]; omega
    have ne2 : (n == 0) = false := by rw [beq_eq_false_iff_ne]; omega
    rw [← hn] at hr hl
    obtain ⟨xk, xa⟩ := x
    clear h hi hn
    go_enter Try.func23, Try.ntmps23
    go_wp2_with fail
    go_returns
    exact ⟨rfl, by go_grown⟩
end
end Go.Proofs.Ytdfmfkibafcbcaa
