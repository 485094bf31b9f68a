/- alive of the statements of layer 5. -/
import Derived.Test.YthaphijkfedihaaSame5
import Derived.Lib.SmallJoins
namespace Go.Proofs.Ythaphijkfedihaa
set_option linter.unusedVariables false
set_option linter.unusedSimpArgs false
open Go.RowKit W
set_option maxRecDepth 100000 in
set_option maxHeartbeats 8000000 in
theorem alive5 (w : World) : Calls Try.prog 10 #[] w fun e w' => e = .returned (.bool true) ∧ Below w.heap.size w w' := by
  have iB : ∀ w : World, IsBytes (w.alloc (.cells #[.int .u8 97, .int .u8 58, .int .u8 49, .int .u8 124, .int .u8 99, .int .u8 13, .int .u8 10, .int .u8 10, .int .u8 98] 5 (9, 10))) (some ⟨w.heap.size, 0, none⟩) [97, 58, 49, 124, 99, 13, 10, 10, 98] := by
    intro w
    refine .inr ⟨_, 0, rfl, by simp, fun j hj => ?_⟩
    match j, hj with
    | 0, _ => simp [go_sem, World.cell?_alloc_mark]
    | 1, _ => simp [go_sem, World.cell?_alloc_mark]
    | 2, _ => simp [go_sem, World.cell?_alloc_mark]
    | 3, _ => simp [go_sem, World.cell?_alloc_mark]
    | 4, _ => simp [go_sem, World.cell?_alloc_mark]
    | 5, _ => simp [go_sem, World.cell?_alloc_mark]
    | 6, _ => simp [go_sem, World.cell?_alloc_mark]
    | 7, _ => simp [go_sem, World.cell?_alloc_mark]
    | 8, _ => simp [go_sem, World.cell?_alloc_mark]
  have k := fun w => split_spec _ _ 9 _ (iB w) (by simp) (by simp) (fun e => by cases e)
  have sp : splitL [97, 58, 49, 124, 99, 13, 10, 10, 98] = [[97, 58, 49, 124, 99], [98]] := by decide
  have SP := hide sp
  have b0 : ∀ w : World, Below w.heap.size w (w.alloc (.cells #[.int .u8 97, .int .u8 58, .int .u8 49, .int .u8 124, .int .u8 99, .int .u8 13, .int .u8 10, .int .u8 10, .int .u8 98] 5 (9, 10))) := fun w => by go_grown
  have cv := fun w : World => Lib.run_convert_bytes_const (P := Try.prog) w 35 5 #[.int .u8 97, .int .u8 58, .int .u8 49, .int .u8 124, .int .u8 99, .int .u8 13, .int .u8 10, .int .u8 10, .int .u8 98] 9 9 Try.underlying35 Try.underlying5
  have cs : (#[.int .u8 97, .int .u8 58, .int .u8 49, .int .u8 124, .int .u8 99, .int .u8 13, .int .u8 10, .int .u8 10, .int .u8 98] : Array Value).size = 9 := rfl
  simp only [cs] at cv
  clear cs
  clear sp iB
  go_enter Try.func10, Try.ntmps10
  go_wp2_with fail
  refine (k _).mono ?_
  intro e w1 hp
  have hp2 := split_post hp
  rw [SP.out] at hp2
  obtain ⟨a, c, ps, rfl, hps, ip, b1⟩ := hp2
  have B1 : Below w.heap.size w w1 := (b0 w).trans (b1.mono (b0 w).size)
  have pe : ps = [⟨#[97, 58, 49, 124, 99]⟩, ⟨#[98]⟩] := by
    match ps, hps with
    | [x, y], h =>
      simp only [List.map_cons, List.map_nil, List.cons.injEq, and_true] at h
      rw [lst_inj (h.1.trans (show _ = lst ⟨#[97, 58, 49, 124, 99]⟩ from rfl)), lst_inj (h.2.trans (show _ = lst ⟨#[98]⟩ from rfl))]
    | [], h => cases h
    | [_], h => simp at h
    | _ :: _ :: _ :: _, h => simp at h
  subst pe
  clear hp hps b1 k b0 SP cv
  have ks := fun W (hW : Below w1.heap.size w1 W) b d (hb : IsTxts W b [⟨#[97, 58, 49, 124, 99]⟩, ⟨#[98]⟩]) => same5_true a b c d [⟨#[97, 58, 49, 124, 99]⟩, ⟨#[98]⟩] W (ip.later hW) hb (by simp)
  have lb : IsTxts (w1.alloc (.cells #[.string ⟨#[97, 58, 49, 124, 99]⟩, .string ⟨#[98]⟩] 9)) (some ⟨w1.heap.size, 0, none⟩) [⟨#[97, 58, 49, 124, 99]⟩, ⟨#[98]⟩] := by
    refine .inr ⟨_, 0, rfl, fun j hj => ?_, by simp⟩
    match j, hj with
    | 0, _ => simp [go_sem]
    | 1, _ => simp [go_sem]
  have ks1 := ks _ (by go_grown) _ 2 lb
  have B2 : Below w.heap.size w (w1.alloc (.cells #[.string ⟨#[97, 58, 49, 124, 99]⟩, .string ⟨#[98]⟩] 9)) := B1.alloc B1.size _
  clear ks lb ip
  go_wp2_with fail
  refine ks1.mono ?_
  rintro e w3 ⟨rfl, b3⟩
  go_wp2_with fail
  go_returns
  exact ⟨rfl, B2.trans (b3.mono B2.size)⟩
theorem txts_eq {ps qs : List ByteArray} (h : ps.map lst = qs.map lst) : ps = qs := by
  induction ps generalizing qs with
  | nil => cases qs with | nil => rfl | cons _ _ => cases h
  | cons x r ih =>
    cases qs with
    | nil => cases h
    | cons y t =>
      simp only [List.map_cons, List.cons.injEq] at h
      rw [lst_inj h.1, ih h.2]
theorem splits_len (l : List UInt8) : (splitL l).length ≤ l.length + 1 := by
  unfold splitL
  refine Nat.le_trans (List.length_filter_le _ _) ?_
  rw [List.length_map]
  exact cutL_len 10 l []
end Go.Proofs.Ythaphijkfedihaa
