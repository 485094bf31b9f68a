/- name: the reference's has, put. -/
import Derived.Test.YteahbdhhcfoiiaaDoorNtr
import Derived.Test.YteahbdhhcfoiiaaDoorStrq
namespace Go.Proofs.YteahbdhhcfoiiaaDoor
set_option linter.unusedVariables false
set_option linter.unusedSimpArgs false
open Go.RowKit W
theorem nx_eq {s : ByteArray} {i : Nat} (h : i < s.size) : s.data.toList[i]'(by have : s.data.toList.length = s.size := Array.length_toList; omega) = nx s i := by
  rw [nx_lt h]; rfl
set_option maxRecDepth 100000 in
set_option maxHeartbeats 4000000 in
theorem rhas_spec (s : ByteArray) (hs : s.size ≤ 140737488355328) (c : UInt8) (t : Bool) (ht : s.data.toList.contains c = t) (w : World) : CalcN 95 #[.string s, .int .u8 (c.toNat : Int)] w (.bool t) := by
  have HE := hide ht
  clear ht
  have cl : c.toNat < 256 := c.toNat_lt
  go_enter Tryd.func95, Tryd.ntmps95
  go_wp2_with fail
  go_loop [5] (fun i => ∃ k : Nat, k ≤ s.size ∧ i = .int .i64 (k : Int) ∧ Hid (∀ j, j < k → nx s j ≠ c)) (fun i => s.size - (intOf i).toNat)
  case atStart => exact ⟨0, by omega, rfl, hide (fun j h => absurd h (Nat.not_lt_zero _))⟩
  case round =>
    obtain ⟨k, hk, rfl, D⟩ := hrel
    by_cases hlt : k < s.size
    · have nk : (nx s k).toNat = s[k].toNat := by rw [nx_lt hlt]
      by_cases e : nx s k = c
      · have F : Hid (t = true) := by
          show _ = _
          rw [← HE.out, List.contains_iff_mem, ← e, ← nx_eq hlt]
          exact List.getElem_mem _
        have e1 : (((s[k].toNat : Nat) : Int) == (c.toNat : Int)) = true := by rw [← nk, e]; simp
        have e2 : (s[k].toNat == c.toNat) = true := by rw [← nk, e]; simp
        have e3 : s[k].toNat = c.toNat := by rw [← nk, e]
        clear e nk
        go_wp2_with fail
        go_returns
        exact ⟨by rw [F.out]; rfl, rfl⟩
      · have n1 : ¬ s[k].toNat = c.toNat := fun q => e (UInt8.toNat_inj.1 (by rw [nk]; exact q))
        have e1 : (((s[k].toNat : Nat) : Int) == (c.toNat : Int)) = false := by rw [beq_eq_false_iff_ne]; omega
        have e2 : (s[k].toNat == c.toNat) = false := by rw [beq_eq_false_iff_ne]; exact n1
        have D2 : Hid (∀ j, j < k + 1 → nx s j ≠ c) := by
          intro j hj
          by_cases q : j < k
          · exact D.out j q
          · obtain rfl : j = k := by omega
            exact e
        clear e nk
        go_wp2_with fail
        go_round
        case rel => exact ⟨k + 1, by omega, by go_num, D2⟩
        case measure => simp [intOf]; omega
    · obtain rfl : k = s.size := by omega
      have F : Hid (t = false) := by
        show _ = _
        rw [← HE.out]
        cases q : s.data.toList.contains c with
        | false => rfl
        | true =>
          exfalso
          rw [List.contains_iff_mem] at q
          obtain ⟨j, hj, e⟩ := List.getElem_of_mem q
          have hl : s.data.toList.length = s.size := Array.length_toList
          rw [nx_eq (by omega)] at e
          exact D.out j (by omega) e
      go_wp2
      go_returns
      exact ⟨by rw [F.out]; rfl, rfl⟩
theorem pre_ext {t s : ByteArray} {i : Nat} : preB t s i = true ↔ i + t.size ≤ s.size ∧ s.extract i (i + t.size) = t ∨ (preB t s i = true ∧ ¬ i ≤ s.size) := by
  have h1 : t.data.toList.length = t.size := Array.length_toList
  have h2 : s.data.toList.length = s.size := Array.length_toList
  have hx : (s.extract i (i + t.size)).data.toList = (s.data.toList.drop i).take t.size := by
    rw [ByteArray.data_extract, Array.toList_extract, List.extract_eq_take_drop, Nat.add_sub_cancel_left]
  constructor
  · intro h
    by_cases hi : i ≤ s.size
    · left
      refine ⟨pre_le h hi, ?_⟩
      unfold preB at h
      have := List.isPrefixOf_iff_prefix.1 h
      refine ByteArray.ext (Array.toList_inj.1 ?_)
      rw [hx, ← h1]
      exact (List.prefix_iff_eq_take.1 this).symm
    · exact .inr ⟨h, hi⟩
  · rintro (⟨h, e⟩ | ⟨h, _⟩)
    · unfold preB
      rw [List.isPrefixOf_iff_prefix, List.prefix_iff_eq_take, h1, ← hx, e]
    · exact h
def putW (t s : ByteArray) (i ab : Nat) (w : World) : World := if preB t s i then w.setCell ⟨ab, i + t.size, none⟩ (.bool true) else w
set_option maxRecDepth 100000 in
set_option maxHeartbeats 4000000 in
theorem rput_spec (t s : ByteArray) (hs : s.size ≤ 200) (ht : t.size ≤ 140737488355328) (i ab : Nat) (hi : i ≤ s.size) (T : List Bool) (w : World) (hb : Bo w ab T) (tl : T.length = s.size + 1) :
    Calls Tryd.prog 96 #[.string t, .string s, .int .i64 (i : Int), .slice (some ⟨ab, 0, none⟩) (s.size + 1) (s.size + 1)] w fun e w' => e = .returned (.tuple #[]) ∧ w' = putW t s i ab w := by
  by_cases h : preB t s i = true
  · have le := pre_le h hi
    have ex : s.extract i (i + t.size) = t := by
      rcases pre_ext.1 h with h | ⟨_, h⟩
      · exact h.2
      · exact absurd hi h
    have e1 : (decide (t.size + i ≤ s.size)) = true := by rw [decide_eq_true_eq]; omega
    have b0 := hb.at (i + t.size) (by omega)
    have bf := hb.free (i + t.size)
    have bl := blk_lt hb
    have st := str_eql_same t
    have PW : Hid (putW t s i ab w = w.setCell ⟨ab, i + t.size, none⟩ (.bool true)) := by show _ = _; unfold putW; rw [h]; rfl
    clear h hb
    go_enter Tryd.func96, Tryd.ntmps96
    go_wp2_with fail
    go_end0
    exact ⟨rfl, PW.out.symm⟩
  · have PW : Hid (putW t s i ab w = w) := by show _ = _; unfold putW; rw [if_neg h]
    by_cases le : i + t.size ≤ s.size
    · have ne : s.extract i (i + t.size) ≠ t := fun q => h (pre_ext.2 (.inl ⟨le, q⟩))
      have st := str_eql _ _ ne
      have ne3 : ((s.extract i (i + t.size)).toList == t.toList) = false := by rw [beq_eq_false_iff_ne]; exact toL_ne ne
      clear h hb
      go_enter Tryd.func96, Tryd.ntmps96
      go_wp2_with fail
      go_end0
      exact ⟨rfl, PW.out.symm⟩
    · clear h hb
      go_enter Tryd.func96, Tryd.ntmps96
      go_wp2_with fail
      go_end0
      exact ⟨rfl, PW.out.symm⟩
end Go.Proofs.YteahbdhhcfoiiaaDoor
