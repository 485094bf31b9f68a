/- strings.Cut at a point. -/
import Derived.Test.YtdjehbagnkfkpaaDoorWplain
import Derived.Test.YtdjehbagnkfkpaaDoorShelf
import Derived.Lib.IndexLaws
namespace Go.Proofs.YtdjehbagnkfkpaaDoor
set_option linter.unusedVariables false
set_option linter.unusedSimpArgs false
open Go.RowKit W
/-- Ahead of the first point, behind it, and whether there is one. -/
def cutW (l : List UInt8) : List UInt8 := if Lib.indexByte l 46 = -1 then l else l.take (Lib.indexByte l 46).toNat
def cutF (l : List UInt8) : List UInt8 := if Lib.indexByte l 46 = -1 then [] else l.drop ((Lib.indexByte l 46).toNat + 1)
def cutP (l : List UInt8) : Bool := !decide (Lib.indexByte l 46 = -1)
theorem ba_of {x : ByteArray} {l : List UInt8} (h : x.data.toList = l) : x = ⟨l.toArray⟩ := by
  apply ByteArray.ext; rw [← h]
theorem cutl_some (s : ByteArray) (o : Nat) (w : World) (hs : s.size ≤ 140737488355328) (ho : o < s.size)
    (k : ∀ w, Calls Tryd.prog 74 #[.string s, .string ⟨#[46]⟩] w fun e w' => e = .returned (.int .i64 (o : Int)) ∧ w' = w) :
    Calls Tryd.prog 53 #[.string s, .string ⟨#[46]⟩] w fun e w' => e = .returned (.tuple #[.string ⟨(s.data.toList.take o).toArray⟩, .string ⟨(s.data.toList.drop (o + 1)).toArray⟩, .bool true]) ∧ Below w.heap.size w w' := by
  have e0 : s.extract 0 o = ⟨(s.data.toList.take o).toArray⟩ := ba_of (by simp)
  have e1 : s.extract (o + 1) s.size = ⟨(s.data.toList.drop (o + 1)).toArray⟩ := ba_of (by
    simp only [ByteArray.data_extract, Array.toList_extract, List.extract_eq_take_drop]
    exact List.take_of_length_le (by simp))
  have E0 := hide e0
  have E1 := hide e1
  clear e0 e1
  go_enter Tryd.func53, Tryd.ntmps53
  go_wp2_with fail
  refine (k _).mono ?_
  rintro e w1 ⟨rfl, rfl⟩
  clear k
  go_wp2_with fail
  try go_region
  all_goals
    try go_wp2_with fail
    try rw [E0.out, E1.out]
    refine bodyPost_ret (by simp [results, Tryd.results53, go_sem]; try rfl) rfl ?_
    exact ⟨by first | rfl | rw [E0.out, E1.out] , by go_grown⟩
theorem cutl_none (s : ByteArray) (w : World) (hs : s.size ≤ 140737488355328)
    (k : ∀ w, Calls Tryd.prog 74 #[.string s, .string ⟨#[46]⟩] w fun e w' => e = .returned (.int .i64 (-1)) ∧ w' = w) :
    Calls Tryd.prog 53 #[.string s, .string ⟨#[46]⟩] w fun e w' => e = .returned (.tuple #[.string ⟨s.data.toList.toArray⟩, .string ⟨([] : List UInt8).toArray⟩, .bool false]) ∧ Below w.heap.size w w' := by
  go_enter Tryd.func53, Tryd.ntmps53
  go_wp2_with fail
  refine (k _).mono ?_
  rintro e w1 ⟨rfl, rfl⟩
  clear k
  go_wp2_with fail
  refine bodyPost_ret (by simp [results, Tryd.results53, go_sem]; try rfl) rfl ?_
  exact ⟨rfl, by go_grown⟩
theorem cutl_spec (s : ByteArray) (w : World) (hs : s.size ≤ 140737488355328) :
    Calls Tryd.prog 53 #[.string s, .string ⟨#[46]⟩] w fun e w' => e = .returned (.tuple #[.string ⟨(cutW s.data.toList).toArray⟩, .string ⟨(cutF s.data.toList).toArray⟩, .bool (cutP s.data.toList)]) ∧ Below w.heap.size w w' := by
  have k := fun w => Tryd.stringslite_Index_one s 46 w
  unfold cutW cutF cutP
  by_cases h : Lib.indexByte s.data.toList 46 = -1
  · rw [h] at k
    rw [if_pos h, if_pos h, decide_eq_true h]
    exact cutl_none s w hs k
  · have g := Lib.indexByte_ge s.data.toList 46
    obtain ⟨o, ho⟩ : ∃ o : Nat, Lib.indexByte s.data.toList 46 = o := ⟨(Lib.indexByte s.data.toList 46).toNat, by omega⟩
    have lt : o < s.data.toList.length := by
      have := (Lib.indexByte_some ho).1
      apply Decidable.byContradiction; intro n
      rw [List.getElem?_eq_none (by omega)] at this; cases this
    rw [if_neg h, if_neg h, decide_eq_false h]
    rw [ho] at k ⊢
    rw [Int.toNat_natCast]
    exact cutl_some s o w hs (by simpa using lt) k
theorem cut_spec (s : ByteArray) (w : World) (hs : s.size ≤ 140737488355328) :
    Calls Tryd.prog 34 #[.string s, .string ⟨#[46]⟩] w fun e w' => e = .returned (.tuple #[.string ⟨(cutW s.data.toList).toArray⟩, .string ⟨(cutF s.data.toList).toArray⟩, .bool (cutP s.data.toList)]) ∧ Below w.heap.size w w' := by
  have k := fun w => cutl_spec s w hs
  go_enter Tryd.func34, Tryd.ntmps34
  go_wp2_with fail
  refine (k _).mono ?_
  rintro e w1 ⟨rfl, h1⟩
  go_wp2_with fail
  refine bodyPost_ret (by simp [results, Tryd.results34, go_sem]; try rfl) rfl ?_
  exact ⟨rfl, h1⟩
end Go.Proofs.YtdjehbagnkfkpaaDoor
