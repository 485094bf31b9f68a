/- wide: plain. -/

import Derived.Test.YtdjehbagnkfkpaaDoorDec
import Derived.Test.YtdjehbagnkfkpaaDoorHid
namespace Go.Proofs.YtdjehbagnkfkpaaDoor
set_option linter.unusedVariables false
set_option linter.unusedSimpArgs false
open Go.RowKit W
/-- A contract of a function that only computes. -/
abbrev Calc (f : Nat) (args : Array Value) (w : World) (r : Value) : Prop := Calls Tryd.prog f args w fun e w' => e = .returned r ∧ w = w'
def allD (s : ByteArray) : Bool := s.toList.all Dc.isD
/-- Digits, one at least, without a 0 ahead. -/
def plainB (s : ByteArray) : Bool := !s.toList.isEmpty && (!(s.toList.head? == some 48) || s.toList == [48]) && allD s
theorem all_of {s : ByteArray} (h : ∀ j (hj : j < s.size), Dc.isD s[j] = true) : allD s = true := by
  unfold allD
  rw [List.all_eq_true]
  intro x hx
  rw [ByteArray.toList_eq] at hx
  obtain ⟨i, hi, rfl⟩ := List.mem_iff_getElem.1 hx
  exact h i (by simpa using hi)
theorem not_all {s : ByteArray} (k : Nat) (hk : k < s.size) (h : Dc.isD s[k] = false) : allD s = false := by
  unfold allD
  rw [List.all_eq_false]
  refine ⟨s[k], ?_, by rw [h]; simp⟩
  rw [ByteArray.toList_eq]
  have : k < s.data.toList.length := by simpa using hk
  exact List.mem_iff_getElem.2 ⟨k, this, rfl⟩
theorem isD_no (c : UInt8) (h : (c.toNat : Int) < 48 ∨ 57 < (c.toNat : Int)) : Dc.isD c = false := by
  unfold Dc.isD; rcases h with h | h
  · rw [decide_eq_false (by omega)]; rfl
  · rw [decide_eq_false (p := c.toNat ≤ 57) (by omega)]; simp
theorem isD_yes (c : UInt8) (h : 48 ≤ (c.toNat : Int)) (g : (c.toNat : Int) ≤ 57) : Dc.isD c = true := by
  unfold Dc.isD; rw [decide_eq_true (by omega), decide_eq_true (by omega)]; rfl
set_option maxRecDepth 100000 in
set_option maxHeartbeats 4000000 in
theorem plain_loop (s : ByteArray) (w : World) (hs : s.size ≤ 140737488355328) (h0 : 0 < s.size) (n1 : ¬ s.toList = []) (n2 : s.toList.isEmpty = false)
    (z : ¬ (s[0].toNat : Int) = 48 ∨ ((s[0].toNat : Int) = 48 ∧ (!s.toList == [48]) = false)) :
    Calc 64 #[.string s] w (.bool (allD s)) := by
  rcases z with z | ⟨z, z2⟩
  all_goals
    go_enter Tryd.func64, Tryd.ntmps64
    go_wp2
    go_loop [17] (fun i => ∃ k : Nat, k ≤ s.size ∧ i = .int .i64 k ∧ Hid (∀ j (hj : j < s.size), j < k → Dc.isD s[j] = true)) (fun i => s.size - (intOf i).toNat)
    case atStart => exact ⟨0, by omega, rfl, fun j _ h => by omega⟩
    case round =>
      obtain ⟨k, hk, rfl, hd⟩ := hrel
      by_cases hlt : k < s.size
      · by_cases a : (s[k].toNat : Int) < 48
        · have F := hide (not_all k hlt (isD_no _ (.inl a)))
          go_wp2
          go_returns
          exact ⟨by rw [F.out]; rfl, rfl⟩
        · by_cases b : 57 < (s[k].toNat : Int)
          · have F := hide (not_all k hlt (isD_no _ (.inr b)))
            go_wp2
            go_returns
            exact ⟨by rw [F.out]; rfl, rfl⟩
          · have N : Hid (∀ j (hj : j < s.size), j < k + 1 → Dc.isD s[j] = true) := fun j hj h => by
              by_cases e : j = k
              · subst e; exact isD_yes _ (by omega) (by omega)
              · exact hd.out j hj (by omega)
            clear hd
            go_wp2
            go_round
            case rel => exact ⟨k + 1, by omega, by go_num, N⟩
            case measure => simp [intOf]; omega
      · obtain rfl : k = s.size := by omega
        have F := hide (all_of fun j hj => hd.out j hj hj)
        clear hd
        go_wp2
        go_returns
        exact ⟨by rw [F.out]; rfl, rfl⟩
set_option maxRecDepth 100000 in
theorem plain_lead (s : ByteArray) (w : World) (hs : s.size ≤ 140737488355328) (h0 : 0 < s.size) (n1 : ¬ s.toList = []) (n2 : s.toList.isEmpty = false) (z : (s[0].toNat : Int) = 48) (z2 : (!s.toList == [48]) = true) :
    Calc 64 #[.string s] w (.bool false) := by
  go_enter Tryd.func64, Tryd.ntmps64
  go_wp2
  go_returns
  exact ⟨rfl, rfl⟩
set_option maxRecDepth 100000 in
theorem plain_empty (w : World) : Calc 64 #[.string ⟨#[]⟩] w (.bool false) := by
  go_enter Tryd.func64, Tryd.ntmps64
  go_wp2
  go_returns
  exact ⟨rfl, rfl⟩
theorem plain_spec (s : ByteArray) (w : World) (hs : s.size ≤ 140737488355328) : Calc 64 #[.string s] w (.bool (plainB s)) := by
  by_cases h0 : s.size = 0
  · have e : s = ⟨#[]⟩ := by
      obtain ⟨d⟩ := s
      have : d.size = 0 := h0
      rw [Array.eq_empty_of_size_eq_zero this]
    subst e
    have q : plainB ⟨#[]⟩ = false := by unfold plainB; rw [show (⟨#[]⟩ : ByteArray).toList = [] from ByteArray.toList_mk []]; rfl
    rw [q]
    exact plain_empty w
  · have hl : s.toList.length = s.size := by rw [ByteArray.toList_eq]; simp
    have n1 : ¬ s.toList = [] := fun e => by rw [e] at hl; simp at hl; omega
    have n2 : s.toList.isEmpty = false := by simpa using n1
    have hh : s.toList.head? = some (s[0]'(by omega)) := by
      rw [ByteArray.toList_eq, List.head?_eq_getElem?, List.getElem?_eq_getElem (by rw [ByteArray.toList_eq] at hl; omega)]; rfl
    unfold plainB
    rw [n2, hh]
    by_cases z : ((s[0]'(by omega)).toNat : Int) = 48
    · have z' : s[0]'(by omega) = 48 := UInt8.toNat_inj.1 (by show _ = 48; omega)
      by_cases z2 : (!s.toList == [48]) = true
      · have : (s.toList == [48]) = false := by simpa using z2
        rw [this, z']
        exact plain_lead s w hs (by omega) n1 n2 z z2
      · have z3 : (!s.toList == [48]) = false := by simpa using z2
        have : (s.toList == [48]) = true := by simpa using z2
        rw [this]
        simpa using plain_loop s w hs (by omega) n1 n2 (.inr ⟨z, z3⟩)
    · have z' : ¬ s[0]'(by omega) = 48 := fun e => z (by rw [e]; rfl)
      have : (some (s[0]'(by omega)) == some 48) = false := by simpa using z'
      rw [this]
      simpa using plain_loop s w hs (by omega) n1 n2 (.inl z)
end Go.Proofs.YtdjehbagnkfkpaaDoor
