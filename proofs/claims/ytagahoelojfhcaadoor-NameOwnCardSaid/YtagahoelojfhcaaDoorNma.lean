/- name: may a pattern be? -/
import Derived.Test.YtagahoelojfhcaaDoorNpt
import Derived.Test.YtagahoelojfhcaaDoorNrd
import Derived.Test.YtagahoelojfhcaaDoorCutp
namespace Go.Proofs.YtagahoelojfhcaaDoor
set_option linter.unusedVariables false
set_option linter.unusedSimpArgs false
open Go.RowKit W
def bytesB (s : ByteArray) : Bool := (lst s).all nB
/-- May the byte at a place of a class's text stand there? -/
def riseA (s : ByteArray) (k : Nat) : Bool := cB (nx s k) && (decide (k = 0) || decide ((nx s (k - 1)).toNat < (nx s k).toNat))
def riseB (s : ByteArray) : Bool := (List.range s.size).all (riseA s) && decide (s.size ≠ 0)
def chooseB (al : List ByteArray) : Bool := al.all bytesB && (decide (1 ≤ al.length) && decide (al.length ≤ 16))
def standB (g : Gl) : Bool :=
  if g.k = 1 then decide (g.t.size ≠ 0) && bytesB g.t && decide (g.al.length = 0)
  else if g.k = 2 ∨ g.k = 3 then decide (g.t.size = 0) && decide (g.al.length = 0)
  else if g.k = 4 then riseB g.t && decide (g.al.length = 0)
  else if g.k = 5 then decide (g.t.size = 0) && chooseB g.al
  else false
/-- May the i-th piece of a node stand there? -/
def placeB (gs : List Gl) (i : Nat) : Bool := match gs[i]? with
  | none => true
  | some g => standB g && !(decide (0 < i) && decide (g.k = 1) && (match gs[i - 1]? with | none => false | some h => decide (h.k = 1)))
def nodeMay (gs : List Gl) : Bool := decide (gs.length ≠ 0) && (List.range gs.length).all (placeB gs)
def mayB (p : List (List Gl)) : Bool := decide (1 ≤ p.length) && decide (p.length ≤ 16) && p.all nodeMay
theorem all_yes {n : Nat} {f : Nat → Bool} (h : ∀ i, i < n → f i = true) : (List.range n).all f = true := by
  rw [List.all_eq_true]; intro i hi; exact h i (List.mem_range.1 hi)
theorem all_no {n k : Nat} {f : Nat → Bool} (hk : k < n) (h : f k = false) : (List.range n).all f = false := by
  rw [List.all_eq_false]; exact ⟨k, List.mem_range.2 hk, by rw [h]; decide⟩
theorem lst_all {s : ByteArray} (f : UInt8 → Bool) (h : ∀ i, i < s.size → f (nx s i) = true) : (lst s).all f = true := by
  rw [List.all_eq_true]
  intro c hc
  obtain ⟨i, hi, rfl⟩ := List.getElem_of_mem hc
  rw [lst_len] at hi
  have := h i hi
  rwa [nx_lt hi] at this
theorem lst_not {s : ByteArray} (f : UInt8 → Bool) {k : Nat} (hk : k < s.size) (h : f (nx s k) = false) : (lst s).all f = false := by
  rw [List.all_eq_false]
  refine ⟨nx s k, ?_, by rw [h]; decide⟩
  rw [nx_lt hk]
  have : k < (lst s).length := by rw [lst_len]; exact hk
  exact List.getElem_mem (l := lst s) this
theorem quiet_calc {f : Nat} {args : Array Value} {w : World} {n : Nat} {v : Value} (h : CalcN f args (w.drewN n) v) : Calls Tryd.prog f args (w.drewN n) fun e w'' => e = .returned v ∧ ∃ m, w'' = w.drewN m :=
  Calls.quiet_of_same (h.mono fun _ _ q => ⟨q.1, q.2.symm⟩)
theorem str_ne {s : ByteArray} (h : ¬ s.size = 0) : s.toList.isEmpty = false ∧ ¬ s.toList = [] := by
  have : s.data.toList.length = s.size := Array.length_toList
  rw [ByteArray.toList_eq]
  cases q : s.data.toList with
  | nil => rw [q] at this; exact absurd this.symm h
  | cons a r => simp
theorem str_nil {s : ByteArray} (h : s.size = 0) : s = ⟨#[]⟩ := by
  have : lst s = [] := List.length_eq_zero_iff.1 (by rw [lst_len]; exact h)
  exact lst_inj (this.trans rfl)
set_option maxRecDepth 100000 in
set_option maxHeartbeats 4000000 in
theorem bytes_spec (s : ByteArray) (hs : s.size ≤ 140737488355328) (w : World) : CalcN 50 #[.string s] w (.bool (bytesB s)) := by
  obtain ⟨E, hE⟩ : ∃ E, bytesB s = E := ⟨_, rfl⟩
  rw [hE]
  have HE := hide hE
  clear hE
  go_enter Tryd.func50, Tryd.ntmps50
  go_wp2_with fail
  go_loop [6] (fun i => ∃ k : Nat, k ≤ s.size ∧ i = .int .i64 (k : Int) ∧ Hid (∀ j, j < k → nB (nx s j) = true)) (fun i => s.size - (intOf i).toNat)
  case atStart => exact ⟨0, by omega, rfl, hide (fun j h => absurd h (Nat.not_lt_zero _))⟩
  case round =>
    obtain ⟨k, hk, rfl, D⟩ := hrel
    by_cases hlt : k < s.size
    · have nk : (nx s k).toNat = s[k].toNat := by rw [nx_lt hlt]
      obtain ⟨t, ht⟩ : ∃ t, nB (nx s k) = t := ⟨_, rfl⟩
      have kb := fun w => nbyte_at s k t ht w
      rw [nk] at kb
      have HT := hide ht
      clear ht nk
      cases t
      · have F : Hid (E = false) := by have := HE.out; rw [← this]; exact lst_not nB hlt HT.out
        go_wp2_with (go_at_call 18; refine (kb _).mono ?_; rintro e w1 ⟨rfl, rfl⟩)
        go_returns
        exact ⟨by rw [F.out]; rfl, rfl⟩
      · have D2 : Hid (∀ j, j < k + 1 → nB (nx s j) = true) := by
          intro j hj
          by_cases q : j < k
          · exact D.out j q
          · obtain rfl : j = k := by omega
            exact HT.out
        go_wp2_with (go_at_call 18; refine (kb _).mono ?_; rintro e w1 ⟨rfl, rfl⟩)
        go_round
        case rel => exact ⟨k + 1, by omega, by go_num, D2⟩
        case measure => simp [intOf]; omega
    · obtain rfl : k = s.size := by omega
      have F : Hid (E = true) := by have := HE.out; rw [← this]; exact lst_all nB D.out
      go_wp2
      go_returns
      exact ⟨by rw [F.out]; rfl, rfl⟩
set_option maxRecDepth 100000 in
set_option maxHeartbeats 4000000 in
theorem rising_spec (s : ByteArray) (hs : s.size ≤ 140737488355328) (w : World) : Calls Tryd.prog 51 #[.string s] w fun e w' => e = .returned (.bool (riseB s)) ∧ ∃ n, w' = w.drewN n := by
  obtain ⟨E, hE⟩ : ∃ E, riseB s = E := ⟨_, rfl⟩
  rw [hE]
  have HE := hide hE
  clear hE
  go_enter Tryd.func51, Tryd.ntmps51
  go_wp2_with fail
  go_loopw [6] (fun i wr => ∃ k : Nat, k ≤ s.size ∧ i = .int .i64 (k : Int) ∧ Hid (∀ j, j < k → riseA s j = true) ∧ Hid (∃ n, wr = w.drewN n)) (fun i _ => s.size - (intOf i).toNat)
  case atStart => exact ⟨0, by omega, rfl, hide (fun j h => absurd h (Nat.not_lt_zero _)), hide ⟨0, (World.drewN_zero w).symm⟩⟩
  case round =>
    obtain ⟨k, hk, rfl, D, N⟩ := hrel
    by_cases hlt : k < s.size
    · have nk : (nx s k).toNat = s[k].toNat := by rw [nx_lt hlt]
      obtain ⟨t, ht⟩ : ∃ t, cB (nx s k) = t := ⟨_, rfl⟩
      have kb := fun w => class_at s k t ht w
      rw [nk] at kb
      have HT := hide ht
      have NK := hide nk
      clear ht nk
      cases t
      · have F : Hid (E = false) := by
          have := HE.out; rw [← this]; unfold riseB; rw [all_no (f := riseA s) hlt (by unfold riseA; rw [HT.out]; rfl)]; rfl
        by_cases z : k = 0
        · subst z
          have z0 : decide ((0 : Int) < ((0 : Nat) : Int)) = false := by decide
          go_wp2_with fail
          go_quiet ((go_at_call 27; exact quiet_calc (kb _)))
          go_wp2_with fail
          go_returns
          exact ⟨by rw [F.out]; rfl, by obtain ⟨n, rfl⟩ := N.out; exact ⟨_, World.drewN_drewN ..⟩⟩
        · go_wp2_with fail
          go_quiet ((go_at_call 27; exact quiet_calc (kb _)))
          go_wp2_with fail
          go_returns
          exact ⟨by rw [F.out]; rfl, by obtain ⟨n, rfl⟩ := N.out; exact ⟨_, World.drewN_drewN ..⟩⟩
      · by_cases z : k = 0
        · subst z
          have z0 : decide ((0 : Int) < ((0 : Nat) : Int)) = false := by decide
          have D2 : Hid (∀ j, j < 0 + 1 → riseA s j = true) := by
            intro j hj
            obtain rfl : j = 0 := by omega
            unfold riseA; rw [HT.out]; rfl
          go_wp2_with fail
          go_quiet ((go_at_call 27; exact quiet_calc (kb _)))
          go_wp2_with fail
          go_roundw
          case rel => exact ⟨0 + 1, by omega, by go_num, D2, by obtain ⟨n, rfl⟩ := N.out; exact hide ⟨_, World.drewN_drewN ..⟩⟩
          case measure => simp [intOf]; omega
        · obtain ⟨q, rfl⟩ : ∃ q, k = q + 1 := ⟨k - 1, by omega⟩
          have q1 : (nx s q).toNat = s[q].toNat := by rw [nx_lt (by omega)]
          have e1 : IntKind.i64.wrap ((q : Int) + 1 - 1) = (q : Int) := by rw [IntKind.wrap_i64]; omega
          have e2 : decide ((0 : Int) < (q : Int) + 1) = true := by rw [decide_eq_true_eq]; omega
          have e3 : ((q : Int) + 1).toNat = q + 1 := by omega
          have e4 : (0 : Int) ≤ (q : Int) + 1 := by omega
          have lq : q < s.size := by omega
          by_cases y : s[q].toNat < s[q + 1].toNat
          · have y1 : decide (s[q + 1].toNat ≤ s[q].toNat) = false := by simp; omega
            have y2 : ¬ s[q + 1].toNat ≤ s[q].toNat := by omega
            have D2 : Hid (∀ j, j < q + 1 + 1 → riseA s j = true) := by
              intro j hj
              by_cases w : j < q + 1
              · exact D.out j w
              · obtain rfl : j = q + 1 := by omega
                unfold riseA; rw [HT.out, NK.out, Nat.add_sub_cancel, q1]; simp [y]
            have q1 := hide q1
            clear z y
            go_wp2_with fail
            go_quiet ((go_at_call 27; exact quiet_calc (kb _)))
            go_wp2_with fail
            clear e1 e2 e3 e4
            go_roundw
            case rel => exact ⟨q + 1 + 1, by omega, by go_num, D2, by obtain ⟨n, rfl⟩ := N.out; exact hide ⟨_, World.drewN_drewN ..⟩⟩
            case measure => simp [intOf]; omega
          · have y1 : decide (s[q + 1].toNat ≤ s[q].toNat) = true := by simp; omega
            have y2 : s[q + 1].toNat ≤ s[q].toNat := by omega
            have F : Hid (E = false) := by
              have := HE.out; rw [← this]; unfold riseB; rw [all_no (f := riseA s) hlt (by unfold riseA; rw [HT.out, NK.out, Nat.add_sub_cancel, q1]; simp; omega)]; rfl
            have q1 := hide q1
            clear z y
            go_wp2_with fail
            go_quiet ((go_at_call 27; exact quiet_calc (kb _)))
            go_wp2_with fail
            go_returns
            exact ⟨by rw [F.out]; rfl, by obtain ⟨n, rfl⟩ := N.out; exact ⟨_, World.drewN_drewN ..⟩⟩
    · obtain rfl : k = s.size := by omega
      have AL : Hid ((List.range s.size).all (riseA s) = true) := all_yes D.out
      by_cases z : s.size = 0
      · have F : Hid (E = false) := by have := HE.out; rw [← this]; unfold riseB; rw [AL.out, z]; rfl
        have se : s = ⟨#[]⟩ := by
          have : lst s = [] := List.length_eq_zero_iff.1 (by rw [lst_len]; exact z)
          exact lst_inj (this.trans rfl)
        subst se
        clear z
        go_wp2_with fail
        go_returns
        exact ⟨by rw [F.out]; rfl, N.out⟩
      · have F : Hid (E = true) := by show _ = _; have := HE.out; rw [← this]; unfold riseB; rw [AL.out]; simp [z]
        have e2 := str_ne z
        obtain ⟨e2, e3⟩ := e2
        clear z
        go_wp2_with fail
        go_returns
        exact ⟨by rw [F.out]; rfl, N.out⟩
end Go.Proofs.YtagahoelojfhcaaDoor
