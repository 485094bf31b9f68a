/- The reference of layer 3: Valid. -/
import Derived.Test.YtagahoelojfhcaaDoorRvalid
namespace Go.Proofs.YtagahoelojfhcaaDoor
set_option linter.unusedVariables false
set_option linter.unusedSimpArgs false
open Go.RowKit W
set_option maxRecDepth 100000 in
set_option maxHeartbeats 4000000 in
theorem rvalid_walk (s : ByteArray) (hs : s.size ≤ 200) (w : World) :
    Calls Tryd.prog 13 #[.string s] w fun e w' => e = .returned (.bool ((cutL 46 [] (lst s)).all nodeB && decide ((cutL 46 [] (lst s)).length ≤ 16))) ∧ Below w.heap.size w w' := by
  have kc := cut3_spec s (by omega)
  obtain ⟨T, hT⟩ : ∃ T, T = cutL 46 [] (lst s) := ⟨_, rfl⟩
  rw [← hT]
  have HT := hide hT
  obtain ⟨E, hE⟩ : ∃ E, E = T.all nodeB := ⟨_, rfl⟩
  rw [← hE]
  have HEE := hide hE
  clear hT hE
  go_enter Tryd.func13, Tryd.ntmps13
  go_wp2_with fail
  refine (kc _).mono ?_
  rintro e w1 ⟨v, ps, rfl, hps, own⟩
  clear kc
  have hlen : 0 < ps.length := by have := congrArg List.length hps; rw [List.length_map] at this; have := cutL_pos 46 (lst s) []; omega
  have hlen2 : ps.length ≤ 201 := by have := congrArg List.length hps; rw [List.length_map] at this; have := cutL_len 46 (lst s) []; rw [lst_len] at this; omega
  obtain ⟨g, cap, rfl, lie, hg⟩ := own.got hlen
  have bl := own.below
  have sz : ∀ j (h : j < ps.length), ps[j].size ≤ 140737488355328 := fun j h => by have := size_piece hps _ (List.getElem_mem h); omega
  rw [← HT.out] at hps
  have HL : Hid (T.length = ps.length) := by show _ = _; rw [← hps]; simp
  have HE : Hid ((ps.drop 0).all (fun p => nodeB (lst p)) = E) := by show _ = _; rw [HEE.out, ← hps, List.all_map]; rfl
  have SZ := hide sz
  have LI := hide lie
  have BL := hide bl
  clear hps own lie bl sz
  go_wp2_with fail
  go_loop [4] (fun i => ∃ k : Nat, k ≤ ps.length ∧ i = .int .i64 k ∧ Hid ((ps.drop k).all (fun p => nodeB (lst p)) = E)) (fun i => ps.length - (intOf i).toNat)
  case atStart => exact ⟨0, by omega, rfl, HE⟩
  case round =>
    obtain ⟨k, hk, rfl, hd⟩ := hrel
    by_cases hlt : k < ps.length
    · have c0 := LI.out.cell k hlt
      rw [Nat.zero_add] at c0
      have dr := hd.out
      rw [List.drop_eq_getElem_cons hlt, List.all_cons] at dr
      have kb := rbytes_spec ps[k] (SZ.out k hlt)
      obtain ⟨p, hp⟩ : ∃ p, p = ps[k] := ⟨_, rfl⟩
      rw [← hp] at dr kb c0
      have D := hide dr
      clear dr hp hd
      by_cases z : lst p = []
      · have F : Hid (E = false) := by have q := D.out; rw [z] at q; apply hide; simpa [nodeB] using q.symm
        have pe : p = ⟨#[]⟩ := lst_inj (z.trans rfl)
        subst pe
        clear z D kb
        go_wp2_with fail
        all_goals
          go_returns
          exact ⟨by rw [F.out]; rfl, BL.out⟩
      · have z1 : p.toList.isEmpty = false := by rw [ByteArray.toList_eq]; unfold lst at z; cases h : p.data.toList with | nil => exact absurd h z | cons _ _ => rfl
        have z2 : ¬ p.toList = [] := by rw [ByteArray.toList_eq]; exact z
        obtain ⟨t, ht⟩ : ∃ t, t = (lst p).all nB := ⟨_, rfl⟩
        rw [← ht] at kb
        have D2 : Hid ((t && (ps.drop (k + 1)).all (fun p => nodeB (lst p))) = E) := by
          have q := D.out
          unfold nodeB at q
          rw [ht]
          show _ = _
          rw [← q]
          cases h : lst p with
          | nil => exact absurd h z
          | cons a r => rfl
        clear D ht
        cases t
        · have F : Hid (E = false) := by have q := D2.out; apply hide; simpa using q.symm
          clear D2
          go_wp2_with (go_at_call 20; refine (kb _).mono ?_; rintro e w1 ⟨rfl, rfl⟩)
          all_goals
            go_returns
            exact ⟨by rw [F.out]; rfl, BL.out⟩
        · have F : Hid ((ps.drop (k + 1)).all (fun p => nodeB (lst p)) = E) := by have q := D2.out; apply hide; simpa using q
          clear D2
          go_wp2_with (go_at_call 20; refine (kb _).mono ?_; rintro e w1 ⟨rfl, rfl⟩)
          go_round
          case rel => exact ⟨k + 1, by omega, by go_num, F⟩
          case measure => simp [intOf]; omega
    · obtain rfl : k = ps.length := by omega
      have F : Hid (E = true) := by
        have := hd.out
        rw [List.drop_eq_nil_of_le (Nat.le_refl _)] at this
        exact this.symm
      clear hd
      go_wp2
      go_returns
      refine ⟨?_, BL.out⟩
      show Ending.returned (.bool (decide ((ps.length : Int) ≤ 16))) = _
      exact ret_bool (by rw [F.out, HL.out, Bool.true_and, decide_eq_decide]; omega)
theorem rvalid_spec (s : ByteArray) (w : World) :
    Calls Tryd.prog 13 #[.string s] w fun e w' => e = .returned (.bool (validN s.data.toList)) ∧ Below w.heap.size w w' := by
  by_cases h : s.size ≤ 200
  · have := rvalid_walk s h w
    rw [valid_cut, decide_eq_true (by simpa using h), Bool.true_and]
    exact this
  · have e : validN s.data.toList = false := by unfold validN; rw [decide_eq_false (by simpa using h)]; rfl
    rw [e]
    go_enter Tryd.func13, Tryd.ntmps13
    go_wp2
    go_returns
    exact ⟨rfl, Below.refl _ _⟩
end Go.Proofs.YtagahoelojfhcaaDoor
