/- The reference of layer 3: Cut. (gen_cut.py) -/
import Derived.Test.YtagahoelojfhcaaDoorOwnl
import Derived.Test.YtagahoelojfhcaaDoorCutp
import Derived.WalkSpells
namespace Go.Proofs.YtagahoelojfhcaaDoor
set_option linter.unusedVariables false
set_option linter.unusedSimpArgs false
open Go.RowKit W
/-- What is still to be cut. -/
def restC3 (s : ByteArray) (f k : Nat) : List (List UInt8) := if k ≤ s.size then cutL 46 (((lst s).take k).drop f) ((lst s).drop k) else []
theorem restC3_stop (s : ByteArray) (f k : Nat) (h : k < s.size) (e : s[k] = 46) : restC3 s f k = lst (s.extract f k) :: restC3 s (k + 1) (k + 1) := by
  unfold restC3
  rw [if_pos (by omega), if_pos (by omega)]
  have d : (lst s).drop k = s[k] :: (lst s).drop (k + 1) := drop_at h
  rw [d, cutL, if_pos e]
  have g : ((lst s).take (k + 1)).drop (k + 1) = [] := List.drop_eq_nil_of_le (by rw [List.length_take]; omega)
  rw [g]
  congr 1
  simp [lst, List.drop_take]
theorem restC3_step (s : ByteArray) (f k : Nat) (h : k < s.size) (hf : f ≤ k) (e : s[k] ≠ 46) : restC3 s f k = restC3 s f (k + 1) := by
  unfold restC3
  rw [if_pos (by omega), if_pos (by omega)]
  have d : (lst s).drop k = s[k] :: (lst s).drop (k + 1) := drop_at h
  rw [d, cutL, if_neg e]
  congr 1
  have g : (lst s).take (k + 1) = (lst s).take k ++ [s[k]] := by
    rw [List.take_succ_eq_append_getElem (by rw [lst_len]; exact h)]; rfl
  rw [g, List.drop_append_of_le_length (by rw [List.length_take, lst_len]; omega)]
theorem restC3_end (s : ByteArray) (f : Nat) (hf : f ≤ s.size) : restC3 s f s.size = [lst (s.extract f s.size)] := by
  unfold restC3
  have g : (lst s).drop s.size = [] := List.drop_eq_nil_of_le (by rw [lst_len]; omega)
  rw [if_pos (Nat.le_refl _), g]
  show [_] = [_]
  congr 1
  simp [lst, List.drop_take]
theorem restC3_past (s : ByteArray) (f : Nat) : restC3 s f (s.size + 1) = [] := by unfold restC3; rw [if_neg (by omega)]
def CutPost3 (s : ByteArray) (w : World) (e : Ending) (w' : World) : Prop := ∃ v ps, e = .returned v ∧ ps.map lst = cutL 46 [] (lst s) ∧ OwnT w w' v ps
set_option maxRecDepth 100000 in
set_option maxHeartbeats 4000000 in
theorem cut3_spec (s : ByteArray) (hs : s.size ≤ 8000000000000) (w : World) : Calls Tryd.prog 14 #[.string s] w (CutPost3 s w) := by
  obtain ⟨T, hT⟩ : ∃ T, T = cutL 46 [] (lst s) := ⟨_, rfl⟩
  have HT : Hid (restC3 s 0 0 = T) := by show _ = _; unfold restC3; rw [if_pos (Nat.zero_le _), hT]; rfl
  have HP : Hid (∀ e w', (∃ v ps, e = .returned v ∧ ps.map lst = T ∧ OwnT w w' v ps) → CutPost3 s w e w') := by
    rintro e w' ⟨v, ps, h1, h2, h3⟩; exact ⟨v, ps, h1, h2.trans hT, h3⟩
  clear hT
  go_enter Tryd.func14, Tryd.ntmps14
  go_wp2
  go_loopw [3, 4, 5] (fun v f i wr => ∃ (k m : Nat) (ps : List ByteArray), k ≤ s.size + 1 ∧ m ≤ k ∧ m ≤ s.size + 1 ∧ ps.length ≤ k ∧ i = .int .i64 k ∧ f = .int .i64 m ∧ (k ≤ s.size → m ≤ s.size) ∧ OwnT w wr v ps ∧ Hid (ps.map lst ++ restC3 s m k = T)) (fun _ _ i _ => s.size + 1 - (intOf i).toNat)
  case atStart => exact ⟨0, 0, [], by omega, by omega, by omega, by simp, rfl, rfl, fun _ => by omega, OwnT.none_ w, HT⟩
  case round =>
    obtain ⟨k, m, ps, hk, hm, hm2, hl, rfl, rfl, hms, own, hd⟩ := hrel
    have HO := hide own
    have bl := own.below
    have sz := bl.size
    clear own
    by_cases hlt : k < s.size
    · by_cases pt : s[k] = 46
      · have pz : (s[k].toNat : Int) = 46 := by rw [pt]; rfl
        have HD : Hid ((ps ++ [s.extract m k]).map lst ++ restC3 s (k + 1) (k + 1) = T) := by
          have q := hd.out; show _ = _; rw [restC3_stop s m k hlt pt] at q; simpa using q
        clear hd pt
        have c3 : ps.length + 1 ≤ maxLen := by unfold maxLen; omega
        obtain ⟨i0, hi0, hz0, hz1, hz2⟩ := info_parts info_txt
        have HI : Hid (Tryd.prog.info? 9 = some i0 ∧ i0.zero = some (.string ByteArray.empty) ∧ i0.size = 1 ∧ i0.bytes = 16) := ⟨hi0, hz0, hz1, hz2⟩
        clear hi0 hz0 hz1 hz2
        go_wp2_with (
          at_builtin
          refine wpList_append_own _ rfl _ _ 22 rfl w.heap.size 9 i0 (.string ByteArray.empty) 1 16 Tryd.underlying22 HI.out.1 HI.out.2.1 HI.out.2.2.1 HI.out.2.2.2 ?a1 ?a2 u3 ps.length (ps.map Value.string) ?a3 ?a4 ⟨wr.heap.size, 0, none⟩ 1 1 [.string (s.extract m k)] ?a5 ?a6 ?a7 ?a8 ?a9 ?b1 ?b2 ?_
          case a1 => rfl
          case a2 => decide
          case a3 => rfl
          case a4 => exact HO.out.own.alloc _
          case a5 => rfl
          case a6 => rfl
          case a7 => exact cell_one_new _ _ _
          case a8 => exact one_txt
          case a9 => exact c3
          case b1 => omega
          case b2 => (simp; omega)
          intro v' w1 hown' hgrow hnil)
        go_roundw
        case rel => exact ⟨k + 1, k + 1, ps ++ [s.extract m k], by omega, by omega, by omega, by simp; omega, by go_num, by go_num, fun _ => by omega, HO.out.more hown' hgrow, HD⟩
        case measure => first | (simp [intOf]; done) | (simp [intOf]; omega)
      · have pz : ¬ (s[k].toNat : Int) = 46 := fun e => pt (UInt8.toNat_inj.1 (show s[k].toNat = 46 by omega))
        have pzb : ((s[k].toNat : Int) == 46) = false := by rw [beq_eq_false_iff_ne]; exact pz
        have pzi : ((k : Int) == (s.size : Int)) = false := by rw [beq_eq_false_iff_ne]; omega
        clear pz
        have HD : Hid (ps.map lst ++ restC3 s m (k + 1) = T) := by
          have q := hd.out; show _ = _; rw [restC3_step s m k hlt hm pt] at q; exact q
        clear hd pt
        go_wp2_with fail
        go_roundw
        case rel => exact ⟨k + 1, m, ps, by omega, by omega, by omega, by omega, by go_num, rfl, fun _ => by omega, HO.out, HD⟩
        case measure => first | (simp [intOf]; done) | (simp [intOf]; omega)
    · by_cases he : k = s.size
      · subst he
        have hme := hms (Nat.le_refl _)
        have HD : Hid ((ps ++ [s.extract m s.size]).map lst ++ restC3 s (s.size + 1) (s.size + 1) = T) := by
          have q := hd.out; show _ = _; rw [restC3_end s m hme] at q; rw [restC3_past]; simpa using q
        clear hd hms
        have c3 : ps.length + 1 ≤ maxLen := by unfold maxLen; omega
        obtain ⟨i0, hi0, hz0, hz1, hz2⟩ := info_parts info_txt
        have HI : Hid (Tryd.prog.info? 9 = some i0 ∧ i0.zero = some (.string ByteArray.empty) ∧ i0.size = 1 ∧ i0.bytes = 16) := ⟨hi0, hz0, hz1, hz2⟩
        clear hi0 hz0 hz1 hz2
        go_wp2_with (
          at_builtin
          refine wpList_append_own _ rfl _ _ 22 rfl w.heap.size 9 i0 (.string ByteArray.empty) 1 16 Tryd.underlying22 HI.out.1 HI.out.2.1 HI.out.2.2.1 HI.out.2.2.2 ?a1 ?a2 u3 ps.length (ps.map Value.string) ?a3 ?a4 ⟨wr.heap.size, 0, none⟩ 1 1 [.string (s.extract m s.size)] ?a5 ?a6 ?a7 ?a8 ?a9 ?b1 ?b2 ?_
          case a1 => rfl
          case a2 => decide
          case a3 => rfl
          case a4 => exact HO.out.own.alloc _
          case a5 => rfl
          case a6 => rfl
          case a7 => exact cell_one_new _ _ _
          case a8 => exact one_txt
          case a9 => exact c3
          case b1 => omega
          case b2 => (simp; omega)
          intro v' w1 hown' hgrow hnil)
        go_roundw
        case rel => exact ⟨s.size + 1, s.size + 1, ps ++ [s.extract m s.size], by omega, by omega, by omega, by simp; omega, by go_num, by go_num, fun h => by omega, HO.out.more hown' hgrow, HD⟩
        case measure => first | (simp [intOf]; done) | (simp [intOf]; omega)
      · obtain rfl : k = s.size + 1 := by omega
        have HD : Hid (ps.map lst = T) := by
          have q := hd.out; show _ = _; rw [restC3_past, List.append_nil] at q; exact q
        clear hd hms
        go_wp2
        go_returns
        exact HP.out _ _ ⟨_, ps, rfl, HD.out, HO.out⟩
end Go.Proofs.YtagahoelojfhcaaDoor
