/- Texts that belong together: Ntf Ntg Nrb Ngo Nch Ntr Nmn Nsp. -/
import Derived.Test.YteahbdhhcfoiiaaDoorG02
import Derived.Test.YteahbdhhcfoiiaaDoorG03
import Derived.Test.YteahbdhhcfoiiaaDoorG01
import Derived.Deep.RegionLaw
import Derived.Deep.CutRange
import Derived.Laws.AppendOwn
import Derived.Test.YteahbdhhcfoiiaaDoorShelf
import Derived.Deep.OwnRows
import Derived.Lib.SplitLaws
import Derived.Lib.Split
set_option linter.unusedSimpArgs false
set_option linter.unusedVariables false
/- name: the reference's classText. -/
namespace Go.Proofs.YteahbdhhcfoiiaaDoor
set_option linter.unusedVariables false
set_option linter.unusedSimpArgs false
open Go.RowKit W
theorem lst_ext (t : ByteArray) (i p : Nat) : lst (t.extract i p) = ((lst t).drop i).take (p - i) := by
  unfold lst
  rw [ByteArray.data_extract, Array.toList_extract, List.extract_eq_take_drop]
theorem piece_at (s : ByteArray) (i i1 k p : Nat) (h1 : i1 = i + 1) (h2 : p = k + 1) (h3 : i ≤ k) (h4 : p ≤ s.size) :
    [((lst s).drop i).getD 0 0, 45, ((lst s).drop i).getD (p - i - 1) 0] = lst (s.extract i i1) ++ lst ⟨#[45]⟩ ++ lst (s.extract k p) := by
  have hl := lst_len s
  subst h1 h2
  rw [lst_ext, lst_ext, show i + 1 - i = 1 by omega, show k + 1 - k = 1 by omega, List.drop_eq_getElem_cons (i := i) (by omega), List.drop_eq_getElem_cons (i := k) (by omega)]
  rw [← List.drop_eq_getElem_cons (i := i) (by omega)]
  have e1 : ((lst s).drop i).getD 0 0 = (lst s)[i]'(by omega) := by rw [List.getD_eq_getElem?_getD, List.getElem?_drop, List.getElem?_eq_getElem (by omega)]; rfl
  have e2 : ((lst s).drop i).getD (k + 1 - i - 1) 0 = (lst s)[k]'(by omega) := by rw [List.getD_eq_getElem?_getD, List.getElem?_drop, List.getElem?_eq_getElem (by omega)]; simp [show i + (k + 1 - i - 1) = k by omega]
  rw [e1, e2, List.drop_eq_getElem_cons (i := i) (by omega)]; rfl
theorem drew_more {w v : World} (h : ∃ d, v = w.drewN d) (n : Nat) : Hid (∃ d, v.drewN n = w.drewN d) := by
  obtain ⟨d, rfl⟩ := h
  exact ⟨_, World.drewN_drewN ..⟩
theorem srt_next : ∀ c d : UInt8, cB c = true → cB d = true → d.toNat = c.toNat + 1 → sortI (d.toNat : Int) = sortI (c.toNat : Int) ∧ 0 < sortI (c.toNat : Int) := by
  intro c d
  unfold cB clsI famI sortI
  simp only [Bool.or_eq_true, decide_eq_true_eq]
  intro h1 h2 h3
  (repeat' split) <;> (repeat' split at h1) <;> (repeat' split at h2) <;> omega
set_option maxRecDepth 100000 in
set_option maxHeartbeats 8000000 in
theorem rclassText_spec (s : ByteArray) (hs : s.size ≤ 70368744177664) (hc : ∀ x ∈ lst s, cB x = true) (w : World) :
    Calls Tryd.prog 67 #[.string s] w fun e w' => e = .returned (.string ⟨(91 :: (rngT (lst s) ++ [93])).toArray⟩) ∧ ∃ n, w' = w.drewN n := by
  have HC := hide hc
  have cAt : Hid (∀ j (h : j < s.size), cB s[j] = true) := hide (fun j h => by have := hc s[j] (by have e := getD_lst s j h; rw [← e, List.getD_eq_getElem?_getD, List.getElem?_eq_getElem (by rw [lst_len]; exact h)]; exact List.getElem_mem _); exact this)
  clear hc
  go_enter Tryd.func67, Tryd.ntmps67
  go_wp2_with fail
  go_loopw [3, 4] (fun tv iv wr => ∃ (t : ByteArray) (i : Nat), i ≤ s.size ∧ tv = .string t ∧ iv = .int .i64 (i : Int) ∧ Hid (lst t ++ rngT ((lst s).drop i) = 91 :: rngT (lst s)) ∧ t.size ≤ 1 + i ∧ Hid (∃ d, wr = w.drewN d)) (fun _ iv _ => s.size - (intOf iv).toNat)
  case atStart => exact ⟨⟨#[91]⟩, 0, by omega, rfl, rfl, hide rfl, Nat.le_refl _, hide ⟨0, rfl⟩⟩
  case round =>
    obtain ⟨t, i, hi, rfl, rfl, EQ, ts, DR⟩ := hrel
    by_cases hlt : i < s.size
    · have HI : Hid (i < s.size) := hide hlt
      have d0 : decide ((i : Int) < (s.size : Int)) = true := by rw [decide_eq_true_eq]; omega
      go_wp2_with fail
      go_loopw [5] (fun kv w2 => ∃ (k : Nat), i ≤ k ∧ k < s.size ∧ kv = .int .i64 (k : Int) ∧ Hid (uptoL ((lst s).drop i) (k + 1 - i)) ∧ Hid (∀ h : k < s.size, sortI (s[k].toNat : Int) = sortI (s[i].toNat : Int)) ∧ Hid (∃ e, w2 = w.drewN e)) (fun kv _ => s.size - (intOf kv).toNat)
      case atStart => exact ⟨i, Nat.le_refl _, hlt, rfl, hide (by rw [show i + 1 - i = 1 by omega]; exact uptoL_one _), hide (fun _ => rfl), DR⟩
      case round =>
        obtain ⟨k, ik, ks, rfl, UP, SO, DR2⟩ := hrel
        obtain ⟨p, hp⟩ : ∃ p, p = k + 1 := ⟨_, rfl⟩
        obtain ⟨i1, hi1⟩ : ∃ i1, i1 = i + 1 := ⟨_, rfl⟩
        have e1 : IntKind.i64.wrap ((k : Int) + 1) = (p : Int) := by rw [IntKind.wrap_i64]; omega
        have HP := hide hp
        have HI1 := hide hi1
        have ps : p ≤ s.size := by omega
        clear hp hi1
        by_cases hp : p < s.size
        · have d1 : decide ((p : Int) < (s.size : Int)) = true := by rw [decide_eq_true_eq]; omega
          have d2 : decide (p < s.size) = true := by rw [decide_eq_true_eq]; omega
          have cx := cAt.out k ks
          have cy := cAt.out p hp
          have b7 := cB_small cx
          have e2 : IntKind.u8.wrap ((s[k].toNat : Int) + 1) = ((s[k].toNat : Int) + 1) := by rw [IntKind.wrap_u8]; omega
          have gx : ((lst s).drop i).getD (p - i - 1) 0 = s[k] := by rw [List.getD_eq_getElem?_getD, List.getElem?_drop, ← List.getD_eq_getElem?_getD]; rw [show i + (p - i - 1) = k by have := HP.out; omega]; exact getD_lst s k ks
          have gy : ((lst s).drop i).getD (p - i) 0 = s[p] := by rw [List.getD_eq_getElem?_getD, List.getElem?_drop, ← List.getD_eq_getElem?_getD]; rw [show i + (p - i) = p by have := HP.out; omega]; exact getD_lst s p hp
          cases q1 : ((s[p].toNat : Int) == (s[k].toNat : Int) + 1) with
          | true =>
            have q2 : s[p].toNat = s[k].toNat + 1 := by have := beq_iff_eq.1 q1; omega
            obtain ⟨so1, so2⟩ := srt_next s[k] s[p] cx cy q2
            have so3 := SO.out ks
            have SO2 : Hid (∀ h : p < s.size, sortI (s[p].toNat : Int) = sortI (s[i].toNat : Int)) := hide (fun _ => so1.trans so3)
            have U2 : Hid (uptoL ((lst s).drop i) (p + 1 - i)) := hide (by
              have := uptoL_more UP.out (by omega) (by rw [show k + 1 - i = p - i by have := HP.out; omega, gy, gx]; exact q2)
              rw [show k + 1 - i + 1 = p + 1 - i by have := HP.out; omega] at this; exact this)
            have f1 : (sortI (s[p].toNat : Int) == sortI (s[i].toNat : Int)) = true := by rw [beq_iff_eq]; exact so1.trans so3
            have f2 : decide (0 < sortI (s[i].toNat : Int)) = true := by rw [decide_eq_true_eq, ← so3]; exact so2
            have bx : s[i].toNat < 256 := s[i].toNat_lt
            have by' : s[p].toNat < 256 := s[p].toNat_lt
            have f3 : 0 < sortI (s[i].toNat : Int) := by rw [← so3]; exact so2
            have kS1 := fun v => rsort_spec (s[p].toNat : Int) (by omega) (by omega) v
            have kS2 := fun v => rsort_spec (s[i].toNat : Int) (by omega) (by omega) v
            clear so1 so2 so3 q2 gx gy cx cy
            go_wp2_with fail
            go_quiet ((first | (go_at_call 59; with_reducible exact quiet_calc (kS1 _)) | (go_at_call 59; with_reducible exact quiet_calc (kS2 _))))
            go_wp2_with fail
            go_roundw
            case rel => exact ⟨p, by have := HP.out; omega, hp, rfl, U2, SO2, drew_more DR2.out _⟩
            case measure => have := HP.out; simp [intOf]; omega
          | false =>
            have q2 : s[p].toNat ≠ s[k].toNat + 1 := by have := beq_eq_false_iff_ne.1 q1; omega
            have RE := runL_eq ((lst s).drop i) (p - i) (by have := HP.out; omega) (by rw [List.length_drop, lst_len]; omega) (by rw [show p - i = k + 1 - i by have := HP.out; omega]; exact UP.out) (.inr (by rw [gx, gy]; exact q2))
            clear q2 gx gy cx cy
            go_wp2_with fail
            go_quiet (fail)
            have RL : Hid (runL ((lst s).drop i) = p - i) := hide RE
            clear RE
            have tn : (lst s).drop i ≠ [] := by intro e; have := congrArg List.length e; rw [List.length_drop, lst_len] at this; simp at this; omega
            have TN := hide tn
            have i1l : i1 ≤ s.size := by have := HI1.out; omega
            have si : i1 = i + 1 := HI1.out
            have sp : p = k + 1 := HP.out
            have e4 : IntKind.i64.wrap ((i : Int) + 1) = (i1 : Int) := by rw [IntKind.wrap_i64]; omega
            have zz : ((k : Int) - (i : Int)) = ((k - i : Nat) : Int) := by omega
            have NX : Hid (∀ u : List UInt8, pieceL ((lst s).drop i) = u → (lst t ++ u) ++ rngT ((lst s).drop p) = 91 :: rngT (lst s)) := by
              intro u hu
              have h1 := EQ.out
              rw [rngT_step TN.out, hu, RL.out, List.drop_drop, show i + (p - i) = p by omega] at h1
              rw [List.append_assoc]; exact h1
            by_cases n2 : k - i < 2
            · have PQ : Hid (pieceL ((lst s).drop i) = lst (s.extract i p)) := by
                show _ = _; unfold pieceL; rw [RL.out, if_pos (by omega), lst_ext]
              have d5 : decide ((2 : Int) ≤ (k : Int) - (i : Int)) = false := by rw [decide_eq_false_iff_not]; omega
              have d6 : (2 ≤ k - i) = False := by simp; omega
              have d7 : decide (i ≤ p) = true := by rw [decide_eq_true_eq]; omega
              have d8 : decide (p ≤ s.size) = true := by rw [decide_eq_true_eq]; omega
              have d9 : ((2 : Int) ≤ (k : Int) - (i : Int)) = False := by simp; omega
              have st : (s.extract i p).size = p - i := by simp; omega
              clear e1 e4
              go_wp2_with fail
              go_roundw
              case rel => exact ⟨t ++ s.extract i (k + 1), p, by omega, rfl, by rw [sp]; go_num, hide (by rw [← sp, lst_app2]; exact NX.out _ PQ.out), by rw [← sp]; simp [st]; omega, drew_more DR2.out _⟩
              case measure => simp [intOf]; omega
            · have PQ : Hid (pieceL ((lst s).drop i) = lst (s.extract i i1 ++ ⟨#[45]⟩ ++ s.extract k p)) := by
                show _ = _
                unfold pieceL; rw [RL.out, if_neg (by omega), lst_app2, lst_app2]
                exact piece_at s i i1 k p (by omega) (by omega) (by omega) (by omega)
              have d5 : decide ((2 : Int) ≤ (k : Int) - (i : Int)) = true := by rw [decide_eq_true_eq]; omega
              have d9 : ((2 : Int) ≤ (k : Int) - (i : Int)) = True := by simp; omega
              have j1 : i ≤ i1 := by omega
              have j2 : k ≤ p := by omega
              have j3 : (i : Int) ≤ (i1 : Int) := by omega
              have j4 : (k : Int) ≤ (p : Int) := by omega
              have j5 : (i1 : Int) ≤ (s.size : Int) := by omega
              have j6 : (p : Int) ≤ (s.size : Int) := by omega
              have j7 : (0 : Int) ≤ (i : Int) := by omega
              have j8 : (0 : Int) ≤ (k : Int) := by omega
              have s1 : (⟨#[45]⟩ : ByteArray).size = 1 := rfl
              have sx : (s.extract i i1).size = 1 := by simp; omega
              have sy : (s.extract k p).size = 1 := by simp; omega
              have st : (t ++ s.extract i (i + 1) ++ ⟨#[45]⟩ ++ s.extract k (k + 1)).size = t.size + 3 := by rw [← si, ← sp]; simp only [ByteArray.size_append, sx, sy, s1]
              clear sx sy s1
              go_wp2_with fail
              go_quiet (fail)
              clear e1 e4
              go_wp2_with fail
              go_roundw
              case rel => exact ⟨t ++ s.extract i (i + 1) ++ ⟨#[45]⟩ ++ s.extract k (k + 1), p, by omega, rfl, by first | rfl | (rw [sp]; go_num), hide (by have := NX.out _ PQ.out; rw [lst_app2, lst_app2] at this; rw [lst_app2, lst_app2, lst_app2, ← si, ← sp]; simpa using this), by rw [st]; omega, drew_more DR2.out _⟩
              case measure => simp [intOf]; omega
        · have d1 : decide ((p : Int) < (s.size : Int)) = false := by rw [decide_eq_false_iff_not]; omega
          have d2 : decide (p < s.size) = false := by rw [decide_eq_false_iff_not]; omega
          have RE := runL_eq ((lst s).drop i) (p - i) (by have := HP.out; omega) (by rw [List.length_drop, lst_len]; omega) (by rw [show p - i = k + 1 - i by have := HP.out; omega]; exact UP.out) (.inl (by rw [List.length_drop, lst_len]; omega))
          go_wp2_with fail
          go_quiet (fail)
          have RL : Hid (runL ((lst s).drop i) = p - i) := hide RE
          clear RE
          have tn : (lst s).drop i ≠ [] := by intro e; have := congrArg List.length e; rw [List.length_drop, lst_len] at this; simp at this; omega
          have TN := hide tn
          have i1l : i1 ≤ s.size := by have := HI1.out; omega
          have si : i1 = i + 1 := HI1.out
          have sp : p = k + 1 := HP.out
          have e4 : IntKind.i64.wrap ((i : Int) + 1) = (i1 : Int) := by rw [IntKind.wrap_i64]; omega
          have zz : ((k : Int) - (i : Int)) = ((k - i : Nat) : Int) := by omega
          have NX : Hid (∀ u : List UInt8, pieceL ((lst s).drop i) = u → (lst t ++ u) ++ rngT ((lst s).drop p) = 91 :: rngT (lst s)) := by
            intro u hu
            have h1 := EQ.out
            rw [rngT_step TN.out, hu, RL.out, List.drop_drop, show i + (p - i) = p by omega] at h1
            rw [List.append_assoc]; exact h1
          by_cases n2 : k - i < 2
          · have PQ : Hid (pieceL ((lst s).drop i) = lst (s.extract i p)) := by
              show _ = _; unfold pieceL; rw [RL.out, if_pos (by omega), lst_ext]
            have d5 : decide ((2 : Int) ≤ (k : Int) - (i : Int)) = false := by rw [decide_eq_false_iff_not]; omega
            have d6 : (2 ≤ k - i) = False := by simp; omega
            have d7 : decide (i ≤ p) = true := by rw [decide_eq_true_eq]; omega
            have d8 : decide (p ≤ s.size) = true := by rw [decide_eq_true_eq]; omega
            have d9 : ((2 : Int) ≤ (k : Int) - (i : Int)) = False := by simp; omega
            have st : (s.extract i p).size = p - i := by simp; omega
            clear e1 e4
            go_wp2_with fail
            go_roundw
            case rel => exact ⟨t ++ s.extract i (k + 1), p, by omega, rfl, by rw [sp]; go_num, hide (by rw [← sp, lst_app2]; exact NX.out _ PQ.out), by rw [← sp]; simp [st]; omega, drew_more DR2.out _⟩
            case measure => simp [intOf]; omega
          · have PQ : Hid (pieceL ((lst s).drop i) = lst (s.extract i i1 ++ ⟨#[45]⟩ ++ s.extract k p)) := by
              show _ = _
              unfold pieceL; rw [RL.out, if_neg (by omega), lst_app2, lst_app2]
              exact piece_at s i i1 k p (by omega) (by omega) (by omega) (by omega)
            have d5 : decide ((2 : Int) ≤ (k : Int) - (i : Int)) = true := by rw [decide_eq_true_eq]; omega
            have d9 : ((2 : Int) ≤ (k : Int) - (i : Int)) = True := by simp; omega
            have j1 : i ≤ i1 := by omega
            have j2 : k ≤ p := by omega
            have j3 : (i : Int) ≤ (i1 : Int) := by omega
            have j4 : (k : Int) ≤ (p : Int) := by omega
            have j5 : (i1 : Int) ≤ (s.size : Int) := by omega
            have j6 : (p : Int) ≤ (s.size : Int) := by omega
            have j7 : (0 : Int) ≤ (i : Int) := by omega
            have j8 : (0 : Int) ≤ (k : Int) := by omega
            have s1 : (⟨#[45]⟩ : ByteArray).size = 1 := rfl
            have sx : (s.extract i i1).size = 1 := by simp; omega
            have sy : (s.extract k p).size = 1 := by simp; omega
            have st : (t ++ s.extract i (i + 1) ++ ⟨#[45]⟩ ++ s.extract k (k + 1)).size = t.size + 3 := by rw [← si, ← sp]; simp only [ByteArray.size_append, sx, sy, s1]
            clear sx sy s1
            go_wp2_with fail
            go_quiet (fail)
            clear e1 e4
            go_wp2_with fail
            go_roundw
            case rel => exact ⟨t ++ s.extract i (i + 1) ++ ⟨#[45]⟩ ++ s.extract k (k + 1), p, by omega, rfl, by first | rfl | (rw [sp]; go_num), hide (by have := NX.out _ PQ.out; rw [lst_app2, lst_app2] at this; rw [lst_app2, lst_app2, lst_app2, ← si, ← sp]; simpa using this), by rw [st]; omega, drew_more DR2.out _⟩
            case measure => simp [intOf]; omega
    · obtain rfl : i = s.size := by omega
      have d0 : decide ((s.size : Int) < (s.size : Int)) = false := by rw [decide_eq_false_iff_not]; omega
      have F : Hid (t ++ ⟨#[93]⟩ = (⟨(91 :: (rngT (lst s) ++ [93])).toArray⟩ : ByteArray)) := by
        show _ = _
        apply lst_inj
        have h := EQ.out
        rw [List.drop_eq_nil_of_le (by rw [lst_len]; exact Nat.le_refl _), rngT_nil, List.append_nil] at h
        rw [lst_app2, h, lst_mk]; simp [lst]
      go_wp2_with fail
      go_returns
      exact ⟨by rw [← F.out]; rfl, DR.out⟩
end Go.Proofs.YteahbdhhcfoiiaaDoor
/- name: the reference's globText. -/
namespace Go.Proofs.YteahbdhhcfoiiaaDoor
set_option linter.unusedVariables false
set_option linter.unusedSimpArgs false
open Go.RowKit W
theorem mk_lst (t : ByteArray) : (⟨(lst t).toArray⟩ : ByteArray) = t := lst_inj (lst_mk _)
theorem altsT_more (al : List ByteArray) (a : ByteArray) (h : al ≠ []) : altsT (al ++ [a]) = altsT al ++ 44 :: lst a := by
  induction al with
  | nil => exact absurd rfl h
  | cons x r ih =>
    cases r with
    | nil => simp [altsT]
    | cons y r =>
      have := ih (by simp)
      simp only [List.cons_append] at this ⊢
      rw [altsT, this, altsT]
      simp
theorem altsT_one (al : List ByteArray) (h : 0 < al.length) : altsT (al.take 1) = lst al[0] := by
  cases al with
  | nil => simp at h
  | cons x r => simp [altsT]
theorem altsT_take (al : List ByteArray) (n : Nat) (h : n < al.length) (hn : n ≠ 0) : altsT (al.take (n + 1)) = altsT (al.take n) ++ 44 :: lst al[n] := by
  rw [List.take_succ_eq_append_getElem h]
  refine altsT_more _ _ fun e => ?_
  have := congrArg List.length e
  rw [List.length_take] at this
  simp at this
  rcases this with z | z
  · exact hn z
  · rw [z] at h; simp at h
theorem altsW_take (al : List ByteArray) (n : Nat) : altsW (al.take n) ≤ altsW al := sum_take_le _ _ _
set_option maxRecDepth 100000 in
set_option maxHeartbeats 8000000 in
theorem rglobText_spec (x : Gl) (hx : standB x = true) (xw : globW x ≤ 4398046511104) (b5 : Option Addr) (c5 : Nat) (w : World) (ha : IsTxts w b5 x.al) :
    Calls Tryd.prog 48 #[gV x b5 c5] w fun e w' => e = .returned (.string ⟨(globT x).toArray⟩) ∧ Below w.heap.size w w' := by
  have XS := hide hx
  have HA := hide ha
  have aw := altsT_len x.al
  have al1 : x.al.length ≤ altsW x.al := by
    have h1 : ∀ l : List ByteArray, l.length ≤ altsW l := by
      intro l
      induction l with
      | nil => simp [altsW]
      | cons x r ih => simp only [List.length_cons, altsW, List.map_cons, List.sum_cons] at ih ⊢; omega
    exact h1 _
  have tl : x.t.size ≤ 4398046511104 := by unfold globW at xw; omega
  have aw2 : altsW x.al ≤ 4398046511104 := by unfold globW at xw; omega
  obtain ⟨g, hg⟩ : ∃ g, globT x = g := ⟨_, rfl⟩
  rw [hg]
  have HG := hide hg
  obtain ⟨n, hn⟩ : ∃ n, n = x.al.length := ⟨_, rfl⟩
  have HN := hide hn
  unfold gV
  rw [← hn] at al1 ⊢
  obtain ⟨kk, hkk⟩ : ∃ kk, kk = x.k := ⟨_, rfl⟩
  have HK := hide hkk
  rw [← hkk]
  clear hx ha hg hn hkk
  rcases stand_kind XS.out with ek | ek | ek | ek | ek
  · have F : Hid (x.t = (⟨g.toArray⟩ : ByteArray)) := by show _ = _; rw [← HG.out, globT_1 ek, mk_lst]
    obtain rfl : kk = 1 := HK.out.trans ek
    go_enter Tryd.func48, Tryd.ntmps48
    go_wp2_with fail
    go_returns
    exact ⟨by rw [← F.out]; rfl, by go_grown⟩
  · have F : Hid (g = [42]) := by show _ = _; rw [← HG.out, globT_2 ek]
    obtain rfl : kk = 2 := HK.out.trans ek
    go_enter Tryd.func48, Tryd.ntmps48
    go_wp2_with fail
    go_returns
    exact ⟨by rw [F.out]; rfl, by go_grown⟩
  · have F : Hid (g = [63]) := by show _ = _; rw [← HG.out, globT_3 ek]
    obtain rfl : kk = 3 := HK.out.trans ek
    go_enter Tryd.func48, Tryd.ntmps48
    go_wp2_with fail
    go_returns
    exact ⟨by rw [F.out]; rfl, by go_grown⟩
  · have F : Hid (g = 91 :: (rngT (lst x.t) ++ [93])) := by show _ = _; rw [← HG.out, globT_4 ek]
    have kr := fun v => rclassText_spec x.t (by omega) (fun y hy => rise_cls (stand_class XS.out ek) y hy) v
    rw [← F.out] at kr
    obtain rfl : kk = 4 := HK.out.trans ek
    clear F
    go_enter Tryd.func48, Tryd.ntmps48
    go_wp2_with fail
    refine Calls.mono (kr _) ?_
    rintro e w5 ⟨rfl, nq, rfl⟩
    go_wp2_with fail
    go_returns
    exact ⟨rfl, below_drewN (by go_grown) _⟩
  · obtain rfl : kk = 5 := HK.out.trans ek
    have F : Hid (g = 123 :: (altsT x.al ++ [125])) := by show _ = _; rw [← HG.out, globT_5 ek]
    go_enter Tryd.func48, Tryd.ntmps48
    go_wp2_with fail
    have BB : Hid (Below w.heap.size w (w.alloc (.cells #[.int .i64 5, .string x.t, .slice b5 n c5] 66))) := (Below.refl _ _).alloc (Nat.le_refl _) _
    go_loop [3, 4] (fun uv iv => ∃ (u : ByteArray) (i : Nat), i ≤ n ∧ uv = .string u ∧ iv = .int .i64 (i : Int) ∧ Hid (lst u = 123 :: altsT (x.al.take i)) ∧ u.size ≤ 1 + altsW x.al) (fun _ iv => n - (intOf iv).toNat)
    case atStart => exact ⟨⟨#[123]⟩, 0, by omega, rfl, rfl, hide rfl, by show 1 ≤ _; omega⟩
    case round =>
      obtain ⟨u, i, hi, rfl, rfl, EQ, us⟩ := hrel
      by_cases hlt : i < n
      · have il : i < x.al.length := by have := HN.out; omega
        obtain ⟨tb, tof, rfl, TX⟩ := HA.out.resolve_left (by intro e; rw [e] at il; simp at il)
        have tlt := TX.lt
        have c0 := TX.cell i il
        have am := sum_mem_le (fun a : ByteArray => a.size + 1) (List.getElem_mem il)
        have aw3 : (x.al[i]).size ≤ altsW x.al := by unfold altsW; omega
        have NL := altsT_len (x.al.take (i + 1))
        have NW := altsW_take x.al (i + 1)
        obtain ⟨y, hy⟩ : ∃ y, y = x.al[i] := ⟨_, rfl⟩
        have HY := hide hy
        rw [← hy] at c0 aw3
        clear hy am
        by_cases i0 : i = 0
        · have N : Hid (lst (u ++ y) = 123 :: altsT (x.al.take (i + 1))) := by
            show _ = _
            rw [lst_app2, EQ.out, HY.out]
            have i1 : 0 < x.al.length := by omega
            have e1 := altsT_one x.al i1
            simp only [i0, List.take_zero]
            rw [e1]; simp [altsT]
          have sz : (u ++ y).size ≤ 1 + altsW x.al := by
            have := congrArg List.length N.out
            rw [lst_len] at this
            simp only [List.length_cons] at this; omega
          have d0 : decide ((0 : Int) < (i : Int)) = false := by rw [decide_eq_false_iff_not]; omega
          have d1 : decide (0 < i) = false := by rw [decide_eq_false_iff_not]; omega
          have I0 := hide i0
          clear i0 NL NW
          go_wp2_with fail
          go_round
          case rel => exact ⟨u ++ y, i + 1, by omega, rfl, by go_num, N, sz⟩
          case measure => simp [intOf]; omega
        · have N : Hid (lst (u ++ ⟨#[44]⟩ ++ y) = 123 :: altsT (x.al.take (i + 1))) := by
            show _ = _
            rw [lst_app2, lst_app2, EQ.out, HY.out, altsT_take _ _ il i0]
            simp [lst]
          have sz : (u ++ ⟨#[44]⟩ ++ y).size ≤ 1 + altsW x.al := by
            have := congrArg List.length N.out
            rw [lst_len] at this
            simp only [List.length_cons] at this; omega
          have ipos : (0 : Int) < (i : Int) := by omega
          have s44 : (⟨#[44]⟩ : ByteArray).size = 1 := rfl
          clear NL NW
          go_wp2_with fail
          go_round
          case rel => exact ⟨u ++ ⟨#[44]⟩ ++ y, i + 1, by omega, rfl, by go_num, N, sz⟩
          case measure => simp [intOf]; omega
      · obtain rfl : i = n := by omega
        have G : Hid (u ++ ⟨#[125]⟩ = (⟨g.toArray⟩ : ByteArray)) := by
          show _ = _
          apply lst_inj
          rw [lst_app2, EQ.out, HN.out, List.take_length, lst_mk, F.out]
          simp [lst]
        go_wp2_with fail
        go_returns
        exact ⟨by rw [← G.out]; rfl, BB.out⟩
end Go.Proofs.YteahbdhhcfoiiaaDoor
/- name: the reference's May. -/
namespace Go.Proofs.YteahbdhhcfoiiaaDoor
set_option linter.unusedVariables false
set_option linter.unusedSimpArgs false
open Go.RowKit W
set_option maxRecDepth 100000 in
set_option maxHeartbeats 8000000 in
theorem rmay_spec (p : List (List Gl)) (pw : PtW p) (a : Option Addr) (c : Nat) (w : World) (ha : IsPt w a p) :
    Calls Tryd.prog 47 #[.agg #[.slice a p.length c]] w fun e w' => e = .returned (.bool (mayB p)) ∧ Below w.heap.size w w' := by
  obtain ⟨E, hE⟩ : ∃ E, mayB p = E := ⟨_, rfl⟩
  rw [hE]
  have HE := hide hE
  have HA := hide ha
  have HW := hide pw
  have hn := pw.n
  obtain ⟨n, hnn⟩ : ∃ n, n = p.length := ⟨_, rfl⟩
  have HN := hide hnn
  rw [← hnn] at hn ⊢
  clear hE ha pw hnn
  by_cases y1 : 1 ≤ n
  · by_cases y2 : n ≤ 16
    · have H1 : Hid (E = p.all nodeMay) := by have := HE.out; rw [← this]; show _ = _; unfold mayB; rw [← HN.out]; simp [y1, y2]
      go_enter Tryd.func47, Tryd.ntmps47
      go_wp2_with fail
      go_loopw [3] (fun i wr => ∃ k : Nat, k ≤ n ∧ i = .int .i64 (k : Int) ∧ Hid (Below w.heap.size w wr) ∧ Hid (wr.cell? ⟨w.heap.size, 0, none⟩ = some (.slice a n c)) ∧ Hid (w.heap.size < wr.heap.size) ∧ Hid (∀ j (h : j < p.length), j < k → nodeMay p[j] = true)) (fun i _ => n - (intOf i).toNat)
      case atStart => exact ⟨0, by omega, rfl, hide (by go_grown), hide (by simp [go_sem]), hide (by simp), hide (fun j _ h => absurd h (Nat.not_lt_zero _))⟩
      case round =>
        obtain ⟨k, hk, rfl, B, CB, LB, D⟩ := hrel
        have cb := CB.out
        by_cases hlt : k < n
        · have kp : k < p.length := by have := HN.out; omega
          obtain ⟨g, o, rfl, LN⟩ := HA.out.resolve_left (by intro e; rw [e] at kp; simp at kp)
          have L1 := LN.later B.out
          obtain ⟨b, cc, n0, n1, n2⟩ := L1.cell k kp
          have HG := hide n1
          have gm := HW.out.m p[k] (List.getElem_mem _)
          have GW := hide (HW.out.g p[k] (List.getElem_mem _))
          obtain ⟨gs, hgs⟩ : ∃ gs, gs = p[k] := ⟨_, rfl⟩
          rw [← hgs] at n0 n1 gm GW HG n2
          obtain ⟨m, hm⟩ : ∃ m, m = gs.length := ⟨_, rfl⟩
          have HM := hide hm
          have HGS := hide hgs
          rw [← hm] at n0 gm
          clear hgs hm n1 LN L1 n2
          by_cases m0 : m = 0
          · have F : Hid (E = false) := by
              show _ = _
              rw [H1.out]
              rw [List.all_eq_false]
              exact ⟨gs, by rw [HGS.out]; exact List.getElem_mem _, by unfold nodeMay; rw [← HM.out, m0]; simp⟩
            subst m0
            go_wp2_with fail
            go_returns
            exact ⟨by rw [F.out]; rfl, B.out⟩
          · have m1 : ((m : Int) == 0) = false := by rw [beq_eq_false_iff_ne]; omega
            have NM : Hid (∀ q, q < m → placeB gs q = false → E = false) := by
              intro q hq e
              rw [H1.out, List.all_eq_false]
              exact ⟨gs, by rw [HGS.out]; exact List.getElem_mem _, by unfold nodeMay; rw [all_no (f := placeB gs) (k := q) (by rw [← HM.out]; exact hq) e, Bool.and_false]; decide⟩
            obtain ⟨wo, rfl⟩ : ∃ wo, wo = wr := ⟨_, rfl⟩
            go_wp2_with fail
            clear cb n0
            go_loopw [5] (fun i w2 => ∃ q : Nat, q ≤ m ∧ i = .int .i64 (q : Int) ∧ Hid (Below wo.heap.size wo w2) ∧ Hid (∀ j, j < q → placeB gs j = true)) (fun i _ => m - (intOf i).toNat)
            case atStart => exact ⟨0, by omega, rfl, hide (Below.refl _ _), hide (fun j h => absurd h (Nat.not_lt_zero _))⟩
            case round =>
              obtain ⟨q, hq, rfl, B2, D2⟩ := hrel
              by_cases hql : q < m
              · have qg : q < gs.length := by have := HM.out; omega
                obtain ⟨g2, o2, rfl, LG⟩ := HG.out.resolve_left (by intro e; rw [e] at qg; simp at qg)
                have L2 := LG.later B2.out
                obtain ⟨c0, c1, b5, c5, c2, c3, c4⟩ := L2.cell q qg
                have gw := GW.out gs[q] (List.getElem_mem _)
                have ks := rglob_spec gs[q] gw b5 c5 wr c3
                have at0 : gs[q]? = some gs[q] := List.getElem?_eq_getElem qg
                obtain ⟨x, hx⟩ : ∃ x, x = gs[q] := ⟨_, rfl⟩
                rw [← hx] at c0 c1 c2 ks at0
                have AT := hide at0
                obtain ⟨t, ht⟩ : ∃ t, standB x = t := ⟨_, rfl⟩
                rw [ht] at ks
                have HT := hide ht
                have BW := hide (B.out.trans (B2.out.mono B.out.size))
                have zs := hide B2.out.size
                have zt := hide BW.out.size
                have lg := L2.lt
                unfold gV at ks
                clear at0 hx ht c3 c4 gw
                cases t
                · have F : Hid (E = false) := NM.out q hql (by unfold placeB; rw [AT.out]; simp only; rw [HT.out]; rfl)
                  go_wp2_with (go_at_call 66; refine Calls.mono ks ?_; rintro e w5 ⟨rfl, b5⟩; have B5 := hide b5; clear b5)
                  go_returns
                  exact ⟨by rw [F.out]; rfl, BW.out.trans (B5.out.mono zt.out)⟩
                · by_cases q0 : q = 0
                  · subst q0
                    rw [show o2 + 0 * 3 = o2 by omega] at c0 c1 c2
                    have z0 : decide ((0 : Int) < ((0 : Nat) : Int)) = false := by decide
                    have PL : placeB gs 0 = true := by unfold placeB; rw [AT.out]; simp only; rw [HT.out]; rfl
                    have D3 : Hid (∀ j, j < 0 + 1 → placeB gs j = true) := by
                      intro j hj
                      by_cases z : j < 0
                      · exact D2.out j z
                      · obtain rfl : j = 0 := by omega
                        exact PL
                    clear PL
                    go_wp2_with (go_at_call 66; refine Calls.mono ks ?_; rintro e w5 ⟨rfl, b5⟩; have B5 := hide b5; clear b5)
                    go_roundw
                    case rel => exact ⟨0 + 1, by omega, by go_num, hide (B2.out.trans (B5.out.mono zs.out)), D3⟩
                    case measure => simp [intOf]; omega
                  · obtain ⟨u, rfl⟩ : ∃ u, q = u + 1 := ⟨q - 1, by omega⟩
                    have e1 : IntKind.i64.wrap ((u : Int) + 1 - 1) = (u : Int) := by rw [IntKind.wrap_i64]; omega
                    have e2 : decide ((0 : Int) < (u : Int) + 1) = true := by rw [decide_eq_true_eq]; omega
                    obtain ⟨p0, _⟩ := L2.cell u (by omega)
                    have atu : gs[u]? = some gs[u] := List.getElem?_eq_getElem (by omega)
                    obtain ⟨y, hy⟩ : ∃ y, y = gs[u] := ⟨_, rfl⟩
                    rw [← hy] at p0 atu
                    have ATU := hide atu
                    clear atu hy q0
                    by_cases x1 : x.k = 1
                    · by_cases y1 : y.k = 1
                      · have F : Hid (E = false) := NM.out (u + 1) hql (by unfold placeB; rw [AT.out, Nat.add_sub_cancel, ATU.out]; simp [x1, y1])
                        have y2 : (y.k == 1) = true := by rw [y1]; rfl
                        have x2 : (x.k == 1) = true := by rw [x1]; rfl
                        clear x1 y1
                        go_wp2_with (go_at_call 66; refine Calls.mono ks ?_; rintro e w5 ⟨rfl, b5⟩; have B5 := hide b5; have d0 : w5.cell? ⟨g2, o2 + (u + 1) * 3, none⟩ = some (.int .i64 x.k) := (b5.cell (p := ⟨g2, o2 + (u + 1) * 3, none⟩) lg).trans c0; have e0 : w5.cell? ⟨g2, o2 + u * 3, none⟩ = some (.int .i64 y.k) := (b5.cell (p := ⟨g2, o2 + u * 3, none⟩) lg).trans p0; clear b5)
                        go_returns
                        exact ⟨by rw [F.out]; rfl, BW.out.trans (B5.out.mono zt.out)⟩
                      · have PL : placeB gs (u + 1) = true := by unfold placeB; rw [AT.out, Nat.add_sub_cancel, ATU.out]; simp [x1, y1, HT.out]
                        have y2 : (y.k == 1) = false := by rw [beq_eq_false_iff_ne]; exact y1
                        have x2 : (x.k == 1) = true := by rw [x1]; rfl
                        have D3 : Hid (∀ j, j < (u + 1) + 1 → placeB gs j = true) := by
                          intro j hj
                          by_cases z : j < u + 1
                          · exact D2.out j z
                          · obtain rfl : j = u + 1 := by omega
                            exact PL
                        clear PL x1 y1
                        go_wp2_with (go_at_call 66; refine Calls.mono ks ?_; rintro e w5 ⟨rfl, b5⟩; have B5 := hide b5; have d0 : w5.cell? ⟨g2, o2 + (u + 1) * 3, none⟩ = some (.int .i64 x.k) := (b5.cell (p := ⟨g2, o2 + (u + 1) * 3, none⟩) lg).trans c0; have e0 : w5.cell? ⟨g2, o2 + u * 3, none⟩ = some (.int .i64 y.k) := (b5.cell (p := ⟨g2, o2 + u * 3, none⟩) lg).trans p0; clear b5)
                        go_roundw
                        case rel => exact ⟨u + 1 + 1, by omega, by go_num, hide (B2.out.trans (B5.out.mono zs.out)), D3⟩
                        case measure => simp [intOf]; omega
                    · have PL : placeB gs (u + 1) = true := by unfold placeB; rw [AT.out, Nat.add_sub_cancel, ATU.out]; simp [x1, HT.out]
                      have x2 : (x.k == 1) = false := by rw [beq_eq_false_iff_ne]; exact x1
                      have D3 : Hid (∀ j, j < (u + 1) + 1 → placeB gs j = true) := by
                        intro j hj
                        by_cases z : j < u + 1
                        · exact D2.out j z
                        · obtain rfl : j = u + 1 := by omega
                          exact PL
                      clear PL x1
                      go_wp2_with (go_at_call 66; refine Calls.mono ks ?_; rintro e w5 ⟨rfl, b5⟩; have B5 := hide b5; have d0 : w5.cell? ⟨g2, o2 + (u + 1) * 3, none⟩ = some (.int .i64 x.k) := (b5.cell (p := ⟨g2, o2 + (u + 1) * 3, none⟩) lg).trans c0; have e0 : w5.cell? ⟨g2, o2 + u * 3, none⟩ = some (.int .i64 y.k) := (b5.cell (p := ⟨g2, o2 + u * 3, none⟩) lg).trans p0; clear b5)
                      go_roundw
                      case rel => exact ⟨u + 1 + 1, by omega, by go_num, hide (B2.out.trans (B5.out.mono zs.out)), D3⟩
                      case measure => simp [intOf]; omega
              · obtain rfl : q = m := by omega
                have NY : Hid (nodeMay gs = true) := by
                  show _ = _
                  unfold nodeMay
                  rw [← HM.out, all_yes D2.out]
                  simp [m0]
                have BW := hide (B.out.trans (B2.out.mono B.out.size))
                have D3 : Hid (∀ j (h : j < p.length), j < k + 1 → nodeMay p[j] = true) := by
                  intro j h hj
                  by_cases z : j < k
                  · exact D.out j h z
                  · obtain rfl : j = k := by omega
                    rw [← HGS.out]; exact NY.out
                have CB2 : Hid (wr.cell? ⟨w.heap.size, 0, none⟩ = some (.slice (some ⟨g, o, none⟩) n c)) := (B2.out.cell (p := ⟨w.heap.size, 0, none⟩) LB.out).trans CB.out
                have LB2 : Hid (w.heap.size < wr.heap.size) := Nat.lt_of_lt_of_le LB.out B2.out.size
                go_wp2_with fail
                go_roundw
                case rel => exact ⟨k + 1, by omega, by go_num, BW, CB2, LB2, D3⟩
                case measure => simp [intOf]; omega
        · obtain rfl : k = n := by omega
          have F : Hid (E = true) := by
            show _ = _
            rw [H1.out, List.all_eq_true]
            intro x hx
            obtain ⟨j, hj, rfl⟩ := List.getElem_of_mem hx
            exact D.out j hj (by have := HN.out; omega)
          go_wp2_with fail
          go_returns
          exact ⟨by rw [F.out]; rfl, B.out⟩
    · have F : Hid (E = false) := by have := HE.out; rw [← this]; show _ = _; unfold mayB; rw [← HN.out]; simp [y1, y2]
      go_enter Tryd.func47, Tryd.ntmps47
      go_wp2_with fail
      go_returns
      exact ⟨by rw [F.out]; rfl, by go_grown⟩
  · have F : Hid (E = false) := by have := HE.out; rw [← this]; show _ = _; unfold mayB; rw [← HN.out]; simp [y1]
    go_enter Tryd.func47, Tryd.ntmps47
    go_wp2_with fail
    go_returns
    exact ⟨by rw [F.out]; rfl, by go_grown⟩
end Go.Proofs.YteahbdhhcfoiiaaDoor
/- name: where pieces lead, plain. -/
namespace Go.Proofs.YteahbdhhcfoiiaaDoor
set_option linter.unusedVariables false
set_option linter.unusedSimpArgs false
/-- Does a text stand at a place? -/
def preB (a s : ByteArray) (i : Nat) : Bool := a.data.toList.isPrefixOf (s.data.toList.drop i)
/-- Can a piece that begins at i end at j? -/
def goB (g : Gl) (s : ByteArray) (i j : Nat) : Bool :=
  if g.k = 2 then decide (i ≤ j)
  else if g.k = 3 then decide (i < s.size) && decide (j = i + 1)
  else if g.k = 4 then decide (i < s.size) && decide (j = i + 1) && g.t.data.toList.contains (nx s i)
  else if g.k = 5 then g.al.any fun a => preB a s i && decide (j = i + a.size)
  else preB g.t s i && decide (j = i + g.t.size)
/-- The places that a piece leads to from some. -/
def stepR (g : Gl) (s : ByteArray) (R : List Bool) : List Bool := (List.range (s.size + 1)).map fun j => (List.range (s.size + 1)).any fun i => R.getD i false && goB g s i j
def startR (s : ByteArray) : List Bool := true :: List.replicate s.size false
def mNode (gs : List Gl) (s : ByteArray) : Bool := (gs.foldl (fun R g => stepR g s R) (startR s)).getD s.size false
theorem stepR_len (g : Gl) (s : ByteArray) (R : List Bool) : (stepR g s R).length = s.size + 1 := by simp [stepR]
theorem startR_len (s : ByteArray) : (startR s).length = s.size + 1 := by simp [startR]
theorem stepR_at (g : Gl) (s : ByteArray) (R : List Bool) (j : Nat) (h : j < s.size + 1) : (stepR g s R)[j]? = some ((List.range (s.size + 1)).any fun i => R.getD i false && goB g s i j) := by
  simp [stepR, h]
/-- What the places up to k have led to. -/
def partR (g : Gl) (s : ByteArray) (R : List Bool) (k : Nat) : List Bool := (List.range (s.size + 1)).map fun j => (List.range k).any fun i => R.getD i false && goB g s i j
theorem partR_zero (g : Gl) (s : ByteArray) (R : List Bool) : partR g s R 0 = List.replicate (s.size + 1) false := by
  apply List.ext_getElem?; intro j; simp only [partR, List.getElem?_map, List.getElem?_replicate, List.range_zero, List.any_nil]
  by_cases h : j < s.size + 1
  · simp [h]
  · simp [h]
theorem partR_all (g : Gl) (s : ByteArray) (R : List Bool) : partR g s R (s.size + 1) = stepR g s R := rfl
theorem partR_len (g : Gl) (s : ByteArray) (R : List Bool) (k : Nat) : (partR g s R k).length = s.size + 1 := by simp [partR]
theorem partR_skip (g : Gl) (s : ByteArray) (R : List Bool) (k : Nat) (h : R.getD k false = false) : partR g s R (k + 1) = partR g s R k := by
  unfold partR
  congr 1; funext j
  rw [List.range_succ, List.any_append]
  simp [List.any_cons]; intro h1; simp [List.getD_eq_getElem?_getD] at h; simp [h] at h1
/-- Beside what was reached already, the places of one more. -/
def addR (g : Gl) (s : ByteArray) (T : List Bool) (i : Nat) : List Bool := (List.range (s.size + 1)).map fun j => T.getD j false || goB g s i j
theorem partR_add (g : Gl) (s : ByteArray) (R : List Bool) (k : Nat) (h : R.getD k false = true) : partR g s R (k + 1) = addR g s (partR g s R k) k := by
  apply List.ext_getElem?; intro j
  unfold partR addR
  simp only [List.getElem?_map]
  by_cases hj : j < s.size + 1
  · rw [List.getElem?_range hj]
    simp only [Option.map_some, List.getD_eq_getElem?_getD, List.getElem?_map, List.getElem?_range hj, Option.getD_some]
    rw [List.range_succ, List.any_append]
    simp only [List.any_cons, List.any_nil, Bool.or_false]
    rw [List.getD_eq_getElem?_getD] at h
    rw [h, Bool.true_and]
  · rw [List.getElem?_eq_none (by simp; omega)]; rfl
theorem addR_len (g : Gl) (s : ByteArray) (R : List Bool) (k : Nat) : (addR g s R k).length = s.size + 1 := by simp [addR]
theorem getD_set (T : List Bool) (i j : Nat) (h : i < T.length) : (T.set i true).getD j false = (T.getD j false || decide (j = i)) := by
  simp only [List.getD_eq_getElem?_getD, List.getElem?_set]
  by_cases e : i = j
  · subst e; simp [h]
  · rw [if_neg e]; simp [Ne.symm e]
/-- A list of so many places is told by its members. -/
theorem bools_ext {A B : List Bool} (h : A.length = B.length) (g : ∀ j, j < A.length → A.getD j false = B.getD j false) : A = B := by
  apply List.ext_getElem h
  intro j h1 h2
  have := g j h1
  simpa [List.getD_eq_getElem?_getD, h1, h2] using this
theorem addR_at (g : Gl) (s : ByteArray) (T : List Bool) (i j : Nat) (h : j < s.size + 1) : (addR g s T i).getD j false = (T.getD j false || goB g s i j) := by
  simp [addR, List.getD_eq_getElem?_getD, h]
/-- Nothing new. -/
theorem addR_none {g : Gl} {s : ByteArray} {T : List Bool} {i : Nat} (hl : T.length = s.size + 1) (h : ∀ j, j < s.size + 1 → goB g s i j = false) : addR g s T i = T := by
  refine bools_ext (by rw [addR_len, hl]) fun j hj => ?_
  rw [addR_len] at hj
  rw [addR_at _ _ _ _ _ hj, h j hj, Bool.or_false]
/-- One place. -/
theorem addR_one {g : Gl} {s : ByteArray} {T : List Bool} {i k : Nat} (hl : T.length = s.size + 1) (hk : k < s.size + 1) (h : ∀ j, j < s.size + 1 → goB g s i j = decide (j = k)) : addR g s T i = T.set k true := by
  refine bools_ext (by rw [addR_len, List.length_set, hl]) fun j hj => ?_
  rw [addR_len] at hj
  rw [addR_at _ _ _ _ _ hj, h j hj, getD_set _ _ _ (by omega)]
theorem pre_le {a s : ByteArray} {i : Nat} (h : preB a s i = true) (hi : i ≤ s.size) : i + a.size ≤ s.size := by
  unfold preB at h
  have := (List.isPrefixOf_iff_prefix.1 h).length_le
  rw [List.length_drop] at this
  have h1 : a.data.toList.length = a.size := Array.length_toList
  have h2 : s.data.toList.length = s.size := Array.length_toList
  omega
/-- The texts of a choice, up to the n-th. -/
def altR (s : ByteArray) (T : List Bool) (i : Nat) (al : List ByteArray) : List Bool := (List.range (s.size + 1)).map fun j => T.getD j false || al.any fun a => preB a s i && decide (j = i + a.size)
theorem altR_len (s : ByteArray) (T : List Bool) (i : Nat) (al : List ByteArray) : (altR s T i al).length = s.size + 1 := by simp [altR]
theorem altR_at (s : ByteArray) (T : List Bool) (i j : Nat) (al : List ByteArray) (h : j < s.size + 1) : (altR s T i al).getD j false = (T.getD j false || al.any fun a => preB a s i && decide (j = i + a.size)) := by
  simp [altR, List.getD_eq_getElem?_getD, h]
theorem altR_nil (s : ByteArray) (T : List Bool) (i : Nat) (hl : T.length = s.size + 1) : altR s T i [] = T := by
  refine bools_ext (by rw [altR_len, hl]) fun j hj => ?_
  rw [altR_len] at hj
  rw [altR_at _ _ _ _ _ hj]; simp
theorem altR_yes (s : ByteArray) (T : List Bool) (i : Nat) (al : List ByteArray) (a : ByteArray) (h : preB a s i = true) (hi : i ≤ s.size) : altR s T i (al ++ [a]) = (altR s T i al).set (i + a.size) true := by
  have := pre_le h hi
  refine bools_ext (by rw [altR_len, List.length_set, altR_len]) fun j hj => ?_
  rw [altR_len] at hj
  rw [altR_at _ _ _ _ _ hj, getD_set _ _ _ (by rw [altR_len]; omega), altR_at _ _ _ _ _ hj, List.any_append]
  simp [h, Bool.or_assoc]
theorem altR_no (s : ByteArray) (T : List Bool) (i : Nat) (al : List ByteArray) (a : ByteArray) (h : preB a s i = false) : altR s T i (al ++ [a]) = altR s T i al := by
  refine bools_ext (by rw [altR_len, altR_len]) fun j hj => ?_
  rw [altR_len] at hj
  rw [altR_at _ _ _ _ _ hj, altR_at _ _ _ _ _ hj, List.any_append]
  simp [h]
theorem addR_alts {g : Gl} (hk : g.k = 5) (s : ByteArray) (T : List Bool) (i : Nat) : addR g s T i = altR s T i g.al := by
  unfold addR altR goB; rw [hk]; rfl
/-- All places from one on, up to another. -/
def anyR (s : ByteArray) (T : List Bool) (i k : Nat) : List Bool := (List.range (s.size + 1)).map fun j => T.getD j false || (decide (i ≤ j) && decide (j < k))
theorem anyR_len (s : ByteArray) (T : List Bool) (i k : Nat) : (anyR s T i k).length = s.size + 1 := by simp [anyR]
theorem anyR_at (s : ByteArray) (T : List Bool) (i k j : Nat) (h : j < s.size + 1) : (anyR s T i k).getD j false = (T.getD j false || (decide (i ≤ j) && decide (j < k))) := by
  simp [anyR, List.getD_eq_getElem?_getD, h]
theorem anyR_start (s : ByteArray) (T : List Bool) (i : Nat) (hl : T.length = s.size + 1) : anyR s T i i = T := by
  refine bools_ext (by rw [anyR_len, hl]) fun j hj => ?_
  rw [anyR_len] at hj
  rw [anyR_at _ _ _ _ _ hj, show (decide (i ≤ j) && decide (j < i)) = false by rw [Bool.and_eq_false_iff]; simp; omega, Bool.or_false]
theorem anyR_step (s : ByteArray) (T : List Bool) (i k : Nat) (h1 : i ≤ k) (h2 : k ≤ s.size) : anyR s T i (k + 1) = (anyR s T i k).set k true := by
  refine bools_ext (by rw [anyR_len, List.length_set, anyR_len]) fun j hj => ?_
  rw [anyR_len] at hj
  rw [anyR_at _ _ _ _ _ hj, getD_set _ _ _ (by rw [anyR_len]; omega), anyR_at _ _ _ _ _ hj, Bool.or_assoc]
  congr 1
  rw [Bool.eq_iff_iff]; simp only [Bool.or_eq_true, Bool.and_eq_true, decide_eq_true_eq]; omega
theorem addR_any {g : Gl} (hk : g.k = 2) (s : ByteArray) (T : List Bool) (i : Nat) : addR g s T i = anyR s T i (s.size + 1) := by
  apply List.ext_getElem?
  intro j
  unfold addR anyR goB; rw [hk]
  simp only [List.getElem?_map, if_true]
  by_cases hj : j < s.size + 1
  · simp [hj]
  · simp [hj]
end Go.Proofs.YteahbdhhcfoiiaaDoor
/- name: the reader's choice. -/
namespace Go.Proofs.YteahbdhhcfoiiaaDoor
set_option linter.unusedVariables false
set_option linter.unusedSimpArgs false
open Go.RowKit W
theorem step_append_at {P : Program} {ops : Array Oper} {o : Oper} {a : Act} {w : World} {K : Act → World → Prop} {Q : Exit → Act → World → Prop} {E : Prop} (hgd : o.guard = none) (s x : Operand) (t : TypeId)
    (ho : o.op = .call { callee := .builtin .append, args := #[s, x], argTypes := #[t, t] })
    (base : Nat) (e : TypeId) (i : TypeInfo) (z : Value) (size bytes : Nat) (ht : P.underlying t = some (.slice e)) (hi : P.info? e = some i) (hz : i.zero = some z)
    (hsize : i.size = size) (hby : i.bytes = bytes) (hzs : z.cells.size = size) (hsz : 0 < size)
    (v : Value) (n : Nat) (xs : List Value) (hs : a.eval s = v) (hown : w.ownsRow base e size v n xs)
    (ad : Addr) (m c : Nat) (news : List Value) (hx : a.eval x = .slice (some ad) m c) (hl : news.length = m * size) (hnews : ∀ j u, news[j]? = some u → w.cell? (ad.add j) = some u) (h1 : ∀ u ∈ news, u.oneCell' = true)
    (h63 : n + m ≤ maxLen) (hbytes : (n + m) * bytes ≤ 140737488355328) (hbase : base ≤ w.heap.size)
    (h : ∀ v' w', w'.ownsRow base e size v' (n + m) (xs ++ news) → w.grownBy w' v.ownBlock → (v'.ownBlock = v.ownBlock ∨ v'.ownBlock = some w.heap.size) → K (a.put o.dst v') w') :
    if Region.wanted o (yielded ops a.tmps) = true then Oper.wp P o a w K Q else E := by
  have hw : Region.wanted o (yielded ops a.tmps) = true := by simp [Region.wanted, hgd]
  rw [if_pos hw]
  obtain ⟨v', w', hr, h2, h3, h4, h5⟩ := run_append_own_at (P := P) w base t o.type e i z size bytes ht hi hz hsize hby hzs hsz v n xs hown ad m c news hl hnews h1 h63 hbytes hbase
  unfold Oper.wp execOp
  simp only [ho, resolve, invoke, builtin, Sem.run_bind, Sem.run_pure, Result.andThen_ok, List.map_toArray, List.map_cons, List.map_nil, hs, hx, hr]
  exact h _ _ h2 h3 h5
/-- A block is of a type. -/
def Sh (w : World) (g : Nat) (t : TypeId) : Prop := ∃ cs fr, w.heap[g]? = some (.cells cs t fr)
theorem Sh.of {w : World} {g : Nat} {t : TypeId} {cs : Array Value} {fr : Nat × Nat} (h : w.heap[g]? = some (.cells cs t fr)) : Sh w g t := ⟨cs, fr, h⟩
theorem Sh.set {w : World} {g : Nat} {t : TypeId} (h : Sh w g t) (b o : Nat) (u : Value) : Sh (w.setCell ⟨b, o, none⟩ u) g t := by
  obtain ⟨cs, fr, h⟩ := h
  by_cases e : b = g
  · subst e
    exact ⟨cs.setIfInBounds o u, fr, by simp [World.setCell, Array.getElem?_modify, h]⟩
  · exact ⟨cs, fr, (Below.heap_setCell w ⟨b, o, none⟩ u g (fun q => e q.symm)).trans h⟩
theorem Sh.drewN {w : World} {g : Nat} {t : TypeId} (h : Sh w g t) (n : Nat) : Sh (w.drewN n) g t := h
theorem Sh.lt {w : World} {g : Nat} {t : TypeId} (h : Sh w g t) : g < w.heap.size := by obtain ⟨cs, fr, h⟩ := h; exact blk_lt h
theorem TyT.set {B : Nat} {w : World} {a : Option Addr} {ps : List ByteArray} (h : TyT B w a ps) {b : Nat} {t : TypeId} (s : Sh w b t) (ht : t ≠ 9) (o : Nat) (u : Value) : TyT B (w.setCell ⟨b, o, none⟩ u) a ps := by
  obtain ⟨cs, fr, s⟩ := s
  exact h.upd ((Upd.refl b [t] w).set s (Nat.le_refl _) (by simp) u) (by simpa using Ne.symm ht)
theorem TyT.drewN {B : Nat} {w : World} {a : Option Addr} {ps : List ByteArray} (h : TyT B w a ps) (n : Nat) : TyT B (w.drewN n) a ps := h.later (below_drewN (Below.refl _ _) n)
/-- A choice that is being made. -/
def BoxC (w : World) (b : Nat) (v : Value) : Prop := w.heap[b]? = some (.cells #[.int .i64 5, .string ⟨#[]⟩, v] 66 (0, 0))
theorem BoxC.upd {B : Nat} {T : List TypeId} {w w' : World} {b : Nat} {v : Value} (h : BoxC w b v) (u : Upd B T w w') (ht : 66 ∉ T) : BoxC w' b v := u.blk h ht
theorem BoxC.cells {w : World} {b : Nat} {v : Value} (h : BoxC w b v) : w.cell? ⟨b, 0, none⟩ = some (.int .i64 5) ∧ w.cell? ⟨b, 1, none⟩ = some (.string ⟨#[]⟩) ∧ w.cell? ⟨b, 2, none⟩ = some v ∧ (∀ o, w.frozen? ⟨b, o, none⟩ = false) ∧ b < w.heap.size := by
  unfold BoxC at h
  exact ⟨by simp [World.cell?, h], by simp [World.cell?, h], by simp [World.cell?, h], fun o => by simp [World.frozen?, h], blk_lt h⟩
theorem BoxC.put {w : World} {b : Nat} {v u : Value} (h : BoxC w b v) : BoxC (w.setCell ⟨b, 2, none⟩ u) b u := by
  unfold BoxC at *
  simp [World.setCell, Array.getElem?_modify, h]
theorem Zero3.set_other {w : World} {b : Nat} (h : Zero3 w b) {p : Addr} (n : b ≠ p.block) (u : Value) : Zero3 (w.setCell p u) b := (Below.heap_setCell w p u b n).trans h
def ChoicePost (w : World) (rb i : Nat) (s : ByteArray) (e : Ending) (w' : World) : Prop :=
  Go1 w w' rb s (choiceA s (s.size + 1) i []).1 ∧ match (choiceA s (s.size + 1) i []).2 with
  | .error c => e = .returned (.tuple #[.agg #[.int .i64 0, .string ⟨#[]⟩, .slice none 0 0], .int .i64 c])
  | .ok l => ∃ a c, e = .returned (.tuple #[.agg #[.int .i64 5, .string ⟨#[]⟩, .slice a l.length c], .int .i64 0]) ∧ TyT w.heap.size w' a l ∧ l.length ≤ c
set_option maxRecDepth 100000 in
set_option maxHeartbeats 8000000 in
theorem rchoice_spec {w : World} {rb i : Nat} {s : ByteArray} (h : Rd w rb s i) (hs : s.size ≤ 400) : Calls Tryd.prog 79 #[.pointer (some ⟨rb, 0, none⟩)] w (ChoicePost w rb i s) := by
  obtain ⟨E, hE⟩ : ∃ E, choiceA s (s.size + 1) i [] = E := ⟨_, rfl⟩
  have HP : Hid (∀ e w', (Go1 w w' rb s E.1 ∧ match E.2 with
    | .error c => e = .returned (.tuple #[.agg #[.int .i64 0, .string ⟨#[]⟩, .slice none 0 0], .int .i64 c])
    | .ok l => ∃ a c, e = .returned (.tuple #[.agg #[.int .i64 5, .string ⟨#[]⟩, .slice a l.length c], .int .i64 0]) ∧ TyT w.heap.size w' a l ∧ l.length ≤ c) → ChoicePost w rb i s e w') := by
    intro e w' h; unfold ChoicePost; rw [hE]; exact h
  have HE := hide hE
  clear hE
  have HS := hide hs
  have H := hide h
  have le := h.le
  have lr := h.lt
  clear h
  go_enter Tryd.func79, Tryd.ntmps79
  go_wp2_with fail
  go_loopg [] (s.size - i) (fun k wr => ∃ (j f : Nat) (acc : List ByteArray) (v : Value), j + k = s.size ∧ s.size < f + j ∧ acc.length ≤ 15 ∧ Hid (Go1 w wr rb s j) ∧ Hid (Zero3 wr w.heap.size) ∧ Hid (BoxC wr (w.heap.size + 1) v) ∧ Hid (wr.ownsRow w.heap.size 9 1 v acc.length (acc.map Value.string)) ∧ Hid (choiceA s f j acc = E))
  case atStart =>
    refine ⟨i, s.size + 1, [], .slice none 0 0, by omega, by omega, by simp, ?_, ?_, ?_, hide (World.ownsRow_nil _ _ _ _), HE⟩
    · exact (Go1.refl H.out).later ((Below.refl _ _).alloc (Nat.le_refl _) _ |>.alloc (by simp) _)
    · exact new1 _ _ _
    · exact new2 _ _ _
  case round =>
    obtain ⟨j, f, acc, v, hj, hf, ha, G, Z, X, O, D⟩ := hrel
    obtain ⟨x0, x1, x2, xf, xl⟩ := X.out.cells
    have xf2 := xf 2
    clear xf
    have KT := fun W (q : Rd W rb s j) => text_spec q hs
    obtain ⟨T, hT⟩ : ∃ T, textE s (s.size + 1) j = T := ⟨_, rfl⟩
    have tge := textE_ge s (s.size + 1) j
    have tle := textE_le s (s.size + 1) j (by omega)
    rw [hT] at KT tge tle
    have HT := hide hT
    clear hT HE H
    obtain ⟨i0, hi0, hz0, hz1, hz2⟩ := info_parts info_txt
    have HI2 : Hid (Tryd.prog.info? 9 = some i0 ∧ i0.zero = some (.string ByteArray.empty) ∧ i0.size = 1 ∧ i0.bytes = 16) := ⟨hi0, hz0, hz1, hz2⟩
    clear hi0 hz0 hz1 hz2
    go_upto_region 2 with (fail)
    go_cut [] from 6 to 42 (fun wx => ∃ v', Hid (Go1 w wx rb s T) ∧ Hid (Zero3 wx w.heap.size) ∧ Hid (BoxC wx (w.heap.size + 1) v') ∧ Hid (wx.ownsRow w.heap.size 9 1 v' (acc.length + 1) ((acc ++ [s.extract j T]).map Value.string)))
    case first =>
      go_region_law (first
        | (go_simp; go_at_call 80; go_loud (refine Calls.mono (KT _ ⟨G.out.rd.blk, G.out.rd.le⟩) ?_); go_loud (rintro e w3 ⟨rfl, g3⟩); have G3 := hide g3; have X3 := hide (BoxC.upd (show BoxC wr.drew (w.heap.size + 1) v from X.out) g3.upd (by decide)); have O3 := hide (Upd.row g3.upd (show World.ownsRow wr.drew w.heap.size 9 1 v acc.length (acc.map Value.string) from O.out) (by decide)); have Z3 := hide (Zero3.upd (show Zero3 wr.drew w.heap.size from Z.out) g3.upd (by decide)); obtain ⟨y0, y1, y2, yf, yl⟩ := X3.out.cells; have yf2 := yf 2; clear g3 yf)
        | (go_loud (refine step_append_at rfl _ _ 26 rfl w.heap.size 9 i0 (.string ByteArray.empty) 1 16 Tryd.underlying26 HI2.out.1 HI2.out.2.1 HI2.out.2.2.1 HI2.out.2.2.2 rfl (by decide) v acc.length (acc.map Value.string) ?_ (O3.out.alloc _) ⟨w3.heap.size, 0, none⟩ 1 1 [.string (s.extract j T)] ?_ rfl (cell_one_new _ _ _) one_txt ?_ ?_ ?_ ?_);
           (rfl); (rfl); (unfold maxLen; omega); (omega); (go_loud (have := O3.out; have := G3.out.upd.size; have := G.out.upd.size; simp at *; omega));
           (go_loud (intro v4 w4 o4 gr4 _; obtain ⟨A4, c4, rfl, _, _⟩ := own_form o4; have X4 := hide (X3.out.upd (Upd.trans (Upd.of_below ((Below.refl _ _).alloc (Nat.le_refl _) _)) (Upd.of_grown (O3.out.alloc _) gr4)) (by decide)); obtain ⟨p0, p1, p2, pf, pl⟩ := X4.out.cells; have pf2 := pf 2; have O4 := hide o4; have GR4 := hide gr4; clear pf o4 gr4))))
      all_goals
        go_wp2_with fail
        go_meet
        case rel =>
          exact ⟨_, hide (((((G.out.later ((Below.refl _ _).drew)).trans G3.out).later ((Below.refl _ _).alloc (Nat.le_refl _) _)).grown_new lr GR4.out (fun k hk => (O3.out.lt k hk).1)).set_new lr (by simp) _),
            hide ((Z3.out.upd (Upd.trans (Upd.of_below ((Below.refl _ _).alloc (Nat.le_refl _) _)) (Upd.of_grown (O3.out.alloc _) GR4.out)) (by decide)).set_other (by simp) _),
            hide X4.out.put, hide (by rw [List.map_append]; exact ((Upd.refl w.heap.size [66] _).set X4.out (by simp) (by simp) _).row O4.out (by decide))⟩
    case rest =>
      obtain ⟨v2, G2, Z2, X2, O2⟩ := hcut
      clear x0 x1 x2 xl xf2 G Z X O KT
      have kn := next_spec G2.out.rd hs
      obtain ⟨x, hx⟩ : ∃ x, ((nx s T).toNat : Int) = x := ⟨_, rfl⟩
      rw [hx] at kn
      have HX := hide hx
      obtain ⟨p0, p1, p2, pf, pl⟩ := X2.out.cells
      obtain ⟨z0, z1, z2, zf, zl⟩ := Z2.out.cells
      have zf0 := zf 0
      have zf1 := zf 1
      have zf2 := zf 2
      have c1 := G2.out.rd.c1
      have f1 := G2.out.rd.f1
      have HL : Hid ((acc ++ [s.extract j T]).length = acc.length + 1) := by show _ = _; simp
      have ex : ∀ y : Nat, x = y → nx s T = UInt8.ofNat y → True := fun _ _ _ => trivial
      have bk : ∀ y : Nat, y < 256 → x = (y : Int) → nx s T = UInt8.ofNat y := fun y hy e => UInt8.toNat_inj.1 (by rw [UInt8.toNat_ofNat']; omega)
      have jle : j ≤ s.size := by omega
      have BK := hide bk
      have O2' := hide O2.out
      obtain ⟨A2, C2, rfl, _, _⟩ := own_form O2.out
      clear hx pf zf ex bk
      by_cases y1 : x = 125
      · have m : nx s T = 125 := BK.out 125 (by omega) y1
        have jl2 : T < s.size := lt_of_nx (by rw [m]; decide)
        have F : Hid (E = (T + 1, .ok (acc ++ [s.extract j T]))) := by
          have := D.out; rw [choice_end hf jle (by rw [HT.out]; exact m), HT.out] at this; exact this.symm
        subst y1
        clear D m BK
        go_wp2_with fail
        refine kn.mono ?_
        rintro e w3 ⟨rfl, n3, rfl⟩
        go_wp2_with fail
        refine bodyPost_ret (by simp [results, Tryd.results79, go_sem, z0, z1, z2, p0, p1, p2]; try rfl) rfl ?_
        obtain ⟨a5, c5, e5, t5, le5⟩ := tyT_of_own O2.out HL.out
        injection e5 with e5 _ e6
        subst e5 e6
        have sr : Sh (wc.drewN n3) rb 60 := Sh.of G2.out.rd.blk
        have sz : Sh (wc.drewN n3) w.heap.size 66 := Sh.of Z2.out
        refine HP.out _ _ ?_
        rw [F.out]
        refine ⟨((((G2.out.drewN _).put (T + 1) jl2 (by omega)).set_new lr (by simp) _).set_new lr (by simp) _).set_new lr (by simp) _, _, _, ?_, ((((t5.drewN _).set sr (by decide) _ _).set (sz.set _ _ _) (by decide) _ _).set ((sz.set _ _ _).set _ _ _) (by decide) _ _).set (((sz.set _ _ _).set _ _ _).set _ _ _) (by decide) _ _, by rw [HL.out]; exact le5⟩
        rw [HL.out]
      · have y1' : (x == 125) = false := by rw [beq_eq_false_iff_ne]; exact y1
        have m1 : nx s T ≠ 125 := fun q => y1 (by have := HX.out; rw [q] at this; exact this.symm)
        clear y1
        go_wp2_with fail
        refine kn.mono ?_
        rintro e w3 ⟨rfl, n3, rfl⟩
        have kn2 := next_at (G2.out.drewN n3).rd hs x HX.out
        by_cases y2 : x = 44
        · have m : nx s T = 44 := BK.out 44 (by omega) y2
          have jl2 : T < s.size := lt_of_nx (by rw [m]; decide)
          subst y2
          by_cases q : acc.length = 15
          · have F : Hid (E = (T, .error 3)) := by
              have := D.out; rw [choice_many hf jle (by rw [HT.out]; exact m) (by omega), HT.out] at this; exact this.symm
            clear D m BK m1
            go_wp2_with fail
            refine kn2.mono ?_
            rintro e w4 ⟨rfl, n4, rfl⟩
            have q2 : (((acc.length + 1 : Nat) : Int) == 16) = true := by rw [beq_iff_eq]; omega
            go_wp2_with fail
            refine bodyPost_ret (by simp [results, Tryd.results79, go_sem, z0, z1, z2, p0, p1, p2]; try rfl) rfl ?_
            exact HP.out _ _ (by rw [F.out]; exact ⟨(((G2.out.drewN _).set_new lr (by simp) _).set_new lr (by simp) _).set_new lr (by simp) _, rfl⟩)
          · obtain ⟨t1, f', hf', hst⟩ := choice_step (acc := acc) hf jle (by rw [HT.out]; exact m) (by omega)
            rw [HT.out] at hst hf'
            have D2 : Hid (choiceA s f' (T + 1) (acc ++ [s.extract j T]) = E) := by have := D.out; rw [hst] at this; exact this
            have q2 : (((acc.length + 1 : Nat) : Int) == 16) = false := by rw [beq_eq_false_iff_ne]; omega
            clear D m BK m1 hst
            go_wp2_with fail
            refine kn2.mono ?_
            rintro e w4 ⟨rfl, n4, rfl⟩
            go_wp2_with fail
            go_roundg (s.size - (T + 1))
            case measure => omega
            case rel => exact ⟨T + 1, f', acc ++ [s.extract j T], _, by omega, hf', by have := HL.out; omega, hide ((G2.out.drewN _).put (T + 1) jl2 (by omega)), hide (Zero3.set_other (Z2.out.upd (Upd.of_below (B := 0) (T := []) (below_drewN (Below.refl _ _) _)) (by simp)) (by show w.heap.size ≠ rb; omega) _), hide (BoxC.upd (BoxC.upd X2.out (Upd.of_below (B := 0) (T := []) (below_drewN (Below.refl _ _) _)) (by simp)) ((G2.out.drewN _).rd.chg _) (by decide)), hide (by rw [HL.out]; exact Upd.row ((G2.out.drewN _).rd.chg _) (Upd.row (Upd.of_below (B := 0) (T := []) (below_drewN (Below.refl _ _) _)) O2.out (by simp)) (by decide)), D2⟩
        · have y2' : (x == 44) = false := by rw [beq_eq_false_iff_ne]; exact y2
          have m2 : nx s T ≠ 44 := fun q => y2 (by have := HX.out; rw [q] at this; exact this.symm)
          have F : Hid (E = (T, .error 31)) := by
            have := D.out; rw [choice_bad hf jle (by rw [HT.out]; exact m1) (by rw [HT.out]; exact m2), HT.out] at this; exact this.symm
          clear D m1 m2 BK y2
          go_wp2_with fail
          refine kn2.mono ?_
          rintro e w4 ⟨rfl, n4, rfl⟩
          go_wp2_with fail
          refine bodyPost_ret (by simp [results, Tryd.results79, go_sem, z0, z1, z2, p0, p1, p2]; try rfl) rfl ?_
          exact HP.out _ _ (by rw [F.out]; exact ⟨(((G2.out.drewN _).set_new lr (by simp) _).set_new lr (by simp) _).set_new lr (by simp) _, rfl⟩)
end Go.Proofs.YteahbdhhcfoiiaaDoor
/- name: how a piece is tried: the closures. -/
namespace Go.Proofs.YteahbdhhcfoiiaaDoor
set_option linter.unusedVariables false
set_option linter.unusedSimpArgs false
open Go.RowKit W
/-- A block of truths. -/
def Bo (w : World) (b : Nat) (T : List Bool) : Prop := w.heap[b]? = some (.cells (T.map Value.bool).toArray 4 (0, 0))
theorem Bo.at {w : World} {b : Nat} {T : List Bool} (h : Bo w b T) (i : Nat) (hi : i < T.length) : w.cell? ⟨b, i, none⟩ = some (.bool (T.getD i false)) := by
  unfold Bo at h
  rw [cell_of_row w b i _ _ (0, 0) h]
  simp [List.getD_eq_getElem?_getD, hi]
theorem Bo.free {w : World} {b : Nat} {T : List Bool} (h : Bo w b T) (i : Nat) : w.frozen? ⟨b, i, none⟩ = false := by
  unfold Bo at h
  simp [World.frozen?, h]
theorem Bo.put {w : World} {b : Nat} {T : List Bool} (h : Bo w b T) (i : Nat) : Bo (w.setCell ⟨b, i, none⟩ (.bool true)) b (T.set i true) := by
  unfold Bo at *
  rw [List.map_set]
  simp [World.setCell, Array.getElem?_modify, h]
theorem Bo.upd {B : Nat} {T : List Bool} {U : List TypeId} {w w' : World} {b : Nat} (h : Bo w b T) (u : Upd B U w w') (hb : b < B ∨ 4 ∉ U) : Bo w' b T := by
  unfold Bo at *
  rw [u.block b (blk_lt h) (hb.imp id (fun q cs t fr e => by rw [h] at e; injection e with e; injection e with _ e; rw [← e]; exact q))]
  exact h
/-- A piece is tried at a node; the places that it leads to are put down. -/
structure Tr (w0 W : World) (gb sb nb ab : Nat) (g : Gl) (a : Option Addr) (c : Nat) (s : ByteArray) (T : List Bool) : Prop where
  below : Below w0.heap.size w0 W
  al : IsTxts w0 a g.al
  g1 : W.cell? ⟨gb, 1, none⟩ = some (.string g.t)
  g2 : W.cell? ⟨gb, 2, none⟩ = some (.slice a g.al.length c)
  sc : W.cell? ⟨sb, 0, none⟩ = some (.string s)
  nc : W.cell? ⟨nb, 0, none⟩ = some (.slice (some ⟨ab, 0, none⟩) (s.size + 1) (s.size + 1))
  bo : Bo W ab T
  tl : T.length = s.size + 1
  lab : w0.heap.size ≤ ab
  ngb : gb ≠ ab
  nsb : sb ≠ ab
  nnb : nb ≠ ab
theorem Tr.drewN {w0 W : World} {gb sb nb ab : Nat} {g : Gl} {a : Option Addr} {c : Nat} {s : ByteArray} {T : List Bool} (h : Tr w0 W gb sb nb ab g a c s T) (n : Nat) : Tr w0 (W.drewN n) gb sb nb ab g a c s T :=
  ⟨below_drewN h.below n, h.al, h.g1, h.g2, h.sc, h.nc, h.bo, h.tl, h.lab, h.ngb, h.nsb, h.nnb⟩
theorem Tr.put {w0 W : World} {gb sb nb ab : Nat} {g : Gl} {a : Option Addr} {c : Nat} {s : ByteArray} {T : List Bool} (h : Tr w0 W gb sb nb ab g a c s T) (i : Nat) : Tr w0 (W.setCell ⟨ab, i, none⟩ (.bool true)) gb sb nb ab g a c s (T.set i true) := by
  have ne : ∀ b o, b ≠ ab → (W.setCell ⟨ab, i, none⟩ (.bool true)).cell? ⟨b, o, none⟩ = W.cell? ⟨b, o, none⟩ := fun b o q => World.cell?_of_block (Below.heap_setCell W ⟨ab, i, none⟩ _ b q)
  exact ⟨h.below.setCell h.lab _, h.al, (ne _ _ h.ngb).trans h.g1, (ne _ _ h.ngb).trans h.g2, (ne _ _ h.nsb).trans h.sc, (ne _ _ h.nnb).trans h.nc, h.bo.put i, by rw [List.length_set]; exact h.tl, h.lab, h.ngb, h.nsb, h.nnb⟩
theorem Tr.upd {w0 W : World} {gb sb nb ab : Nat} {g : Gl} {a : Option Addr} {c : Nat} {s : ByteArray} {T : List Bool} (h : Tr w0 W gb sb nb ab g a c s T) (i : Nat) : Upd ab [4] W (W.setCell ⟨ab, i, none⟩ (.bool true)) :=
  (Upd.refl _ _ _).set h.bo (Nat.le_refl _) (by simp) _
def handV (nb : Nat) : Value := .func (.func 69) #[] #[.pointer (some ⟨nb, 0, none⟩)]
def TrPost (w0 W : World) (gb sb nb ab : Nat) (g : Gl) (a : Option Addr) (c : Nat) (s : ByteArray) (T : List Bool) (e : Ending) (w' : World) : Prop :=
  e = .returned (.tuple #[]) ∧ Tr w0 w' gb sb nb ab g a c s T ∧ Upd ab [4] W w'
set_option maxRecDepth 100000 in
set_option maxHeartbeats 4000000 in
theorem hand_spec {w0 W : World} {gb sb nb ab : Nat} {g : Gl} {a : Option Addr} {c : Nat} {s : ByteArray} {T : List Bool} (h : Tr w0 W gb sb nb ab g a c s T) (i : Nat) (hi : i < s.size + 1) (hs : s.size ≤ 200) :
    Calls Tryd.prog 69 #[.int .i64 (i : Int), .pointer (some ⟨nb, 0, none⟩)] W (TrPost w0 W gb sb nb ab g a c s (T.set i true)) := by
  have H := hide h
  have nc := h.nc
  have b0 := h.bo.at i (by rw [h.tl]; exact hi)
  have bf := h.bo.free i
  have bl := blk_lt h.bo
  clear h
  go_enter Tryd.func69, Tryd.ntmps69
  go_wp2_with fail
  go_end0
  exact ⟨rfl, H.out.put i, H.out.upd i⟩
set_option maxRecDepth 100000 in
set_option maxHeartbeats 4000000 in
theorem any_spec {w0 W : World} {gb sb nb ab : Nat} {g : Gl} {a : Option Addr} {c : Nat} {s : ByteArray} {T : List Bool} (h : Tr w0 W gb sb nb ab g a c s T) (i : Nat) (hi : i < s.size + 1) (hs : s.size ≤ 200) (hk : g.k = 2) :
    Calls Tryd.prog 88 #[.int .i64 (i : Int), handV nb, .pointer (some ⟨sb, 0, none⟩)] W (TrPost w0 W gb sb nb ab g a c s (addR g s T i)) := by
  rw [addR_any hk]
  have H := hide h
  have tl := hide h.tl
  unfold handV
  clear h hk
  go_enter Tryd.func88, Tryd.ntmps88
  go_wp2_with fail
  go_loopw [5] (fun t wr => ∃ q : Nat, i ≤ q ∧ q ≤ s.size + 1 ∧ t = .int .i64 (q : Int) ∧ Hid (Tr w0 wr gb sb nb ab g a c s (anyR s T i q)) ∧ Hid (Upd ab [4] W wr)) (fun t _ => s.size + 1 - (intOf t).toNat)
  case atStart => exact ⟨i, by omega, by omega, rfl, hide (by rw [anyR_start _ _ _ tl.out]; exact H.out), hide (Upd.refl _ _ _)⟩
  case round =>
    obtain ⟨q, h1, h2, rfl, R, U⟩ := hrel
    have sc := R.out.sc
    by_cases hq : q ≤ s.size
    · have kh := hand_spec R.out q (by omega) hs
      rw [← anyR_step s T i q h1 hq] at kh
      clear H
      go_wp2_with (go_at_call 69; refine Calls.mono kh ?_; rintro e w2 ⟨rfl, t2, u2⟩; have T2 := hide t2; have U2 := hide u2; clear t2 u2)
      go_roundw
      case rel => exact ⟨q + 1, by omega, by omega, by go_num, T2, hide (U.out.trans U2.out)⟩
      case measure => simp [intOf]; omega
    · obtain rfl : q = s.size + 1 := by omega
      go_wp2_with fail
      go_end0
      exact ⟨rfl, R.out, U.out⟩
set_option maxRecDepth 100000 in
set_option maxHeartbeats 4000000 in
theorem one_spec {w0 W : World} {gb sb nb ab : Nat} {g : Gl} {a : Option Addr} {c : Nat} {s : ByteArray} {T : List Bool} (h : Tr w0 W gb sb nb ab g a c s T) (i : Nat) (hi : i < s.size + 1) (hs : s.size ≤ 200) (hk : g.k = 3) :
    Calls Tryd.prog 89 #[.int .i64 (i : Int), handV nb, .pointer (some ⟨sb, 0, none⟩)] W (TrPost w0 W gb sb nb ab g a c s (addR g s T i)) := by
  have H := hide h
  have sc := h.sc
  unfold handV
  by_cases hq : i < s.size
  · have kh := hand_spec h (i + 1) (by omega) hs
    rw [← addR_one (g := g) (i := i) h.tl (show i + 1 < s.size + 1 by omega) (fun j _ => by unfold goB; rw [hk]; simp [hq])] at kh
    clear h hk
    go_enter Tryd.func89, Tryd.ntmps89
    go_wp2_with (go_at_call 69; refine Calls.mono kh ?_; rintro e w2 ⟨rfl, t2, u2⟩; have T2 := hide t2; have U2 := hide u2; clear t2 u2)
    go_end0
    exact ⟨rfl, T2.out, U2.out⟩
  · rw [addR_none h.tl (fun j _ => by unfold goB; rw [hk]; simp [hq])]
    clear h hk
    go_enter Tryd.func89, Tryd.ntmps89
    go_wp2_with fail
    go_end0
    exact ⟨rfl, H.out, Upd.refl _ _ _⟩
theorem idx_has (l : List UInt8) (c : UInt8) : (0 ≤ Lib.indexByte l c) ↔ l.contains c = true := by
  induction l with
  | nil => simp [Lib.indexByte]
  | cons x r ih =>
    unfold Lib.indexByte
    by_cases e : x = c
    · subst e; simp
    · have e1 : (x == c) = false := by rw [beq_eq_false_iff_ne]; exact e
      have e2 : ¬ c = x := fun q => e q.symm
      rw [e1, if_neg (by decide)]
      have := Lib.indexByte_ge r c
      by_cases z : Lib.indexByte r c = -1
      · rw [if_pos (by rw [z]; rfl)]
        simp only [List.contains_cons]
        rw [z] at ih
        have : r.contains c = false := by cases h : r.contains c with | false => rfl | true => exact absurd (ih.2 h) (by decide)
        rw [this, show (c == x) = false by rw [beq_eq_false_iff_ne]; exact e2]; decide
      · rw [if_neg (by rw [beq_iff_eq]; exact z)]
        simp only [List.contains_cons]
        rw [show (c == x) = false by rw [beq_eq_false_iff_ne]; exact e2, Bool.false_or, ← ih]; omega
theorem byte_back (b : UInt8) : ((b.toNat : Int)).toNat.toUInt8 = b := by simp
set_option maxRecDepth 100000 in
set_option maxHeartbeats 4000000 in
theorem cls_spec {w0 W : World} {gb sb nb ab : Nat} {g : Gl} {a : Option Addr} {c : Nat} {s : ByteArray} {T : List Bool} (h : Tr w0 W gb sb nb ab g a c s T) (i : Nat) (hi : i < s.size + 1) (hs : s.size ≤ 200) (hk : g.k = 4) :
    Calls Tryd.prog 90 #[.int .i64 (i : Int), handV nb, .pointer (some ⟨sb, 0, none⟩), .pointer (some ⟨gb, 0, none⟩)] W (TrPost w0 W gb sb nb ab g a c s (addR g s T i)) := by
  have H := hide h
  have sc := h.sc
  have g1 := h.g1
  unfold handV
  by_cases hq : i < s.size
  · have d1 : decide (i < s.size) = true := by simpa using hq
    obtain ⟨r, hr⟩ : ∃ r, r = Lib.indexByte g.t.data.toList s[i] := ⟨_, rfl⟩
    have kx := fun w => Tryd.strings_IndexByte g.t (s[i].toNat : Int) w
    rw [byte_back, ← hr] at kx
    have ix := idx_has g.t.data.toList s[i]
    rw [← hr] at ix
    have nx1 := nx_lt hq
    by_cases r0 : 0 ≤ r
    · have kh := fun n => hand_spec (h.drewN n) (i + 1) (by omega) hs
      rw [← addR_one (g := g) (i := i) h.tl (show i + 1 < s.size + 1 by omega) (fun j _ => by unfold goB; rw [hk]; have := ix.1 r0; rw [nx1, this]; simp [hq])] at kh
      have d2 : decide (0 ≤ r) = true := by simpa using r0
      clear h hk ix hr nx1
      go_enter Tryd.func90, Tryd.ntmps90
      go_wp2_with fail
      go_quiet ((go_at_call 91; exact Calls.quiet_of_same (kx _)))
      go_wp2_with (go_at_call 69; refine Calls.mono (kh _) ?_; rintro e w2 ⟨rfl, t2, u2⟩; have T2 := hide t2; have U2 := hide u2; clear t2 u2)
      go_end0
      exact ⟨rfl, T2.out, (Upd.of_below (below_drewN (Below.refl _ _) _)).trans U2.out⟩
    · have r1 : g.t.data.toList.contains s[i] = false := by cases q : g.t.data.toList.contains s[i] with | false => rfl | true => exact absurd (ix.2 q) r0
      rw [addR_none h.tl (fun j _ => by unfold goB; rw [hk]; rw [nx1, r1]; simp)]
      have d2 : decide (0 ≤ r) = false := by simpa using r0
      clear h hk ix hr nx1 r1
      go_enter Tryd.func90, Tryd.ntmps90
      go_wp2_with fail
      go_quiet ((go_at_call 91; exact Calls.quiet_of_same (kx _)))
      go_wp2_with fail
      go_end0
      exact ⟨rfl, H.out.drewN _, Upd.of_below (below_drewN (Below.refl _ _) _)⟩
  · have d1 : decide (i < s.size) = false := by simpa using hq
    rw [addR_none h.tl (fun j _ => by unfold goB; rw [hk]; simp [hq])]
    clear h hk
    go_enter Tryd.func90, Tryd.ntmps90
    go_wp2_with fail
    go_quiet (fail)
    go_wp2_with fail
    go_end0
    exact ⟨rfl, H.out.drewN _, Upd.of_below (below_drewN (Below.refl _ _) _)⟩
theorem pre_lib (x s : ByteArray) (i : Nat) : Lib.hasPrefix (s.extract i s.size).data.toList x.data.toList = preB x s i := by
  unfold Lib.hasPrefix preB
  rw [Lib.extract_to_end]
set_option maxRecDepth 100000 in
set_option maxHeartbeats 4000000 in
theorem txt_spec {w0 W : World} {gb sb nb ab : Nat} {g : Gl} {a : Option Addr} {c : Nat} {s : ByteArray} {T : List Bool} (h : Tr w0 W gb sb nb ab g a c s T) (i : Nat) (hi : i < s.size + 1) (hs : s.size ≤ 200) (h2 : g.k ≠ 2) (h3 : g.k ≠ 3) (h4 : g.k ≠ 4) (h5 : g.k ≠ 5) :
    Calls Tryd.prog 94 #[.int .i64 (i : Int), handV nb, .pointer (some ⟨sb, 0, none⟩), .pointer (some ⟨gb, 0, none⟩)] W (TrPost w0 W gb sb nb ab g a c s (addR g s T i)) := by
  have H := hide h
  have sc := h.sc
  have g1 := h.g1
  have go : ∀ j, goB g s i j = (preB g.t s i && decide (j = i + g.t.size)) := fun j => by unfold goB; rw [if_neg h2, if_neg h3, if_neg h4, if_neg h5]
  have kx := fun w => Tryd.strings_HasPrefix (s.extract i s.size) g.t w
  rw [pre_lib] at kx
  have le : i ≤ s.size := by omega
  unfold handV
  by_cases hq : preB g.t s i = true
  · have lp := pre_le hq le
    have kh := fun n => hand_spec (h.drewN n) (i + g.t.size) (by omega) hs
    rw [← addR_one (g := g) (i := i) h.tl (show i + g.t.size < s.size + 1 by omega) (fun j _ => by rw [go, hq, Bool.true_and])] at kh
    rw [hq] at kx
    clear h go h2 h3 h4 h5 hq
    go_enter Tryd.func94, Tryd.ntmps94
    go_wp2_with fail
    go_quiet ((go_at_call 93; exact Calls.quiet_of_same (kx _)))
    go_wp2_with (go_at_call 69; refine Calls.mono (kh _) ?_; rintro e w2 ⟨rfl, t2, u2⟩; have T2 := hide t2; have U2 := hide u2; clear t2 u2)
    go_end0
    exact ⟨rfl, T2.out, (Upd.of_below (below_drewN (Below.refl _ _) _)).trans U2.out⟩
  · have hq' : preB g.t s i = false := by simpa using hq
    rw [addR_none h.tl (fun j _ => by rw [go, hq', Bool.false_and])]
    rw [hq'] at kx
    clear h go h2 h3 h4 h5 hq hq'
    go_enter Tryd.func94, Tryd.ntmps94
    go_wp2_with fail
    go_quiet ((go_at_call 93; exact Calls.quiet_of_same (kx _)))
    go_wp2_with fail
    go_end0
    exact ⟨rfl, H.out.drewN _, Upd.of_below (below_drewN (Below.refl _ _) _)⟩
set_option maxRecDepth 100000 in
set_option maxHeartbeats 4000000 in
theorem alt_spec {w0 W : World} {gb sb nb ab : Nat} {g : Gl} {a : Option Addr} {c : Nat} {s : ByteArray} {T : List Bool} (h : Tr w0 W gb sb nb ab g a c s T) (i : Nat) (hi : i < s.size + 1) (hs : s.size ≤ 200) (hk : g.k = 5) (hn : g.al.length ≤ 140737488355328) :
    Calls Tryd.prog 92 #[.int .i64 (i : Int), handV nb, .pointer (some ⟨gb, 0, none⟩), .pointer (some ⟨sb, 0, none⟩)] W (TrPost w0 W gb sb nb ab g a c s (addR g s T i)) := by
  rw [addR_alts hk]
  have H := hide h
  have tl := hide h.tl
  have g2 := h.g2
  obtain ⟨n, hnn⟩ : ∃ n, n = g.al.length := ⟨_, rfl⟩
  have HN := hide hnn
  rw [← hnn] at g2 hn
  have le : i ≤ s.size := by omega
  unfold handV
  clear h hk hnn
  go_enter Tryd.func92, Tryd.ntmps92
  go_wp2_with fail
  go_loopw [11] (fun t wr => ∃ q : Nat, q ≤ n ∧ t = .int .i64 (q : Int) ∧ Hid (Tr w0 wr gb sb nb ab g a c s (altR s T i (g.al.take q))) ∧ Hid (Upd ab [4] W wr)) (fun t _ => n - (intOf t).toNat)
  case atStart => exact ⟨0, by omega, rfl, hide (by rw [List.take_zero, altR_nil _ _ _ tl.out]; exact H.out), hide (Upd.refl _ _ _)⟩
  case round =>
    obtain ⟨q, h1, rfl, R, U⟩ := hrel
    have sc := R.out.sc
    by_cases hq : q < n
    · have qa : q < g.al.length := by have := HN.out; omega
      obtain ⟨b, o, rfl, LA⟩ := R.out.al.resolve_left (by intro e; rw [e] at qa; simp at qa)
      have c0 := (R.out.below.cell (p := ⟨b, o + q, none⟩) LA.lt).trans (LA.cell q qa)
      have tk : g.al.take (q + 1) = g.al.take q ++ [g.al[q]] := by rw [List.take_succ_eq_append_getElem qa]
      obtain ⟨x, hx⟩ : ∃ x, x = g.al[q] := ⟨_, rfl⟩
      rw [← hx] at c0 tk
      have TK := hide tk
      have kx := fun w => Tryd.strings_HasPrefix (s.extract i s.size) x w
      rw [pre_lib] at kx
      clear hx tk LA H
      by_cases hp : preB x s i = true
      · have lp := pre_le hp le
        have kh := hand_spec R.out (i + x.size) (by omega) hs
        rw [← altR_yes s T i _ x hp le, ← TK.out] at kh
        rw [hp] at kx
        clear hp
        go_wp2_with first
          | (go_at_call 93; refine (kx _).mono ?_; rintro e w1 ⟨rfl, rfl⟩)
          | (go_at_call 69; refine Calls.mono kh ?_; rintro e w2 ⟨rfl, t2, u2⟩; have T2 := hide t2; have U2 := hide u2; clear t2 u2)
        go_roundw
        case rel => exact ⟨q + 1, by omega, by go_num, T2, hide (U.out.trans U2.out)⟩
        case measure => simp [intOf]; omega
      · have hp' : preB x s i = false := by simpa using hp
        have R2 : Hid (Tr w0 wr gb sb nb ab g (some ⟨b, o, none⟩) c s (altR s T i (g.al.take (q + 1)))) := by
          show Tr _ _ _ _ _ _ _ _ _ _ _
          rw [TK.out, altR_no s T i _ x hp']; exact R.out
        rw [hp'] at kx
        clear hp hp'
        go_wp2_with (go_at_call 93; refine (kx _).mono ?_; rintro e w1 ⟨rfl, rfl⟩)
        go_roundw
        case rel => exact ⟨q + 1, by omega, by go_num, R2, U⟩
        case measure => simp [intOf]; omega
    · obtain rfl : q = n := by omega
      have R2 : Hid (Tr w0 wr gb sb nb ab g a c s (altR s T i g.al)) := by
        have := R.out; rw [HN.out, List.take_length] at this; exact this
      go_wp2_with fail
      go_end0
      exact ⟨rfl, R2.out, U.out⟩
end Go.Proofs.YteahbdhhcfoiiaaDoor
/- name: trial; matchNode. -/
namespace Go.Proofs.YteahbdhhcfoiiaaDoor
set_option linter.unusedVariables false
set_option linter.unusedSimpArgs false
open Go.RowKit W
/-- How a piece is tried: the closure, over the piece's box and the node's. -/
def trialV (g : Gl) (gb sb : Nat) : Value :=
  if g.k = 2 then .func (.func 88) #[] #[.pointer (some ⟨sb, 0, none⟩)]
  else if g.k = 3 then .func (.func 89) #[] #[.pointer (some ⟨sb, 0, none⟩)]
  else if g.k = 4 then .func (.func 90) #[] #[.pointer (some ⟨sb, 0, none⟩), .pointer (some ⟨gb, 0, none⟩)]
  else if g.k = 5 then .func (.func 92) #[] #[.pointer (some ⟨gb, 0, none⟩), .pointer (some ⟨sb, 0, none⟩)]
  else .func (.func 94) #[] #[.pointer (some ⟨sb, 0, none⟩), .pointer (some ⟨gb, 0, none⟩)]
def TrialPost (W : World) (g : Gl) (a : Option Addr) (c : Nat) (s : ByteArray) (e : Ending) (w' : World) : Prop :=
  e = .returned (trialV g W.heap.size (W.heap.size + 1)) ∧ Below W.heap.size W w' ∧ w'.cell? ⟨W.heap.size, 1, none⟩ = some (.string g.t) ∧ w'.cell? ⟨W.heap.size, 2, none⟩ = some (.slice a g.al.length c) ∧ w'.cell? ⟨W.heap.size + 1, 0, none⟩ = some (.string s) ∧ W.heap.size + 2 ≤ w'.heap.size
set_option maxRecDepth 100000 in
set_option maxHeartbeats 4000000 in
theorem trial_spec (g : Gl) (a : Option Addr) (c : Nat) (s : ByteArray) (W : World) : Calls Tryd.prog 68 #[.agg #[.int .i64 g.k, .string g.t, .slice a g.al.length c], .string s] W (TrialPost W g a c s) := by
  by_cases k2 : g.k = 2
  · rw [k2]
    go_enter Tryd.func68, Tryd.ntmps68
    go_wp2_with fail
    go_returns
    exact ⟨by rw [trialV, if_pos k2]; rfl, by go_grown, by simp [go_sem], by simp [go_sem], by simp [go_sem], by simp⟩
  by_cases k3 : g.k = 3
  · rw [k3]
    go_enter Tryd.func68, Tryd.ntmps68
    go_wp2_with fail
    go_returns
    exact ⟨by rw [trialV, if_neg k2, if_pos k3]; rfl, by go_grown, by simp [go_sem], by simp [go_sem], by simp [go_sem], by simp⟩
  by_cases k4 : g.k = 4
  · rw [k4]
    go_enter Tryd.func68, Tryd.ntmps68
    go_wp2_with fail
    go_returns
    exact ⟨by rw [trialV, if_neg k2, if_neg k3, if_pos k4]; rfl, by go_grown, by simp [go_sem], by simp [go_sem], by simp [go_sem], by simp⟩
  by_cases k5 : g.k = 5
  · rw [k5]
    go_enter Tryd.func68, Tryd.ntmps68
    go_wp2_with fail
    go_returns
    exact ⟨by rw [trialV, if_neg k2, if_neg k3, if_neg k4, if_pos k5]; rfl, by go_grown, by simp [go_sem], by simp [go_sem], by simp [go_sem], by simp⟩
  · have F : Hid (∀ gb sb, trialV g gb sb = .func (.func 94) #[] #[.pointer (some ⟨sb, 0, none⟩), .pointer (some ⟨gb, 0, none⟩)]) := fun gb sb => by rw [trialV, if_neg k2, if_neg k3, if_neg k4, if_neg k5]
    obtain ⟨k, hk⟩ : ∃ k, k = g.k := ⟨_, rfl⟩
    rw [← hk] at k2 k3 k4 k5 ⊢
    have e2 : (k == 2) = false := by rw [beq_eq_false_iff_ne]; exact k2
    have e3 : (k == 3) = false := by rw [beq_eq_false_iff_ne]; exact k3
    have e4 : (k == 4) = false := by rw [beq_eq_false_iff_ne]; exact k4
    have e5 : (k == 5) = false := by rw [beq_eq_false_iff_ne]; exact k5
    clear k2 k3 k4 k5 hk
    go_enter Tryd.func68, Tryd.ntmps68
    go_wp2_with fail
    go_returns
    exact ⟨by rw [F.out]; rfl, by go_grown, by simp [go_sem], by simp [go_sem], by simp [go_sem], by simp⟩
theorem info_bool : (Tryd.prog.info? 4).map (fun i => (i.zero, i.size, i.bytes)) = some (some (.bool false), 1, 1) := by kernel_rfl
theorem made_bools (n : Nat) : madeCells #[.bool false] n = ((List.replicate n false).map Value.bool).toArray := by
  apply Array.ext_getElem?
  intro j
  simp [madeCells, Nat.mod_one]
  by_cases h : j < n
  · simp [h]
  · simp [h]
/-- The places behind the first k pieces. -/
theorem bo_rep (n : Nat) : ((List.replicate n false).map Value.bool).toArray = Array.replicate n (Value.bool false) := by simp
theorem mid3 (w : World) (a b c : Obj) : (((w.alloc a).alloc b).alloc c).heap[w.heap.size + 1]? = some b :=
  (((Below.refl _ _).alloc (Nat.le_refl _) c : Below ((w.alloc a).alloc b).heap.size _ (((w.alloc a).alloc b).alloc c)).block _ (by simp)).trans (new2 w a b)
def foldR (s : ByteArray) (gs : List Gl) (k : Nat) : List Bool := (gs.take k).foldl (fun R g => stepR g s R) (startR s)
theorem foldR_zero (s : ByteArray) (gs : List Gl) : foldR s gs 0 = startR s := rfl
theorem foldR_step (s : ByteArray) (gs : List Gl) (k : Nat) (h : k < gs.length) : foldR s gs (k + 1) = stepR gs[k] s (foldR s gs k) := by
  unfold foldR
  rw [List.take_succ_eq_append_getElem h, List.foldl_append]; rfl
theorem foldR_len (s : ByteArray) (gs : List Gl) (k : Nat) (h : k ≤ gs.length) : (foldR s gs k).length = s.size + 1 := by
  cases k with
  | zero => rw [foldR_zero, startR_len]
  | succ k => rw [foldR_step s gs k h, stepR_len]
theorem foldR_all (s : ByteArray) (gs : List Gl) : (foldR s gs gs.length).getD s.size false = mNode gs s := by unfold foldR mNode; rw [List.take_length]
theorem start_set (s : ByteArray) : (List.replicate (s.size + 1) false).set 0 true = startR s := by unfold startR; rw [List.replicate_succ]; rfl
set_option maxRecDepth 100000 in
set_option maxHeartbeats 8000000 in
theorem mnode_spec (gs : List Gl) (gl : gs.length ≤ 140737488355328) (gw : ∀ g ∈ gs, GlW g) (s : ByteArray) (hs : s.size ≤ 200) (a : Option Addr) (c : Nat) (w : World) (ha : IsGs w a gs) :
    Calls Tryd.prog 49 #[.slice a gs.length c, .string s] w fun e w' => e = .returned (.bool (mNode gs s)) ∧ Below w.heap.size w w' := by
  have hmk : ∀ w : World, (Instr.makeSlice 93 (.int .i64 ((s.size : Int) + 1)) (.int .i64 ((s.size : Int) + 1))).run Tryd.prog w = .ok (.slice (some ⟨w.heap.size, 0, none⟩) (s.size + 1) (s.size + 1)) (w.alloc (.cells ((List.replicate (s.size + 1) false).map Value.bool).toArray 4)) := by
    intro w
    have := run_make_row' (P := Tryd.prog) 93 4 (.bool false) 1 Tryd.underlying93 info_bool rfl .i64 .i64 (s.size + 1) (by omega) (by omega) w
    rw [made_bools] at this
    rw [show ((s.size : Int) + 1) = ((s.size + 1 : Nat) : Int) by omega]
    exact this
  have HA := hide ha
  have GW := hide gw
  obtain ⟨m, hm⟩ : ∃ m, m = gs.length := ⟨_, rfl⟩
  have HM := hide hm
  rw [← hm] at gl ⊢
  clear ha gw hm
  go_enter Tryd.func49, Tryd.ntmps49
  go_upto_region 2 with (fail)
  refine abs_wp (fun W => Hid (Below w.heap.size w W) ∧ Hid (Bo W w.heap.size (List.replicate (s.size + 1) false))) ⟨hide ((Below.refl _ _).alloc (Nat.le_refl _) _), by show Bo _ _ _; unfold Bo; rw [bo_rep]; exact heap_alloc_new _ _⟩ ?_
  rintro W1 ⟨B1, O1⟩
  have p0 := O1.out.at 0 (by simp)
  have pf := O1.out.free 0
  have pl := blk_lt O1.out
  have S1 : Hid (Bo (W1.setCell ⟨w.heap.size, 0, none⟩ (.bool true)) w.heap.size (foldR s gs 0)) := by show Bo _ _ _; rw [foldR_zero, ← start_set]; exact O1.out.put 0
  go_wp2_with fail
  go_loopw [5, 20] (fun rv i wr => ∃ k rb : Nat, k ≤ m ∧ i = .int .i64 (k : Int) ∧ rv = .slice (some ⟨rb, 0, none⟩) (s.size + 1) (s.size + 1) ∧ w.heap.size ≤ rb ∧ Hid (Below w.heap.size w wr) ∧ Hid (Bo wr rb (foldR s gs k))) (fun _ i _ => m - (intOf i).toNat)
  case atStart => exact ⟨0, w.heap.size, by omega, rfl, rfl, Nat.le_refl _, hide (B1.out.setCell (by simp) _), S1⟩
  case round =>
    obtain ⟨k, rb, hk, rfl, rfl, hrb, B, O⟩ := hrel
    clear S1 p0 pf pl B1 O1
    by_cases hlt : k < m
    · have kg : k < gs.length := by have := HM.out; omega
      obtain ⟨g, o, rfl, LG⟩ := HA.out.resolve_left (by intro e; rw [e] at kg; simp at kg)
      have L1 := LG.later B.out
      obtain ⟨c0, c1, a5, c5, c2, _, _⟩ := L1.cell k kg
      obtain ⟨_, _, a6, c6, c7, i6, _⟩ := LG.cell k kg
      have e6 : a6 = a5 ∧ c6 = c5 := by
        have := (B.out.cell (p := ⟨g, o + k * 3 + 2, none⟩) LG.lt).trans c7
        rw [c2] at this
        injection this with this
        injection this with h1 h2 h3
        exact ⟨h1.symm, h3.symm⟩
      obtain ⟨rfl, rfl⟩ := e6
      have gwk := GW.out gs[k] (List.getElem_mem _)
      obtain ⟨x, hx⟩ : ∃ x, x = gs[k] := ⟨_, rfl⟩
      rw [← hx] at c0 c1 c2 i6 gwk
      have HX := hide hx
      have IT := hide i6
      have AN := gwk.n
      obtain ⟨R, hR⟩ : ∃ R, R = foldR s gs k := ⟨_, rfl⟩
      rw [← hR] at O
      have HR := hide hR
      have RL : Hid (R.length = s.size + 1) := by show _ = _; rw [hR, foldR_len s gs k (by omega)]
      have lo := blk_lt O.out
      obtain ⟨wo, rfl⟩ : ∃ wo, wo = wr := ⟨_, rfl⟩
      have kt := fun W => trial_spec x a6 c6 s W
      have sz := B.out.size
      clear hx i6 gwk hR c7 L1 LG
      go_wp2_with fail
      refine abs_calls (fun W => Hid (Below wo.heap.size wo W) ∧ Hid (W.cell? ⟨wo.heap.size + 2, 0, none⟩ = some (.slice (some ⟨wo.heap.size + 1, 0, none⟩) (s.size + 1) (s.size + 1))) ∧ Hid (Bo W (wo.heap.size + 1) (List.replicate (s.size + 1) false)) ∧ wo.heap.size + 3 ≤ W.heap.size) ⟨?_, ?_, ?_, ?_⟩ ?_
      · show Below _ _ _; go_grown
      · show _ = _; simp [go_sem]
      · show Bo _ _ _; unfold Bo; rw [bo_rep]; exact mid3 _ _ _ _
      · simp
      rintro W3 ⟨B3, N3, O3, Z3⟩
      refine Calls.mono (kt W3) ?_
      rintro e w2 ⟨he, b2, t1, t2, t3, t4⟩
      have T2 : Hid (Tr w w2 W3.heap.size (W3.heap.size + 1) (wo.heap.size + 2) (wo.heap.size + 1) x a6 c6 s (partR x s R 0)) := by
        rw [partR_zero]
        exact ⟨(B.out.trans (B3.out.mono sz)).trans (b2.mono (by omega)), IT.out, t1, t2, t3, (b2.cell (p := ⟨wo.heap.size + 2, 0, none⟩) (by simp only; omega)).trans N3.out, (b2.block _ (by omega)).trans O3.out, by simp, by omega, by omega, by omega, by omega⟩
      have RB2 : Hid (Bo w2 rb R) := by
        show Bo _ _ _
        exact ((b2.block rb (by omega)).trans (B3.out.block rb lo)).trans O.out
      clear b2 t1 t2 t3 kt c0 c1 c2 O O3 N3
      by_cases k2 : x.k = 2
      · rw [trialV, if_pos k2] at he
        subst he
        go_wp2_with fail
        go_loopw [33] (fun t w4 => ∃ q : Nat, q ≤ s.size + 1 ∧ t = .int .i64 (q : Int) ∧ Hid (Tr w w4 W3.heap.size (W3.heap.size + 1) (wo.heap.size + 2) (wo.heap.size + 1) x a6 c6 s (partR x s R q)) ∧ Hid (Upd (wo.heap.size + 1) [4] w2 w4)) (fun t _ => s.size + 1 - (intOf t).toNat)
        case atStart => exact ⟨0, by omega, rfl, T2, hide (Upd.refl _ _ _)⟩
        case round =>
          obtain ⟨q, hq, rfl, T4, U4⟩ := hrel
          by_cases hlt2 : q < s.size + 1
          · have b4 := RB2.out.upd U4.out (.inl (by omega))
            have r0 := b4.at q (by rw [RL.out]; exact hlt2)
            obtain ⟨tt, htt⟩ : ∃ tt, R.getD q false = tt := ⟨_, rfl⟩
            rw [htt] at r0
            cases tt
            · have T5 : Hid (Tr w wr W3.heap.size (W3.heap.size + 1) (wo.heap.size + 2) (wo.heap.size + 1) x a6 c6 s (partR x s R (q + 1))) := by show Tr _ _ _ _ _ _ _ _ _ _ _; rw [partR_skip _ _ _ _ htt]; exact T4.out
              clear htt b4
              go_wp2_with fail
              go_roundw
              case rel => exact ⟨q + 1, by omega, by go_num, T5, U4⟩
              case measure => simp [intOf]; omega
            · have kh := any_spec T4.out q hlt2 hs k2
              rw [← partR_add _ _ _ _ htt] at kh
              unfold handV at kh
              clear htt b4
              go_wp2_with (go_at_call 88; refine Calls.mono kh ?_; rintro e w5 ⟨rfl, t5, u5⟩; have T5 := hide t5; have U5 := hide u5; clear t5 u5)
              go_roundw
              case rel => exact ⟨q + 1, by omega, by go_num, T5, hide (U4.out.trans U5.out)⟩
              case measure => simp [intOf]; omega
          · obtain rfl : q = s.size + 1 := by omega
            have nc := T4.out.nc
            have FR : Hid (foldR s gs (k + 1) = partR x s R (s.size + 1)) := by show _ = _; rw [partR_all, foldR_step s gs k kg, HR.out, HX.out]
            have BO : Hid (Bo wr (wo.heap.size + 1) (foldR s gs (k + 1))) := by show Bo _ _ _; rw [FR.out]; exact T4.out.bo
            have BW := hide T4.out.below
            go_wp2_with fail
            go_roundw
            case rel => exact ⟨k + 1, wo.heap.size + 1, by omega, by go_num, rfl, by omega, BW, BO⟩
            case measure => simp [intOf]; omega
      by_cases k3 : x.k = 3
      · rw [trialV, if_neg k2, if_pos k3] at he
        subst he
        go_wp2_with fail
        go_loopw [33] (fun t w4 => ∃ q : Nat, q ≤ s.size + 1 ∧ t = .int .i64 (q : Int) ∧ Hid (Tr w w4 W3.heap.size (W3.heap.size + 1) (wo.heap.size + 2) (wo.heap.size + 1) x a6 c6 s (partR x s R q)) ∧ Hid (Upd (wo.heap.size + 1) [4] w2 w4)) (fun t _ => s.size + 1 - (intOf t).toNat)
        case atStart => exact ⟨0, by omega, rfl, T2, hide (Upd.refl _ _ _)⟩
        case round =>
          obtain ⟨q, hq, rfl, T4, U4⟩ := hrel
          by_cases hlt2 : q < s.size + 1
          · have b4 := RB2.out.upd U4.out (.inl (by omega))
            have r0 := b4.at q (by rw [RL.out]; exact hlt2)
            obtain ⟨tt, htt⟩ : ∃ tt, R.getD q false = tt := ⟨_, rfl⟩
            rw [htt] at r0
            cases tt
            · have T5 : Hid (Tr w wr W3.heap.size (W3.heap.size + 1) (wo.heap.size + 2) (wo.heap.size + 1) x a6 c6 s (partR x s R (q + 1))) := by show Tr _ _ _ _ _ _ _ _ _ _ _; rw [partR_skip _ _ _ _ htt]; exact T4.out
              clear htt b4
              go_wp2_with fail
              go_roundw
              case rel => exact ⟨q + 1, by omega, by go_num, T5, U4⟩
              case measure => simp [intOf]; omega
            · have kh := one_spec T4.out q hlt2 hs k3
              rw [← partR_add _ _ _ _ htt] at kh
              unfold handV at kh
              clear htt b4
              go_wp2_with (go_at_call 89; refine Calls.mono kh ?_; rintro e w5 ⟨rfl, t5, u5⟩; have T5 := hide t5; have U5 := hide u5; clear t5 u5)
              go_roundw
              case rel => exact ⟨q + 1, by omega, by go_num, T5, hide (U4.out.trans U5.out)⟩
              case measure => simp [intOf]; omega
          · obtain rfl : q = s.size + 1 := by omega
            have nc := T4.out.nc
            have FR : Hid (foldR s gs (k + 1) = partR x s R (s.size + 1)) := by show _ = _; rw [partR_all, foldR_step s gs k kg, HR.out, HX.out]
            have BO : Hid (Bo wr (wo.heap.size + 1) (foldR s gs (k + 1))) := by show Bo _ _ _; rw [FR.out]; exact T4.out.bo
            have BW := hide T4.out.below
            go_wp2_with fail
            go_roundw
            case rel => exact ⟨k + 1, wo.heap.size + 1, by omega, by go_num, rfl, by omega, BW, BO⟩
            case measure => simp [intOf]; omega
      by_cases k4 : x.k = 4
      · rw [trialV, if_neg k2, if_neg k3, if_pos k4] at he
        subst he
        go_wp2_with fail
        go_loopw [33] (fun t w4 => ∃ q : Nat, q ≤ s.size + 1 ∧ t = .int .i64 (q : Int) ∧ Hid (Tr w w4 W3.heap.size (W3.heap.size + 1) (wo.heap.size + 2) (wo.heap.size + 1) x a6 c6 s (partR x s R q)) ∧ Hid (Upd (wo.heap.size + 1) [4] w2 w4)) (fun t _ => s.size + 1 - (intOf t).toNat)
        case atStart => exact ⟨0, by omega, rfl, T2, hide (Upd.refl _ _ _)⟩
        case round =>
          obtain ⟨q, hq, rfl, T4, U4⟩ := hrel
          by_cases hlt2 : q < s.size + 1
          · have b4 := RB2.out.upd U4.out (.inl (by omega))
            have r0 := b4.at q (by rw [RL.out]; exact hlt2)
            obtain ⟨tt, htt⟩ : ∃ tt, R.getD q false = tt := ⟨_, rfl⟩
            rw [htt] at r0
            cases tt
            · have T5 : Hid (Tr w wr W3.heap.size (W3.heap.size + 1) (wo.heap.size + 2) (wo.heap.size + 1) x a6 c6 s (partR x s R (q + 1))) := by show Tr _ _ _ _ _ _ _ _ _ _ _; rw [partR_skip _ _ _ _ htt]; exact T4.out
              clear htt b4
              go_wp2_with fail
              go_roundw
              case rel => exact ⟨q + 1, by omega, by go_num, T5, U4⟩
              case measure => simp [intOf]; omega
            · have kh := cls_spec T4.out q hlt2 hs k4
              rw [← partR_add _ _ _ _ htt] at kh
              unfold handV at kh
              clear htt b4
              go_wp2_with (go_at_call 90; refine Calls.mono kh ?_; rintro e w5 ⟨rfl, t5, u5⟩; have T5 := hide t5; have U5 := hide u5; clear t5 u5)
              go_roundw
              case rel => exact ⟨q + 1, by omega, by go_num, T5, hide (U4.out.trans U5.out)⟩
              case measure => simp [intOf]; omega
          · obtain rfl : q = s.size + 1 := by omega
            have nc := T4.out.nc
            have FR : Hid (foldR s gs (k + 1) = partR x s R (s.size + 1)) := by show _ = _; rw [partR_all, foldR_step s gs k kg, HR.out, HX.out]
            have BO : Hid (Bo wr (wo.heap.size + 1) (foldR s gs (k + 1))) := by show Bo _ _ _; rw [FR.out]; exact T4.out.bo
            have BW := hide T4.out.below
            go_wp2_with fail
            go_roundw
            case rel => exact ⟨k + 1, wo.heap.size + 1, by omega, by go_num, rfl, by omega, BW, BO⟩
            case measure => simp [intOf]; omega
      by_cases k5 : x.k = 5
      · rw [trialV, if_neg k2, if_neg k3, if_neg k4, if_pos k5] at he
        subst he
        go_wp2_with fail
        go_loopw [33] (fun t w4 => ∃ q : Nat, q ≤ s.size + 1 ∧ t = .int .i64 (q : Int) ∧ Hid (Tr w w4 W3.heap.size (W3.heap.size + 1) (wo.heap.size + 2) (wo.heap.size + 1) x a6 c6 s (partR x s R q)) ∧ Hid (Upd (wo.heap.size + 1) [4] w2 w4)) (fun t _ => s.size + 1 - (intOf t).toNat)
        case atStart => exact ⟨0, by omega, rfl, T2, hide (Upd.refl _ _ _)⟩
        case round =>
          obtain ⟨q, hq, rfl, T4, U4⟩ := hrel
          by_cases hlt2 : q < s.size + 1
          · have b4 := RB2.out.upd U4.out (.inl (by omega))
            have r0 := b4.at q (by rw [RL.out]; exact hlt2)
            obtain ⟨tt, htt⟩ : ∃ tt, R.getD q false = tt := ⟨_, rfl⟩
            rw [htt] at r0
            cases tt
            · have T5 : Hid (Tr w wr W3.heap.size (W3.heap.size + 1) (wo.heap.size + 2) (wo.heap.size + 1) x a6 c6 s (partR x s R (q + 1))) := by show Tr _ _ _ _ _ _ _ _ _ _ _; rw [partR_skip _ _ _ _ htt]; exact T4.out
              clear htt b4
              go_wp2_with fail
              go_roundw
              case rel => exact ⟨q + 1, by omega, by go_num, T5, U4⟩
              case measure => simp [intOf]; omega
            · have kh := alt_spec T4.out q hlt2 hs k5 AN
              rw [← partR_add _ _ _ _ htt] at kh
              unfold handV at kh
              clear htt b4
              go_wp2_with (go_at_call 92; refine Calls.mono kh ?_; rintro e w5 ⟨rfl, t5, u5⟩; have T5 := hide t5; have U5 := hide u5; clear t5 u5)
              go_roundw
              case rel => exact ⟨q + 1, by omega, by go_num, T5, hide (U4.out.trans U5.out)⟩
              case measure => simp [intOf]; omega
          · obtain rfl : q = s.size + 1 := by omega
            have nc := T4.out.nc
            have FR : Hid (foldR s gs (k + 1) = partR x s R (s.size + 1)) := by show _ = _; rw [partR_all, foldR_step s gs k kg, HR.out, HX.out]
            have BO : Hid (Bo wr (wo.heap.size + 1) (foldR s gs (k + 1))) := by show Bo _ _ _; rw [FR.out]; exact T4.out.bo
            have BW := hide T4.out.below
            go_wp2_with fail
            go_roundw
            case rel => exact ⟨k + 1, wo.heap.size + 1, by omega, by go_num, rfl, by omega, BW, BO⟩
            case measure => simp [intOf]; omega
      · rw [trialV, if_neg k2, if_neg k3, if_neg k4, if_neg k5] at he
        subst he
        go_wp2_with fail
        go_loopw [33] (fun t w4 => ∃ q : Nat, q ≤ s.size + 1 ∧ t = .int .i64 (q : Int) ∧ Hid (Tr w w4 W3.heap.size (W3.heap.size + 1) (wo.heap.size + 2) (wo.heap.size + 1) x a6 c6 s (partR x s R q)) ∧ Hid (Upd (wo.heap.size + 1) [4] w2 w4)) (fun t _ => s.size + 1 - (intOf t).toNat)
        case atStart => exact ⟨0, by omega, rfl, T2, hide (Upd.refl _ _ _)⟩
        case round =>
          obtain ⟨q, hq, rfl, T4, U4⟩ := hrel
          by_cases hlt2 : q < s.size + 1
          · have b4 := RB2.out.upd U4.out (.inl (by omega))
            have r0 := b4.at q (by rw [RL.out]; exact hlt2)
            obtain ⟨tt, htt⟩ : ∃ tt, R.getD q false = tt := ⟨_, rfl⟩
            rw [htt] at r0
            cases tt
            · have T5 : Hid (Tr w wr W3.heap.size (W3.heap.size + 1) (wo.heap.size + 2) (wo.heap.size + 1) x a6 c6 s (partR x s R (q + 1))) := by show Tr _ _ _ _ _ _ _ _ _ _ _; rw [partR_skip _ _ _ _ htt]; exact T4.out
              clear htt b4
              go_wp2_with fail
              go_roundw
              case rel => exact ⟨q + 1, by omega, by go_num, T5, U4⟩
              case measure => simp [intOf]; omega
            · have kh := txt_spec T4.out q hlt2 hs k2 k3 k4 k5
              rw [← partR_add _ _ _ _ htt] at kh
              unfold handV at kh
              clear htt b4
              go_wp2_with (go_at_call 94; refine Calls.mono kh ?_; rintro e w5 ⟨rfl, t5, u5⟩; have T5 := hide t5; have U5 := hide u5; clear t5 u5)
              go_roundw
              case rel => exact ⟨q + 1, by omega, by go_num, T5, hide (U4.out.trans U5.out)⟩
              case measure => simp [intOf]; omega
          · obtain rfl : q = s.size + 1 := by omega
            have nc := T4.out.nc
            have FR : Hid (foldR s gs (k + 1) = partR x s R (s.size + 1)) := by show _ = _; rw [partR_all, foldR_step s gs k kg, HR.out, HX.out]
            have BO : Hid (Bo wr (wo.heap.size + 1) (foldR s gs (k + 1))) := by show Bo _ _ _; rw [FR.out]; exact T4.out.bo
            have BW := hide T4.out.below
            go_wp2_with fail
            go_roundw
            case rel => exact ⟨k + 1, wo.heap.size + 1, by omega, by go_num, rfl, by omega, BW, BO⟩
            case measure => simp [intOf]; omega
    · obtain rfl : k = m := by omega
      have F : Hid ((foldR s gs k).getD s.size false = mNode gs s) := by show _ = _; rw [HM.out]; exact foldR_all s gs
      have r0 := O.out.at s.size (by rw [foldR_len s gs k (by rw [HM.out]; exact Nat.le_refl _)]; omega)
      rw [F.out] at r0
      go_wp2_with fail
      go_returns
      exact ⟨rfl, B.out⟩
end Go.Proofs.YteahbdhhcfoiiaaDoor
/- name: strings.Split at a point; Nodes. -/
namespace Go.Proofs.YteahbdhhcfoiiaaDoor
set_option linter.unusedVariables false
set_option linter.unusedSimpArgs false
open Go.RowKit W
section
open Go.Lib
theorem occ_one (c : UInt8) (l : List UInt8) (j : Nat) : occAt l [c] j = decide (l[j]? = some c) := by
  unfold occAt
  rw [Bool.eq_iff_iff, decide_eq_true_eq]
  cases h : l.drop j with
  | nil =>
    have : l.length ≤ j := by simpa using h
    simp [List.getElem?_eq_none this]
  | cons x r =>
    have hj : j < l.length := by
      rcases Nat.lt_or_ge j l.length with q | q
      · exact q
      · rw [List.drop_eq_nil_of_le q] at h; cases h
    rw [List.drop_eq_getElem_cons hj] at h
    injection h with h1 h2
    rw [List.getElem?_eq_getElem hj, h1]
    show (c == x && true) = true ↔ _
    rw [Bool.and_true, beq_iff_eq, Option.some.injEq, eq_comm]
theorem index_at (c : UInt8) (a m : List UInt8) (h : c ∉ a) : index (a ++ c :: m) [c] = a.length := by
  refine index_first (by simp) (by rw [occ_one]; simp) fun j hj => ?_
  rw [occ_one, List.getElem?_append_left hj, List.getElem?_eq_getElem hj]
  have : a[j] ≠ c := fun e => h (e ▸ List.getElem_mem hj)
  simp [this]
theorem split_cut (c : UInt8) : ∀ (n : Nat) (l : List UInt8), l.length ≤ n → splitK [c] 0 (l.count c) l = cutL c [] l := by
  intro n
  induction n with
  | zero => intro l h; obtain rfl : l = [] := List.eq_nil_of_length_eq_zero (by omega); rfl
  | succ n ih =>
    intro l h
    by_cases hc : c ∈ l
    · obtain ⟨a, m, rfl, ha⟩ := List.eq_append_cons_of_mem hc
      have e : (a ++ c :: m).count c = m.count c + 1 := by
        rw [List.count_append, List.count_cons_self, List.count_eq_zero.2 ha, Nat.zero_add]
      rw [e, cutL_at c a m [] ha, splitK, index_at c a m ha, if_neg (by first | (simp; done) | (simp; omega))]
      have e2 : ((a.length : Int)).toNat = a.length := by omega
      rw [e2, Nat.add_zero, List.take_left, List.nil_append]
      have e3 : (a ++ c :: m).drop (a.length + [c].length) = m := by simp
      rw [e3, ih m (by simp at h; omega)]
    · rw [List.count_eq_zero.2 hc, cutL_none c l [] hc]; rfl
theorem split_pieces (s : ByteArray) (c : UInt8) : ((splitB ⟨#[c]⟩ 0 (countB s ⟨#[c]⟩) s).map (·.data.toList)) = cutL c [] s.data.toList := by
  rw [splitB_data]
  have : countB s ⟨#[c]⟩ = s.data.toList.count c := count_one c _
  rw [this]
  exact split_cut c _ _ (Nat.le_refl _)
end
/-- What a name's nodes are. -/
def nodesL (s : ByteArray) : List ByteArray := if validN (lst s) then Lib.splitB ⟨#[46]⟩ 0 (Lib.countB s ⟨#[46]⟩) s else []
theorem nodesL_yes {s : ByteArray} (h : validN (lst s) = true) : (nodesL s).map lst = cutL 46 [] (lst s) := by unfold nodesL; rw [if_pos h]; exact split_pieces s 46
theorem nodesL_no {s : ByteArray} (h : validN (lst s) = false) : nodesL s = [] := by unfold nodesL; rw [h]; rfl
theorem valid_size {s : ByteArray} (h : validN (lst s) = true) : s.size ≤ 200 := by
  unfold validN at h
  rw [Bool.and_eq_true] at h
  have := of_decide_eq_true h.1
  rwa [lst_len] at this
/-- internal/bytealg.MaxLen holds a number. -/
def GM (m : Int) (w : World) : Prop := w.cell? ⟨0, 0, none⟩ = some (.int .i64 m)
theorem GM.later {m : Int} {w w' : World} (h : GM m w) (b : Below w.heap.size w w') : GM m w' := (b.cell (p := ⟨0, 0, none⟩) (World.block_lt_of_cell? _ _ h)).trans h
def NodesRes (w : World) (s : ByteArray) (e : Ending) (w' : World) : Prop :=
  Below w.heap.size w w' ∧ ∃ a c, e = .returned (.slice a (nodesL s).length c) ∧ TyT w.heap.size w' a (nodesL s) ∧ (nodesL s).length ≤ c
set_option maxRecDepth 100000 in
set_option maxHeartbeats 4000000 in
theorem nodes_spec (s : ByteArray) (m : Int) (w : World) (hm : GM m w) : Calls Tryd.prog 20 #[.string s] w (NodesRes w s) := by
  have kv := valid_spec s w
  rw [show s.data.toList = lst s from rfl] at kv
  obtain ⟨t, ht⟩ : ∃ t, validN (lst s) = t := ⟨_, rfl⟩
  rw [ht] at kv
  cases t
  · have N := hide (nodesL_no ht)
    clear ht hm
    go_enter Tryd.func20, Tryd.ntmps20
    go_wp2_with fail
    refine kv.mono ?_
    rintro e w1 ⟨rfl, rfl⟩
    go_wp2_with fail
    go_returns
    exact ⟨Below.refl _ _, none, 0, by rw [N.out]; rfl, .inl N.out, by rw [N.out]; exact Nat.le_refl _⟩
  · have sz := valid_size ht
    have ks := Tryd.strings_Split s ⟨#[46]⟩ m w (by omega) hm (by decide)
    have hl := Lib.splitB_all ⟨#[46]⟩ (by decide) 0 _ s rfl
    have N : Hid (nodesL s = Lib.splitB ⟨#[46]⟩ 0 (Lib.countB s ⟨#[46]⟩) s) := by show _ = _; unfold nodesL; rw [ht]; rfl
    rw [← hl, ← N.out] at ks
    clear ht hm hl
    go_enter Tryd.func20, Tryd.ntmps20
    go_wp2_with fail
    refine kv.mono ?_
    rintro e w1 ⟨rfl, rfl⟩
    go_wp2_with fail
    refine ks.mono ?_
    rintro e w1 ⟨rfl, hw⟩
    have HW := hide hw
    clear hw
    go_wp2_with fail
    go_returns
    have e := HW.out
    subst e
    refine ⟨(Below.refl _ _).alloc (Nat.le_refl _) _, _, _, rfl, .inr ⟨w.heap.size, 0, _, (0, 0), rfl, Nat.le_refl _, heap_alloc_new _ _, fun j hj => ?_⟩, Nat.le_refl _⟩
    simp [hj]
end Go.Proofs.YteahbdhhcfoiiaaDoor
