/- NameJoins: the law's walk. -/
import Derived.Test.YteahbdhhcfoiiaaDoorLawnj
import Derived.Test.YteahbdhhcfoiiaaDoorSzl
import Derived.Deep.CutRange
namespace Go.Proofs.YteahbdhhcfoiiaaDoor
set_option linter.unusedVariables false
set_option linter.unusedSimpArgs false
open Go.RowKit W
set_option maxRecDepth 100000 in
set_option maxHeartbeats 16000000 in
theorem law_NameJoins (a : Option Addr) (c : Nat) (l : List ByteArray) (hz : ∀ q ∈ l, q.size ≤ 140737488351232) (hn : l.length ≤ 8796093022208) (W : World) (hsh : W.ShapedOpen Tryd.prog) (ha : IsTxts W a l) :
    Calls Tryd.prog 11 #[.slice a l.length c] W fun e w' => e = .returned (.bool true) ∧ Below W.heap.size W w' := by
  obtain ⟨mx, gm⟩ := gm_at hsh
  have GMH := hide gm
  have HA := hide ha
  have HZ := hide hz
  obtain ⟨n, hnn⟩ : ∃ n, n = l.length := ⟨_, rfl⟩
  have HN := hide hnn
  rw [← hnn] at hn ⊢
  clear gm ha hsh hz hnn
  have ka := fun (w : World) (b : Below W.heap.size W w) => alive_spec mx w (GMH.out.later b)
  have F0 : Hid ((decide (1 ≤ n) && decide (n ≤ 16)) = fineK l 0) := by show _ = _; unfold fineK; rw [← HN.out, List.take_zero]; simp
  go_enter Tryd.func11, Tryd.ntmps11
  go_upto_region 2 with (fail)
  go_cut [4] from 9 to 16 (fun x W' => x = .bool (fineK l 0) ∧ W' = W)
  case first =>
    by_cases y1 : 1 ≤ n
    · by_cases y2 : n ≤ 16
      · go_wp2_with fail
        go_meet
        case rel => exact ⟨by rw [← F0.out, decide_eq_true y1, decide_eq_true y2, show decide ((n : Int) ≤ 16) = true by (rw [decide_eq_true_eq]; omega)]; rfl, rfl⟩
      · go_wp2_with fail
        go_meet
        case rel => exact ⟨by rw [← F0.out, decide_eq_false y2, Bool.and_false, show decide ((n : Int) ≤ 16) = false by (rw [decide_eq_false_iff_not]; omega)], rfl⟩
    · go_wp2_with fail
      go_meet
      case rel => exact ⟨by rw [← F0.out, decide_eq_false y1, Bool.false_and], rfl⟩
  case rest =>
    obtain ⟨rfl, rfl⟩ := hcut
    go_wp2_with fail
    go_loop [3, 4, 5] (fun sv fv i => ∃ k : Nat, k ≤ n ∧ sv = .string (joinN l k) ∧ fv = .bool (fineK l k) ∧ i = .int .i64 (k : Int) ∧ Hid (∀ j (q : j < l.length), j < k → l[j].size ≤ 200)) (fun _ _ i => n - (intOf i).toNat)
    case atStart => exact ⟨0, by omega, rfl, rfl, rfl, hide (fun j _ h => absurd h (Nat.not_lt_zero _))⟩
    case round =>
      obtain ⟨k, hk, rfl, rfl, rfl, LE⟩ := hrel
      have js := join_size l k LE.out (by have := HN.out; omega)
      by_cases hlt : k < n
      · have kl : k < l.length := by have := HN.out; omega
        obtain ⟨g, o, rfl, LA⟩ := HA.out.resolve_left (by intro e; rw [e] at kl; simp at kl)
        have c0 := LA.cell k kl
        have xb := HZ.out l[k] (List.getElem_mem _)
        have eg : l.getD k ⟨#[]⟩ = l[k] := by simp [List.getD_eq_getElem?_getD, kl]
        obtain ⟨x, hx⟩ : ∃ x, x = l[k] := ⟨_, rfl⟩
        rw [← hx] at c0 xb eg
        have HX := hide hx
        clear hx LA
        by_cases xl : 200 < x.size
        · have vf := long_not xl
          have kv := fun w => valid_spec x w
          rw [vf] at kv
          clear vf
          have b1 : (joinN l k).size + 1 ≤ 9223372036854775807 := by omega
          have b2 : ¬ 9223372036854775807 < (joinN l k).size + 1 := by omega
          by_cases k0 : k = 0
          · subst k0
            rw [Nat.add_zero] at c0
            rw [show joinN l 0 = ⟨#[]⟩ from rfl]
            go_wp2_with (go_at_call 17; refine (kv _).mono ?_; rintro e w1 ⟨rfl, rfl⟩)
            refine Calls.mono (ka _ (Below.refl _ _)) ?_
            rintro e w2 ⟨rfl, b2⟩
            have B2 := hide b2
            clear b2
            go_wp2_with fail
            go_returns
            exact ⟨rfl, B2.out⟩
          · go_wp2_with (go_at_call 17; refine (kv _).mono ?_; rintro e w1 ⟨rfl, rfl⟩)
            refine Calls.mono (ka _ (Below.refl _ _)) ?_
            rintro e w2 ⟨rfl, b2⟩
            have B2 := hide b2
            clear b2
            go_wp2_with fail
            go_returns
            exact ⟨rfl, B2.out⟩
        · have LE2 : Hid (∀ j (q : j < l.length), j < k + 1 → l[j].size ≤ 200) := by
            intro j q hj
            by_cases z : j < k
            · exact LE.out j q z
            · obtain rfl : j = k := by omega
              rw [← HX.out]; omega
          have b1 : (joinN l k).size + 1 + x.size ≤ 9223372036854775807 := by omega
          have b2 : ¬ 9223372036854775807 < (joinN l k).size + 1 := by omega
          have b3 : ¬ 9223372036854775807 < (joinN l k).size + 1 + x.size := by omega
          by_cases k0 : k = 0
          · subst k0
            rw [Nat.add_zero] at c0
            rw [show joinN l 0 = ⟨#[]⟩ from rfl]
            have JN : joinN l (0 + 1) = ⟨#[]⟩ ++ x := by unfold joinN; rw [eg, if_pos rfl]
            clear eg
            cases hf : fineK l 0
            · have FK : fineK l (0 + 1) = false := by rw [fineK_step l 0 kl, hf]; rfl
              clear hf
              go_wp2_with fail
              go_round
              case rel => exact ⟨0 + 1, by omega, by rw [JN], by rw [FK], by go_num, LE2⟩
              case measure => simp [intOf]; omega
            · by_cases xz : x.size = 0
              · have FK : fineK l (0 + 1) = false := by rw [fineK_step l 0 kl, ← HX.out, nodeB_eq, xz]; simp
                have xe := str_nil xz
                have JN2 := JN
                rw [xe] at JN2
                obtain rfl := xe
                clear hf xz
                go_wp2_with fail
                go_round
                case rel => exact ⟨0 + 1, by omega, by rw [JN2], by rw [FK], by go_num, LE2⟩
                case measure => simp [intOf]; omega
              · obtain ⟨x1, x2⟩ := str_ne xz
                obtain ⟨t, ht⟩ : ∃ t, bytesB x = t := ⟨_, rfl⟩
                have kb := fun w => rbytes_spec x (by omega) w
                rw [show (lst x).all nB = bytesB x from rfl, ht] at kb
                have FK : fineK l (0 + 1) = t := by rw [fineK_step l 0 kl, hf, ← HX.out, nodeB_eq, ht]; simp [xz]
                clear hf ht xz
                go_wp2_with (go_at_call 34; refine (kb _).mono ?_; rintro e w1 ⟨rfl, rfl⟩)
                go_round
                case rel => exact ⟨0 + 1, by omega, by rw [JN], by rw [FK], by go_num, LE2⟩
                case measure => simp [intOf]; omega
          · have JN : joinN l (k + 1) = joinN l k ++ ⟨#[46]⟩ ++ x := by rw [joinN, eg, if_neg k0]
            clear eg
            cases hf : fineK l k
            · have FK : fineK l (k + 1) = false := by rw [fineK_step l k kl, hf]; rfl
              clear hf
              go_wp2_with fail
              go_round
              case rel => exact ⟨k + 1, by omega, by rw [JN], by rw [FK], by go_num, LE2⟩
              case measure => simp [intOf]; omega
            · by_cases xz : x.size = 0
              · have FK : fineK l (k + 1) = false := by rw [fineK_step l k kl, ← HX.out, nodeB_eq, xz]; simp
                have xe := str_nil xz
                have JN2 := JN
                rw [xe] at JN2
                obtain rfl := xe
                clear hf xz
                go_wp2_with fail
                go_round
                case rel => exact ⟨k + 1, by omega, by rw [JN2], by rw [FK], by go_num, LE2⟩
                case measure => simp [intOf]; omega
              · obtain ⟨x1, x2⟩ := str_ne xz
                obtain ⟨t, ht⟩ : ∃ t, bytesB x = t := ⟨_, rfl⟩
                have kb := fun w => rbytes_spec x (by omega) w
                rw [show (lst x).all nB = bytesB x from rfl, ht] at kb
                have FK : fineK l (k + 1) = t := by rw [fineK_step l k kl, hf, ← HX.out, nodeB_eq, ht]; simp [xz]
                clear hf ht xz
                go_wp2_with (go_at_call 34; refine (kb _).mono ?_; rintro e w1 ⟨rfl, rfl⟩)
                go_round
                case rel => exact ⟨k + 1, by omega, by rw [JN], by rw [FK], by go_num, LE2⟩
                case measure => simp [intOf]; omega
      · obtain rfl : k = n := by omega
        obtain ⟨S, hS⟩ : ∃ S, S = joinN l k := ⟨_, rfl⟩
        have HS := hide hS
        have FE : Hid (fineK l k = fineN l) := by show _ = _; rw [HN.out]; exact fineK_all l
        rw [FE.out]
        rw [← hS] at js ⊢
        clear hS hlt hk LE F0
        obtain ⟨f, hf⟩ : ∃ f, (fineN l && decide (S.size ≤ 200)) = f := ⟨_, rfl⟩
        have HF := hide hf
        go_upto_region 12 with (fail)
        go_cut [4] from 63 to 68 (fun x W' => x = .bool f ∧ W' = wc)
        case first =>
          cases q : fineN l
          · rw [q, Bool.false_and] at hf
            clear q
            subst hf
            go_wp2_with fail
            go_meet
            case rel => exact ⟨rfl, rfl⟩
          · rw [q, Bool.true_and] at hf
            by_cases z : S.size ≤ 200
            · rw [decide_eq_true z] at hf
              clear q
              subst hf
              go_wp2_with fail
              go_meet
              case rel => exact ⟨by rw [show decide ((S.size : Int) ≤ 200) = true by (rw [decide_eq_true_eq]; omega)], rfl⟩
            · rw [decide_eq_false z] at hf
              clear q
              subst hf
              go_wp2_with fail
              go_meet
              case rel => exact ⟨by rw [show decide ((S.size : Int) ≤ 200) = false by (rw [decide_eq_false_iff_not]; omega)], rfl⟩
        case rest =>
          obtain ⟨rfl, hw⟩ := hcut
          subst hw
          clear hf
          go_wp2_with fail
          go_loop [6, 7] (fun b i => ∃ q : Nat, q ≤ k ∧ b = .bool (ptsK l q) ∧ i = .int .i64 (q : Int)) (fun _ i => k - (intOf i).toNat)
          case atStart => exact ⟨0, by omega, rfl, rfl⟩
          case round =>
            obtain ⟨q, hq, rfl, rfl⟩ := hrel
            by_cases hlt : q < k
            · have kl : q < l.length := by have := HN.out; omega
              obtain ⟨g, o, rfl, LA⟩ := HA.out.resolve_left (by intro e; rw [e] at kl; simp at kl)
              have c0 := LA.cell q kl
              have xb := HZ.out l[q] (List.getElem_mem _)
              have PS := ptsK_step l q kl
              obtain ⟨x, hx⟩ : ∃ x, x = l[q] := ⟨_, rfl⟩
              rw [← hx] at c0 xb PS
              obtain ⟨pk, hpk⟩ : ∃ pk, pk = ptsK l q := ⟨_, rfl⟩
              rw [← hpk] at PS ⊢
              have PSH := hide PS
              clear hx LA PS hpk
              go_wp2_with fail
              go_loop [6, 8] (fun b i => ∃ m : Nat, m ≤ x.size ∧ b = .bool (pk || ((lst x).take m).contains 46) ∧ i = .int .i64 (m : Int)) (fun _ i => x.size - (intOf i).toNat)
              case atStart => exact ⟨0, by omega, by rw [List.take_zero]; simp, rfl⟩
              case round =>
                obtain ⟨m, hm, rfl, rfl⟩ := hrel
                by_cases hlm : m < x.size
                · have hs := has_step x m hlm
                  obtain ⟨b, hb⟩ : ∃ b, b = (pk || ((lst x).take m).contains 46) := ⟨_, rfl⟩
                  have HB : (pk || ((lst x).take (m + 1)).contains 46) = (b || (x[m] == 46)) := by rw [hs, ← Bool.or_assoc, hb]
                  rw [← hb]
                  have HBH := hide HB
                  clear hs hb HB
                  cases b
                  · by_cases e : x[m] = 46
                    · have e1 : (x[m].toNat : Int) = 46 := by rw [e]; rfl
                      have e2 : (pk || ((lst x).take (m + 1)).contains 46) = true := by rw [HBH.out, e]; rfl
                      clear e
                      go_wp2_with fail
                      go_round
                      case rel => exact ⟨m + 1, by omega, by rw [e2], by go_num⟩
                      case measure => simp [intOf]; omega
                    · have e1 : ((x[m].toNat : Int) == 46) = false := by rw [beq_eq_false_iff_ne]; intro z; exact e (UInt8.toNat_inj.1 (show x[m].toNat = 46 by omega))
                      have e2 : (pk || ((lst x).take (m + 1)).contains 46) = false := by rw [HBH.out]; simp [e]
                      have e3 : ¬ (x[m].toNat : Int) = 46 := fun z => e (UInt8.toNat_inj.1 (show x[m].toNat = 46 by omega))
                      clear e
                      go_wp2_with fail
                      go_round
                      case rel => exact ⟨m + 1, by omega, by rw [e2], by go_num⟩
                      case measure => simp [intOf]; omega
                  · have e2 : (pk || ((lst x).take (m + 1)).contains 46) = true := by rw [HBH.out]; rfl
                    go_wp2_with fail
                    go_round
                    case rel => exact ⟨m + 1, by omega, by rw [e2], by go_num⟩
                    case measure => simp [intOf]; omega
                · obtain rfl : m = x.size := by omega
                  have e2 : (pk || ((lst x).take x.size).contains 46) = ptsK l (q + 1) := by rw [PSH.out, List.take_of_length_le (by rw [lst_len]; exact Nat.le_refl _)]
                  rw [e2]
                  clear e2
                  go_wp2_with fail
                  go_round
                  case rel => exact ⟨q + 1, by omega, rfl, by go_num⟩
                  case measure => simp [intOf]; omega
            · obtain rfl : q = k := by omega
              cases hp : ptsK l q
              · have HP := hide (ptsK_no l (by rw [← HN.out]; exact hp))
                have VF : Hid (validN S.data.toList = f) := by
                  show validN (lst S) = _
                  rw [← HF.out, HS.out, HN.out]; exact join_valid l HP.out
                have kv := fun w => valid_spec S w
                rw [VF.out] at kv
                clear hp
                cases f
                · go_wp2_with (go_at_call 17; refine (kv _).mono ?_; rintro e w1 ⟨rfl, rfl⟩)
                  refine Calls.mono (ka _ (Below.refl _ _)) ?_
                  rintro e w2 ⟨rfl, b2⟩
                  have B2 := hide b2
                  clear b2
                  go_wp2_with fail
                  go_returns
                  exact ⟨rfl, B2.out⟩
                · have NE : Hid (nodesL S = l) := by
                    show _ = _
                    rw [HS.out, HN.out]
                    refine join_nodes l HP.out ?_
                    have := VF.out
                    rw [HS.out, HN.out] at this; exact this
                  have ns := nodes_spec S mx _ GMH.out
                  unfold NodesRes at ns
                  rw [NE.out, ← HN.out] at ns
                  go_wp2_with (go_at_call 17; refine (kv _).mono ?_; rintro e w1 ⟨rfl, rfl⟩)
                  refine Calls.mono ns ?_
                  rintro e w4 ⟨b4, a4, c4, rfl, ty4, lc4⟩
                  have ks := fun c d => same_texts l a4 a c d w4 ty4.is (HA.out.later b4) (by have := HN.out; omega)
                  rw [← HN.out] at ks
                  have B4 := hide b4
                  clear b4 ty4 lc4 ns
                  go_wp2_with fail
                  refine Calls.mono (ks _ _) ?_
                  rintro e w6 ⟨rfl, n6, rfl⟩
                  have B6 := hide (below_drewN B4.out n6)
                  go_wp2_with fail
                  refine Calls.mono (ka _ B6.out) ?_
                  rintro e w7 ⟨rfl, b7⟩
                  have B7 := hide (B6.out.trans (b7.mono B6.out.size))
                  clear b7
                  go_wp2_with fail
                  go_returns
                  exact ⟨rfl, B7.out⟩
              · go_wp2_with fail
                refine Calls.mono (ka _ (Below.refl _ _)) ?_
                rintro e w2 ⟨rfl, b2⟩
                have B2 := hide b2
                clear b2
                go_wp2_with fail
                go_returns
                exact ⟨rfl, B2.out⟩
end Go.Proofs.YteahbdhhcfoiiaaDoor
