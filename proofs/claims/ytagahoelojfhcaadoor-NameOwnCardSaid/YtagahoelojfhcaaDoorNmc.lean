/- name: may. -/
import Derived.Test.YtagahoelojfhcaaDoorNmb
namespace Go.Proofs.YtagahoelojfhcaaDoor
set_option linter.unusedVariables false
set_option linter.unusedSimpArgs false
open Go.RowKit W
set_option maxRecDepth 100000 in
set_option maxHeartbeats 8000000 in
theorem may_spec (p : List (List Gl)) (pw : PtW p) (a : Option Addr) (c : Nat) (w : World) (ha : IsPt w a p) :
    Calls Tryd.prog 25 #[.agg #[.slice a p.length c]] w fun e w' => e = .returned (.bool (mayB p)) ∧ Below w.heap.size w w' := by
  obtain ⟨E, hE⟩ : ∃ E, mayB p = E := ⟨_, rfl⟩
  rw [hE]
  have HE := hide hE
  have HA := hide ha
  have HW := hide pw
  have hn := pw.n
  obtain ⟨n, hnn⟩ : ∃ n, n = p.length := ⟨_, rfl⟩
  have HN := hide hnn
  rw [← hnn] at hn ⊢
  clear hE ha pw hnn
  by_cases y1 : 1 ≤ n
  · by_cases y2 : n ≤ 16
    · have H1 : Hid (E = p.all nodeMay) := by have := HE.out; rw [← this]; show _ = _; unfold mayB; rw [← HN.out]; simp [y1, y2]
      go_enter Tryd.func25, Tryd.ntmps25
      go_wp2_with fail
      go_loopw [20] (fun i wr => ∃ k : Nat, k ≤ n ∧ i = .int .i64 (k : Int) ∧ Hid (Below w.heap.size w wr) ∧ Hid (∀ j (h : j < p.length), j < k → nodeMay p[j] = true)) (fun i _ => n - (intOf i).toNat)
      case atStart => exact ⟨0, by omega, rfl, hide (by go_grown), hide (fun j _ h => absurd h (Nat.not_lt_zero _))⟩
      case round =>
        obtain ⟨k, hk, rfl, B, D⟩ := hrel
        by_cases hlt : k < n
        · have kp : k < p.length := by have := HN.out; omega
          obtain ⟨g, o, rfl, LN⟩ := HA.out.resolve_left (by intro e; rw [e] at kp; simp at kp)
          have L1 := LN.later B.out
          obtain ⟨b, cc, n0, n1, n2⟩ := L1.cell k kp
          have HG := hide n1
          have gm := HW.out.m p[k] (List.getElem_mem _)
          have GW := hide (HW.out.g p[k] (List.getElem_mem _))
          obtain ⟨gs, hgs⟩ : ∃ gs, gs = p[k] := ⟨_, rfl⟩
          rw [← hgs] at n0 n1 gm GW HG n2
          obtain ⟨m, hm⟩ : ∃ m, m = gs.length := ⟨_, rfl⟩
          have HM := hide hm
          have HGS := hide hgs
          rw [← hm] at n0 gm
          clear hgs hm n1 LN L1 n2
          by_cases m0 : m = 0
          · have F : Hid (E = false) := by
              show _ = _
              rw [H1.out]
              rw [List.all_eq_false]
              exact ⟨gs, by rw [HGS.out]; exact List.getElem_mem _, by unfold nodeMay; rw [← HM.out, m0]; simp⟩
            subst m0
            go_wp2_with fail
            go_returns
            exact ⟨by rw [F.out]; rfl, B.out⟩
          · have m1 : ((m : Int) == 0) = false := by rw [beq_eq_false_iff_ne]; omega
            have NM : Hid (∀ q, q < m → placeB gs q = false → E = false) := by
              intro q hq e
              rw [H1.out, List.all_eq_false]
              exact ⟨gs, by rw [HGS.out]; exact List.getElem_mem _, by unfold nodeMay; rw [all_no (f := placeB gs) (k := q) (by rw [← HM.out]; exact hq) e, Bool.and_false]; decide⟩
            obtain ⟨wo, rfl⟩ : ∃ wo, wo = wr := ⟨_, rfl⟩
            go_wp2_with fail
            go_loopw [29] (fun i w2 => ∃ q : Nat, q ≤ m ∧ i = .int .i64 (q : Int) ∧ Hid (Below wo.heap.size wo w2) ∧ Hid (∀ j, j < q → placeB gs j = true)) (fun i _ => m - (intOf i).toNat)
            case atStart => exact ⟨0, by omega, rfl, hide (Below.refl _ _), hide (fun j h => absurd h (Nat.not_lt_zero _))⟩
            case round =>
              obtain ⟨q, hq, rfl, B2, D2⟩ := hrel
              by_cases hql : q < m
              · have qg : q < gs.length := by have := HM.out; omega
                obtain ⟨g2, o2, rfl, LG⟩ := HG.out.resolve_left (by intro e; rw [e] at qg; simp at qg)
                have L2 := LG.later B2.out
                obtain ⟨c0, c1, b5, c5, c2, c3, c4⟩ := L2.cell q qg
                have gw := GW.out gs[q] (List.getElem_mem _)
                have ks := fun W (u : Below wr.heap.size wr W) => stand_spec gs[q] gw b5 c5 W (c3.later u)
                have at0 : gs[q]? = some gs[q] := List.getElem?_eq_getElem qg
                obtain ⟨x, hx⟩ : ∃ x, x = gs[q] := ⟨_, rfl⟩
                rw [← hx] at c0 c1 c2 ks at0
                have AT := hide at0
                obtain ⟨t, ht⟩ : ∃ t, standB x = t := ⟨_, rfl⟩
                rw [ht] at ks
                have HT := hide ht
                have BW := hide (B.out.trans (B2.out.mono B.out.size))
                have zs := B2.out.size
                have lg := L2.lt
                unfold gV at ks
                clear at0 hx ht c3 c4 gw
                cases t
                · have F : Hid (E = false) := NM.out q hql (by unfold placeB; rw [AT.out]; simp only; rw [HT.out]; rfl)
                  go_wp2_with (go_at_call 38; refine Calls.mono (ks _ (by go_grown)) ?_; rintro e w5 ⟨rfl, b5⟩; have B5 := hide b5; clear b5)
                  go_returns
                  exact ⟨by rw [F.out]; rfl, (BW.out.trans ((show Below wr.heap.size wr _ from by go_grown).mono BW.out.size)).trans (B5.out.mono (by have := BW.out.size; simp; omega))⟩
                · by_cases q0 : q = 0
                  · subst q0
                    rw [show o2 + 0 * 3 = o2 by omega] at c0 c1 c2
                    have PL : placeB gs 0 = true := by unfold placeB; rw [AT.out]; simp only; rw [HT.out]; rfl
                    have D3 : Hid (∀ j, j < 0 + 1 → placeB gs j = true) := by
                      intro j hj
                      by_cases z : j < 0
                      · exact D2.out j z
                      · obtain rfl : j = 0 := by omega
                        exact PL
                    clear PL
                    go_wp2_with (go_at_call 38; refine Calls.mono (ks _ (by go_grown)) ?_; rintro e w5 ⟨rfl, b5⟩; have B5 := hide b5; have d0 : w5.cell? ⟨wr.heap.size, 0, none⟩ = some (.int .i64 x.k) := (b5.cell (p := ⟨wr.heap.size, 0, none⟩) (by simp)).trans (by simp [go_sem]); clear b5)
                    go_roundw
                    case rel => exact ⟨0 + 1, by omega, by go_num, hide ((show Below wo.heap.size wo _ from (B2.out.trans ((show Below wr.heap.size wr _ from by go_grown).mono zs)).trans (B5.out.mono (by simp; omega)))), D3⟩
                    case measure => simp [intOf]; omega
                  · obtain ⟨u, rfl⟩ : ∃ u, q = u + 1 := ⟨q - 1, by omega⟩
                    have e1 : IntKind.i64.wrap ((u : Int) + 1 - 1) = (u : Int) := by rw [IntKind.wrap_i64]; omega
                    obtain ⟨p0, _⟩ := L2.cell u (by omega)
                    have atu : gs[u]? = some gs[u] := List.getElem?_eq_getElem (by omega)
                    obtain ⟨y, hy⟩ : ∃ y, y = gs[u] := ⟨_, rfl⟩
                    rw [← hy] at p0 atu
                    have ATU := hide atu
                    clear atu hy q0
                    by_cases x1 : x.k = 1
                    · by_cases y1 : y.k = 1
                      · have F : Hid (E = false) := NM.out (u + 1) hql (by unfold placeB; rw [AT.out, Nat.add_sub_cancel, ATU.out]; simp [x1, y1])
                        have y2 : (y.k == 1) = true := by rw [y1]; rfl
                        have x2 : (x.k == 1) = true := by rw [x1]; rfl
                        clear x1 y1
                        go_wp2_with (go_at_call 38; refine Calls.mono (ks _ (by go_grown)) ?_; rintro e w5 ⟨rfl, b5⟩; have B5 := hide b5; have d0 : w5.cell? ⟨wr.heap.size, 0, none⟩ = some (.int .i64 x.k) := (b5.cell (p := ⟨wr.heap.size, 0, none⟩) (by simp)).trans (by simp [go_sem]); have e0 : w5.cell? ⟨g2, o2 + u * 3, none⟩ = some (.int .i64 y.k) := (b5.cell (p := ⟨g2, o2 + u * 3, none⟩) (by simp; omega)).trans (Below.cell (B := wr.heap.size) (by go_grown) (p := ⟨g2, o2 + u * 3, none⟩) lg |>.trans p0); clear b5)
                        go_returns
                        exact ⟨by rw [F.out]; rfl, B.out.trans (((show Below wo.heap.size wo _ from (B2.out.trans ((show Below wr.heap.size wr _ from by go_grown).mono zs)).trans (B5.out.mono (by simp; omega)))).mono B.out.size)⟩
                      · have PL : placeB gs (u + 1) = true := by unfold placeB; rw [AT.out, Nat.add_sub_cancel, ATU.out]; simp [x1, y1, HT.out]
                        have y2 : (y.k == 1) = false := by rw [beq_eq_false_iff_ne]; exact y1
                        have x2 : (x.k == 1) = true := by rw [x1]; rfl
                        have D3 : Hid (∀ j, j < (u + 1) + 1 → placeB gs j = true) := by
                          intro j hj
                          by_cases z : j < u + 1
                          · exact D2.out j z
                          · obtain rfl : j = u + 1 := by omega
                            exact PL
                        clear PL x1 y1
                        go_wp2_with (go_at_call 38; refine Calls.mono (ks _ (by go_grown)) ?_; rintro e w5 ⟨rfl, b5⟩; have B5 := hide b5; have d0 : w5.cell? ⟨wr.heap.size, 0, none⟩ = some (.int .i64 x.k) := (b5.cell (p := ⟨wr.heap.size, 0, none⟩) (by simp)).trans (by simp [go_sem]); have e0 : w5.cell? ⟨g2, o2 + u * 3, none⟩ = some (.int .i64 y.k) := (b5.cell (p := ⟨g2, o2 + u * 3, none⟩) (by simp; omega)).trans (Below.cell (B := wr.heap.size) (by go_grown) (p := ⟨g2, o2 + u * 3, none⟩) lg |>.trans p0); clear b5)
                        go_roundw
                        case rel => exact ⟨u + 1 + 1, by omega, by go_num, hide ((show Below wo.heap.size wo _ from (B2.out.trans ((show Below wr.heap.size wr _ from by go_grown).mono zs)).trans (B5.out.mono (by simp; omega)))), D3⟩
                        case measure => simp [intOf]; omega
                    · have PL : placeB gs (u + 1) = true := by unfold placeB; rw [AT.out, Nat.add_sub_cancel, ATU.out]; simp [x1, HT.out]
                      have x2 : (x.k == 1) = false := by rw [beq_eq_false_iff_ne]; exact x1
                      have D3 : Hid (∀ j, j < (u + 1) + 1 → placeB gs j = true) := by
                        intro j hj
                        by_cases z : j < u + 1
                        · exact D2.out j z
                        · obtain rfl : j = u + 1 := by omega
                          exact PL
                      clear PL x1
                      go_wp2_with (go_at_call 38; refine Calls.mono (ks _ (by go_grown)) ?_; rintro e w5 ⟨rfl, b5⟩; have B5 := hide b5; have d0 : w5.cell? ⟨wr.heap.size, 0, none⟩ = some (.int .i64 x.k) := (b5.cell (p := ⟨wr.heap.size, 0, none⟩) (by simp)).trans (by simp [go_sem]); clear b5)
                      go_roundw
                      case rel => exact ⟨u + 1 + 1, by omega, by go_num, hide ((show Below wo.heap.size wo _ from (B2.out.trans ((show Below wr.heap.size wr _ from by go_grown).mono zs)).trans (B5.out.mono (by simp; omega)))), D3⟩
                      case measure => simp [intOf]; omega
              · obtain rfl : q = m := by omega
                have NY : Hid (nodeMay gs = true) := by
                  show _ = _
                  unfold nodeMay
                  rw [← HM.out, all_yes D2.out]
                  simp [m0]
                have BW := hide (B.out.trans (B2.out.mono B.out.size))
                have D3 : Hid (∀ j (h : j < p.length), j < k + 1 → nodeMay p[j] = true) := by
                  intro j h hj
                  by_cases z : j < k
                  · exact D.out j h z
                  · obtain rfl : j = k := by omega
                    rw [← HGS.out]; exact NY.out
                go_wp2_with fail
                go_roundw
                case rel => exact ⟨k + 1, by omega, by go_num, BW, D3⟩
                case measure => simp [intOf]; omega
        · obtain rfl : k = n := by omega
          have F : Hid (E = true) := by
            show _ = _
            rw [H1.out, List.all_eq_true]
            intro x hx
            obtain ⟨j, hj, rfl⟩ := List.getElem_of_mem hx
            exact D.out j hj (by have := HN.out; omega)
          go_wp2_with fail
          go_returns
          exact ⟨by rw [F.out]; rfl, B.out⟩
    · have F : Hid (E = false) := by have := HE.out; rw [← this]; show _ = _; unfold mayB; rw [← HN.out]; simp [y1, y2]
      go_enter Tryd.func25, Tryd.ntmps25
      go_wp2_with fail
      go_returns
      exact ⟨by rw [F.out]; rfl, by go_grown⟩
  · have F : Hid (E = false) := by have := HE.out; rw [← this]; show _ = _; unfold mayB; rw [← HN.out]; simp [y1]
    go_enter Tryd.func25, Tryd.ntmps25
    go_wp2_with fail
    go_returns
    exact ⟨by rw [F.out]; rfl, by go_grown⟩
end Go.Proofs.YtagahoelojfhcaaDoor
