/- name: the reference's class. -/
import Derived.Test.YtagahoelojfhcaaDoorNea
import Derived.Test.YtagahoelojfhcaaDoorNcl
namespace Go.Proofs.YtagahoelojfhcaaDoor
set_option linter.unusedVariables false
set_option linter.unusedSimpArgs false
open Go.RowKit W
theorem Ge.set_new {a b : World} {rb i : Nat} {s : ByteArray} {d : Int} (h : Ge a b rb s i d) (l : rb < a.heap.size) {p : Addr} (hp : a.heap.size ≤ p.block) (u : Value) : Ge a (b.setCell p u) rb s i d :=
  ⟨⟨(Below.heap_setCell b p u rb (by omega)).trans h.rd.blk, h.rd.le⟩, h.upd.set_new hp u⟩
theorem Ge.grown_new {a b c : World} {rb i : Nat} {s : ByteArray} {d : Int} {row : Option Nat} (h : Ge a b rb s i d) (l : rb < a.heap.size) (g : b.grownBy c row) (hr : ∀ k, row = some k → a.heap.size ≤ k) : Ge a c rb s i d :=
  ⟨⟨(g.block rb h.rd.lt (fun e => by have := hr rb e.symm; omega)).trans h.rd.blk, h.rd.le⟩, h.upd.grown_new g hr⟩
theorem sort_zero (x : Int) : sortI x = 0 ↔ famI x = 0 := by unfold sortI famI; (repeat' split) <;> omega
theorem sort_eq (x y : Int) : sortI x = sortI y ↔ famI x = famI y := by unfold sortI famI; (repeat' split) <;> omega
theorem cB_small {c : UInt8} (h : cB c = true) : c.toNat < 128 := by
  revert h
  unfold cB clsI famI; simp only [Bool.or_eq_true, decide_eq_true_eq]; (repeat split) <;> omega
theorem fam_small {x : Int} (h : famI x ≠ 0) : 0 ≤ x ∧ x < 128 := by
  revert h
  unfold famI; (repeat split) <;> omega
theorem bit_one (acc : List (UInt8 × UInt8)) (c : UInt8) (q : Nat) : inB (acc ++ [(c, c)]) q = (inB acc q || decide (q = c.toNat)) := by
  unfold inB
  rw [List.any_append]
  congr 1
  simp only [List.any_cons, List.any_nil, Bool.or_false]
  rw [Bool.eq_iff_iff]; simp only [Bool.and_eq_true, decide_eq_true_eq]; omega
theorem bit_two (acc : List (UInt8 × UInt8)) (lo hi : UInt8) (h : lo.toNat ≤ hi.toNat) : (fun i => (inB acc i || decide (i = lo.toNat)) || (decide (lo.toNat ≤ i) && decide (i < hi.toNat + 1))) = inB (acc ++ [(lo, hi)]) := by
  rw [← bit_all]
  funext i
  rw [Bool.eq_iff_iff]; simp only [Bool.or_eq_true, Bool.and_eq_true, decide_eq_true_eq]
  constructor
  · rintro ((h1 | h1) | h1)
    · exact .inl h1
    · exact .inr (by omega)
    · exact .inr h1
  · rintro (h1 | h1)
    · exact .inl (.inl h1)
    · exact .inr h1
def headA (s : ByteArray) (fb : Bool) (j f : Nat) (acc : List (UInt8 × UInt8)) : Nat × Option (List (UInt8 × UInt8)) := if fb = false ∧ nx s j = 93 then (j + 1, some acc) else classA s f j acc
theorem headA_go {s : ByteArray} {j f : Nat} {acc : List (UInt8 × UInt8)} (n : nx s j ≠ 93) : headA s false j f acc = classA s f j acc := by unfold headA; rw [if_neg (fun q => n q.2)]
theorem headA_end {s : ByteArray} {j f : Nat} {acc : List (UInt8 × UInt8)} (n : nx s j = 93) : headA s false j f acc = (j + 1, some acc) := by unfold headA; rw [if_pos ⟨rfl, n⟩]
theorem headA_first {s : ByteArray} {j f : Nat} {acc : List (UInt8 × UInt8)} : headA s true j f acc = classA s f j acc := by unfold headA; rw [if_neg (fun q => by cases q.1)]
theorem head_next {s : ByteArray} {f i j : Nat} {acc : List (UInt8 × UInt8)} {r : UInt8 × UInt8} (hf : s.size < f + i) (hi : i ≤ s.size) (e : itemA s i = (j, some r)) :
    ∃ g, s.size < g + j ∧ classA s f i acc = headA s false j g (acc ++ [r]) := by
  by_cases n : nx s j = 93
  · have := (item_pos e).1
    exact ⟨s.size, by omega, by rw [class_end hf hi e n, headA_end n]⟩
  · obtain ⟨g, hg, h⟩ := class_step (acc := acc) hf hi e n
    exact ⟨g, hg, by rw [h, headA_go n]⟩
def clsS : Option (List (UInt8 × UInt8)) → ByteArray
  | none => ⟨#[]⟩
  | some rs => ⟨(clsT rs).toArray⟩
def clsD : Option (List (UInt8 × UInt8)) → Int
  | none => 31
  | some _ => 0
def ClassE (w : World) (rb i : Nat) (s : ByteArray) (e : Ending) (w' : World) : Prop := e = .returned (.string (clsS (classA s (s.size + 1) i []).2)) ∧ Ge w w' rb s (classA s (s.size + 1) i []).1 (clsD (classA s (s.size + 1) i []).2)
set_option maxRecDepth 100000 in
set_option maxHeartbeats 16000000 in
theorem eclass_spec {w : World} {rb i : Nat} {s : ByteArray} (h : Re w rb s i 0) (hs : s.size ≤ 400) : Calls Tryd.prog 36 #[.pointer (some ⟨rb, 0, none⟩)] w (ClassE w rb i s) := by
  obtain ⟨E, hE⟩ : ∃ E, classA s (s.size + 1) i [] = E := ⟨_, rfl⟩
  have HP : Hid (∀ e w', e = .returned (.string (clsS E.2)) → Ge w w' rb s E.1 (clsD E.2) → ClassE w rb i s e w') := by
    intro e w' h1 h2; unfold ClassE; rw [hE]; exact ⟨h1, h2⟩
  have HE := hide hE
  clear hE
  have HS := hide hs
  have H := hide h
  have le := h.le
  have lr := h.lt
  clear h
  go_enter Tryd.func36, Tryd.ntmps36
  go_wp2_with fail
  go_loopg [4] (s.size - i) (fun k fv wr => ∃ (j f : Nat) (acc : List (UInt8 × UInt8)) (fb : Bool), fv = .bool fb ∧ j + k = s.size ∧ s.size < f + j ∧ Hid (Ge w wr rb s j 0) ∧ Hid (Bits wr w.heap.size (inB acc)) ∧ Hid (headA s fb j f acc = E))
  case atStart =>
    refine ⟨i, s.size + 1, [], true, rfl, by omega, by omega, hide ((Ge.refl H.out).later ((Below.refl _ _).alloc (Nat.le_refl _) _)), ?_, hide (by rw [headA_first]; exact HE.out)⟩
    show Bits _ _ _
    unfold Bits
    rw [show (bitsA (inB [])).toArray = Tryd.zeroCells75 by kernel_rfl]
    exact heap_alloc_new _ _
  case round =>
    obtain ⟨j, f, acc, fb, rfl, hj, hf, G, B, D⟩ := hrel
    have c0 := G.out.rd.c0
    have c1 := G.out.rd.c1
    have c2 := G.out.rd.c2
    have lb := blk_lt B.out
    clear H HE
    cases fb
    · have km := fun t h => more_spec G.out.rd hs 93 (by decide) t h
      cases hb : isB s j 93
      · have D1 : Hid (classA s f j acc = E) := by
          have := D.out
          rw [headA_go (fun q => by unfold isB at hb; rw [q] at hb; exact absurd hb (by decide))] at this
          exact this
        have km1 := km _ hb
        clear hb D km
        go_upto_region 5 with (go_at_call 48; refine Calls.mono km1 ?_; rintro e w1 ⟨rfl, n1, rfl⟩)
        refine abs_wp (fun W => Hid (Ge w W rb s j 0) ∧ Hid (Bits W w.heap.size (inB acc))) ⟨G.out.drewN _, B.out⟩ ?_
        rintro W ⟨GW, BW⟩
        clear km1 c0 c1 c2 lb G B
        have c0 := GW.out.rd.c0
        have c1 := GW.out.rd.c1
        have jl := GW.out.rd.le
        have kf := fun n => fail_spec (GW.out.drewN n).rd 31
        by_cases hlt : j < s.size
        · have e0 : (nx s j).toNat = s[j].toNat := by rw [nx_lt hlt]
          have d1 : decide ((s.size : Int) ≤ (j : Int)) = false := by rw [decide_eq_false_iff_not]; omega
          cases hb : cB (nx s j)
          · have kc := rclb_at s j false hb
            rw [e0] at kc
            have F : Hid (E = (j, none)) := by
              have := D1.out
              rw [class_bad (j := j) hf jl (by unfold itemA; simp only; rw [hb]; rfl)] at this
              exact this.symm
            clear hb D1 e0
            go_wp2_with fail
            go_quiet ((go_at_call 49; exact quiet_calc (kc _)))
            go_wp2_with (go_at_call 24; refine Calls.mono (kf _) ?_; rintro e w2 ⟨rfl, g2⟩; have G2 := hide g2; clear g2)
            go_returns
            exact HP.out _ _ (by rw [F.out]; rfl) (by rw [F.out]; exact (GW.out.drewN _).trans G2.out)
          · have kc := rclb_at s j true hb
            rw [e0] at kc
            have x7 := cB_small hb
            obtain ⟨x, hx⟩ : ∃ x, (nx s j).toNat = x := ⟨_, rfl⟩
            have HX := hide hx
            have HB := hide hb
            have ex : s[j].toNat = x := by rw [← e0]; exact hx
            rw [ex] at kc
            rw [hx] at x7
            have bt := BW.out.at x x7
            have bf := BW.out.free x
            have lb := blk_lt BW.out
            have f1 := GW.out.rd.f1
            clear hb e0 hx kf
            go_wp2_with fail
            go_quiet ((go_at_call 49; exact quiet_calc (kc _)))
            go_wp2_with fail
            go_quiet (fail)
            go_upto_region 11 with (fail)
            refine abs_wp (fun W2 => Hid (Ge w W2 rb s (j + 1) 0) ∧ Hid (Bits W2 w.heap.size (fun q => inB acc q || decide (q = x)))) ⟨?_, ?_⟩ ?_
            · exact hide (((GW.out.drewN _).set_new lr (p := ⟨w.heap.size, x, none⟩) (Nat.le_refl _) _).put (x := (j : Int) + 1) (j + 1) hlt (by omega))
            · exact hide (Bits.upd (Bits.put (show Bits (W.drewN _) w.heap.size (inB acc) from BW.out) x x7 (fun q _ => rfl)) (Re.chg ((GW.out.drewN _).set_new lr (p := ⟨w.heap.size, x, none⟩) (Nat.le_refl _) _).rd _ _) (by decide))
            rintro W2 ⟨G2, B2⟩
            clear c0 c1 bt bf lb f1 kc
            have km := fun t h => more_spec G2.out.rd hs 45 (by decide) t h
            cases hm : isB s (j + 1) 45
            · have km1 := km _ hm
              have m : nx s (j + 1) ≠ 45 := fun q => by unfold isB at hm; rw [q] at hm; exact absurd hm (by decide)
              have it : itemA s j = (j + 1, some (nx s j, nx s j)) := by unfold itemA; simp only; rw [HB.out, if_pos rfl, if_neg m]
              have B3 : Hid (Bits W2 w.heap.size (inB (acc ++ [(nx s j, nx s j)]))) := by
                show Bits _ _ _
                rw [show inB (acc ++ [(nx s j, nx s j)]) = (fun q => inB acc q || decide (q = x)) from funext fun q => by rw [bit_one, HX.out]]
                exact B2.out
              obtain ⟨f', hf', D2⟩ : ∃ f', s.size < f' + (j + 1) ∧ Hid (headA s false (j + 1) f' (acc ++ [(nx s j, nx s j)]) = E) := by
                obtain ⟨g, hg, h⟩ := head_next (acc := acc) hf jl it
                exact ⟨g, hg, hide (by rw [← h]; exact D1.out)⟩
              clear hm m it D1 km
              go_wp2_with (go_at_call 48; refine Calls.mono km1 ?_; rintro e w3 ⟨rfl, n3, rfl⟩)
              go_roundg (gk - 1)
              case measure => omega
              case rel => exact ⟨j + 1, f', _, false, rfl, by omega, hf', hide (G2.out.drewN _), hide (show Bits _ _ _ from B3.out), D2⟩
            · have km1 := km _ hm
              have m : nx s (j + 1) = 45 := UInt8.toNat_inj.1 (by unfold isB at hm; simpa using hm)
              have l1 : j + 1 < s.size := lt_of_nx (by rw [m]; decide)
              have ks := fun w => rsort_spec (x : Int) (by omega) (by omega) w
              have xx : famI (x : Int) = fB (nx s j) := by unfold fB; rw [HX.out]
              obtain ⟨v, hv⟩ : ∃ v, sortI (x : Int) = v := ⟨_, rfl⟩
              rw [hv] at ks
              have HV := hide hv
              have HM := hide m
              have XX := hide xx
              have c1 := G2.out.rd.c1
              have f1 := G2.out.rd.f1
              have kf := fun n => fail_spec (G2.out.drewN n).rd 31
              clear hm m hv km xx
              by_cases v0 : v = 0
              · have F : Hid (E = (j + 1, none)) := by
                  have := D1.out
                  rw [class_bad (j := j + 1) hf jl (by unfold itemA; simp only; rw [HB.out, if_pos rfl, HM.out, if_pos rfl, if_pos (by rw [← XX.out, ← sort_zero, HV.out, v0])])] at this
                  exact this.symm
                subst v0
                clear D1
                go_wp2_with (first | (go_at_call 48; refine Calls.mono km1 ?_; rintro e w3 ⟨rfl, n3, rfl⟩) | (go_at_call 46; refine (ks _).mono ?_; rintro e w4 ⟨rfl, rfl⟩) | (go_at_call 24; refine Calls.mono (kf _) ?_; rintro e w5 ⟨rfl, g5⟩; have G5 := hide g5; clear g5))
                go_returns
                exact HP.out _ _ (by rw [F.out]; rfl) (by rw [F.out]; exact (G2.out.drewN _).trans G5.out)
              · have v1 : (v == 0) = false := by rw [beq_eq_false_iff_ne]; exact v0
                go_upto_region 16 with (first | (go_at_call 48; refine Calls.mono km1 ?_; rintro e w3 ⟨rfl, n3, rfl⟩) | (go_at_call 46; refine (ks _).mono ?_; rintro e w4 ⟨rfl, rfl⟩))
                obtain ⟨p, hp⟩ : ∃ p, p = j + 2 := ⟨_, rfl⟩
                refine abs_wp (fun W3 => Hid (Ge w W3 rb s p 0) ∧ Hid (Bits W3 w.heap.size (fun q => inB acc q || decide (q = x)))) ⟨hide ((G2.out.drewN _).put (x := (j : Int) + 1 + 1) p (by omega) (by omega)), hide (Bits.upd (show Bits (W2.drewN _) w.heap.size _ from B2.out) ((G2.out.drewN _).rd.chg _ _) (by decide))⟩ ?_
                rintro W3 ⟨G3, B3⟩
                have HPp := hide hp
                have jp : j < p := by omega
                have pe : j + 2 = p := hp.symm
                clear km1 kf c1 f1 G2 B2
                have c0 := G3.out.rd.c0
                have c1 := G3.out.rd.c1
                have f1 := G3.out.rd.f1
                have kf := fun n => fail_spec (G3.out.drewN n).rd 31
                have FB : Hid (∀ (q : ¬ (fB (nx s p) = fB (nx s j) ∧ nx s j ≤ nx s p)), E = (p, none)) := by
                  intro q
                  have := D1.out
                  rw [class_bad (j := p) hf jl (by unfold itemA; simp only; rw [HB.out, if_pos rfl, HM.out, if_pos rfl, pe, if_neg (by rw [← XX.out, ← sort_zero, HV.out]; exact v0), if_neg q])] at this
                  exact this.symm
                clear hp pe
                by_cases l2 : p < s.size
                · have d2 : decide (s.size ≤ p) = false := by rw [decide_eq_false_iff_not]; omega
                  have e2 : (nx s p).toNat = s[p].toNat := by rw [nx_lt l2]
                  obtain ⟨y, hy⟩ : ∃ y, s[p].toNat = y := ⟨_, rfl⟩
                  have y7 : y < 256 := by rw [← hy]; exact UInt8.toNat_lt _
                  have YY : Hid ((nx s p).toNat = y) := by show _ = _; rw [e2, hy]
                  have YF : Hid (famI (y : Int) = fB (nx s p)) := by show _ = _; unfold fB; rw [YY.out]
                  clear e2 ks
                  by_cases uv : sortI (y : Int) = sortI (x : Int)
                  · have uv1 : (sortI (y : Int) != sortI (x : Int)) = false := by rw [uv]; simp
                    by_cases xy : x ≤ y
                    · have xy1 : decide (y < x) = false := by rw [decide_eq_false_iff_not]; omega
                      have xy2 : decide ((y : Int) < (x : Int)) = false := by rw [decide_eq_false_iff_not]; omega
                      have it : itemA s j = (j + 3, some (nx s j, nx s p)) := by
                        unfold itemA; simp only
                        rw [HB.out, if_pos rfl, HM.out, if_pos rfl, show j + 2 = p from HPp.out.symm, if_neg (by rw [← XX.out, ← sort_zero, HV.out]; exact v0), if_pos ⟨by rw [← XX.out, ← YF.out, ← sort_eq]; exact uv, by rw [UInt8.le_iff_toNat_le, HX.out, YY.out]; exact xy⟩]
                      have y8 : y < 128 := by
                        have : famI (y : Int) ≠ 0 := fun q => v0 (by rw [← HV.out, ← uv]; exact (sort_zero _).2 q)
                        have := fam_small this
                        omega
                      obtain ⟨f', hf', D2⟩ : ∃ f', s.size < f' + (j + 3) ∧ Hid (headA s false (j + 3) f' (acc ++ [(nx s j, nx s p)]) = E) := by
                        obtain ⟨g, hg, h⟩ := head_next (acc := acc) hf jl it
                        exact ⟨g, hg, hide (by rw [← h]; exact D1.out)⟩
                      clear it D1 kf FB uv
                      go_wp2_with fail
                      go_quiet ((go_at_call 46; exact quiet_calc (rsort_spec _ (by omega) (by omega) _)))
                      go_wp2_with fail
                      clear c0 c1 f1 xy1 xy2 uv1
                      go_loopw [6] (fun b w6 => ∃ n : Nat, x ≤ n ∧ n ≤ y + 1 ∧ b = .int .i64 (n : Int) ∧ Hid (Ge w w6 rb s p 0) ∧ Hid (Bits w6 w.heap.size (fun q => (inB acc q || decide (q = x)) || (decide (x ≤ q) && decide (q < n))))) (fun b _ => y + 1 - (intOf b).toNat)
                      case atStart => exact ⟨x, by omega, by omega, rfl, hide (G3.out.drewN _), hide (by rw [bit_none (fun q => inB acc q || decide (q = x)) x]; exact B3.out)⟩
                      case round =>
                        obtain ⟨n, n1, n2, rfl, G6, B6⟩ := hrel
                        have c0 := G6.out.rd.c0
                        have c1 := G6.out.rd.c1
                        by_cases hn : n ≤ y
                        · have bt := B6.out.at n (by omega)
                          have bf := B6.out.free n
                          have lb := blk_lt B6.out
                          go_wp2_with fail
                          go_quiet (fail)
                          go_wp2_with fail
                          go_roundw
                          case rel => exact ⟨n + 1, by omega, by omega, by go_num, hide ((G6.out.drewN _).set_new lr (Nat.le_refl _) _), hide ((show Bits (wr.drewN _) w.heap.size _ from B6.out).put n (by omega) (fun q _ => bit_step (fun q => inB acc q || decide (q = x)) x n q n1))⟩
                          case measure => simp [intOf]; omega
                        · obtain rfl : n = y + 1 := by omega
                          have f1 := G6.out.rd.f1
                          have B7 : Hid (Bits wr w.heap.size (inB (acc ++ [(nx s j, nx s p)]))) := by
                            show Bits _ _ _
                            rw [← bit_two _ _ _ (by rw [HX.out, YY.out]; exact xy), HX.out, YY.out]
                            exact B6.out
                          go_wp2_with fail
                          go_quiet (fail)
                          go_wp2_with fail
                          go_roundg (gk - 3)
                          case measure => have := HPp.out; omega
                          case rel => exact ⟨j + 3, f', _, false, rfl, by have := HPp.out; omega, hf', hide ((G6.out.drewN _).put (x := (p : Int) + 1) (j + 3) (by have := HPp.out; omega) (by have := HPp.out; omega)), hide (Bits.upd (show Bits (wr.drewN _) w.heap.size _ from B7.out) ((G6.out.drewN _).rd.chg _ _) (by decide)), D2⟩
                    · have xy1 : decide (y < x) = true := by rw [decide_eq_true_eq]; omega
                      have xy2 : decide ((y : Int) < (x : Int)) = true := by rw [decide_eq_true_eq]; omega
                      have F : Hid (E = (p, none)) := FB.out (fun q => xy (by have := q.2; rw [UInt8.le_iff_toNat_le, HX.out, YY.out] at this; exact this))
                      clear D1 FB uv
                      go_wp2_with fail
                      go_quiet ((go_at_call 46; exact quiet_calc (rsort_spec _ (by omega) (by omega) _)))
                      go_wp2_with (go_at_call 24; refine Calls.mono (kf _) ?_; rintro e w5 ⟨rfl, g5⟩; have G5 := hide g5; clear g5)
                      go_returns
                      exact HP.out _ _ (by rw [F.out]; rfl) (by rw [F.out]; exact (G3.out.drewN _).trans G5.out)
                  · have uv1 : (sortI (y : Int) != sortI (x : Int)) = true := by rw [bne_iff_ne]; exact uv
                    have F : Hid (E = (p, none)) := FB.out (fun q => uv (by rw [sort_eq, XX.out, YF.out]; exact q.1))
                    clear D1 FB uv
                    go_wp2_with fail
                    go_quiet ((go_at_call 46; exact quiet_calc (rsort_spec _ (by omega) (by omega) _)))
                    go_wp2_with (go_at_call 24; refine Calls.mono (kf _) ?_; rintro e w5 ⟨rfl, g5⟩; have G5 := hide g5; clear g5)
                    go_returns
                    exact HP.out _ _ (by rw [F.out]; rfl) (by rw [F.out]; exact (G3.out.drewN _).trans G5.out)
                · have d2 : decide (s.size ≤ p) = true := by rw [decide_eq_true_eq]; omega
                  have F : Hid (E = (p, none)) := FB.out (fun q => by
                    have := q.1
                    rw [nx_ge (by omega), fB0, ← XX.out] at this
                    exact v0 (by rw [← HV.out, sort_zero]; exact this.symm))
                  clear D1 FB
                  go_wp2_with fail
                  go_quiet (fail)
                  go_wp2_with (go_at_call 24; refine Calls.mono (kf _) ?_; rintro e w5 ⟨rfl, g5⟩; have G5 := hide g5; clear g5)
                  go_returns
                  exact HP.out _ _ (by rw [F.out]; rfl) (by rw [F.out]; exact (G3.out.drewN _).trans G5.out)
        · have d1 : decide ((s.size : Int) ≤ (j : Int)) = true := by rw [decide_eq_true_eq]; omega
          have F : Hid (E = (j, none)) := by
            have := D1.out
            rw [class_bad (j := j) hf jl (by unfold itemA; simp only; rw [nx_ge (by omega), cB0]; rfl)] at this
            exact this.symm
          clear D1
          go_wp2_with fail
          go_quiet (fail)
          go_wp2_with (go_at_call 24; refine Calls.mono (kf _) ?_; rintro e w2 ⟨rfl, g2⟩; have G2 := hide g2; clear g2)
          go_returns
          exact HP.out _ _ (by rw [F.out]; rfl) (by rw [F.out]; exact (GW.out.drewN _).trans G2.out)
      · have m : nx s j = 93 := UInt8.toNat_inj.1 (by unfold isB at hb; simpa using hb)
        have F : Hid (E = (j + 1, some acc)) := by
          have := D.out
          rw [headA_end m] at this
          exact this.symm
        have jl : j < s.size := lt_of_nx (by rw [m]; decide)
        have km1 := km _ hb
        have f1 := G.out.rd.f1
        clear hb D km m
        go_upto_region 25 with (go_at_call 48; refine Calls.mono km1 ?_; rintro e w1 ⟨rfl, n1, rfl⟩)
        have B2 : Hid (Bits ((wr.drewN n1).setCell ⟨rb, 1, none⟩ (.int .i64 ((j : Int) + 1))) w.heap.size (inB acc)) := Bits.upd B.out (((Upd.of_below (below_drewN (Below.refl _ _) n1) : Upd rb [55] wr (wr.drewN n1))).trans ((G.out.drewN n1).rd.chg _ _)) (by decide)
        refine abs_wp (fun W => Hid (Ge w W rb s (j + 1) 0) ∧ Hid (Bits W w.heap.size (inB acc))) ⟨(G.out.drewN _).put (j + 1) jl (by omega), B2.out⟩ ?_
        rintro W ⟨GW, BW⟩
        clear km1 c0 c1 c2 lb G B B2 f1
        go_wp2_with fail
        go_loopw [7, 8] (fun tv k w5 => ∃ n : Nat, n ≤ 128 ∧ k = .int .i64 (n : Int) ∧ Hid (w5.ownsRow W.heap.size 5 1 tv (txtN acc n).length (rowB (txtN acc n))) ∧ Hid (Below W.heap.size W w5)) (fun _ k _ => 128 - (intOf k).toNat)
        case atStart => exact ⟨0, by omega, rfl, World.ownsRow_nil _ _ _ _, hide (Below.refl _ _)⟩
        case round =>
          obtain ⟨n, hn, rfl, O5, L5⟩ := hrel
          have zl := L5.out.size
          have zb := blk_lt BW.out
          have B5 : Hid (Bits wr w.heap.size (inB acc)) := (L5.out.block _ zb).trans BW.out
          by_cases hlt : n < 128
          · have bt := B5.out.at n hlt
            have lb5 := blk_lt B5.out
            cases hq : inB acc n
            · rw [hq] at bt
              have O6 : Hid (wr.ownsRow W.heap.size 5 1 u7 (txtN acc (n + 1)).length (rowB (txtN acc (n + 1)))) := by rw [txtN_no acc n hq]; exact O5.out
              clear hq
              go_wp2_with fail
              go_roundw
              case rel => exact ⟨n + 1, by omega, by go_num, O6, L5⟩
              case measure => simp [intOf]; omega
            · rw [hq] at bt
              have TY := hide (txtN_yes acc n hq)
              have tl := txtN_len acc n
              have c3 : (txtN acc n).length + 1 ≤ maxLen := by unfold maxLen; omega
              have e8 : ((UInt8.ofNat n).toNat : Int) = (n : Int) := by rw [UInt8.toNat_ofNat']; omega
              have E8 := hide e8
              obtain ⟨i0, hi0, hz0, hz1, hz2⟩ := info_parts info_byte
              have HI2 : Hid (Tryd.prog.info? 5 = some i0 ∧ i0.zero = some (.int .u8 0) ∧ i0.size = 1 ∧ i0.bytes = 1) := ⟨hi0, hz0, hz1, hz2⟩
              clear hi0 hz0 hz1 hz2 hq e8
              go_wp2_with (
                at_builtin
                refine wpList_append_own _ rfl _ _ 78 rfl W.heap.size 5 i0 (.int .u8 0) 1 1 Tryd.underlying78 HI2.out.1 HI2.out.2.1 HI2.out.2.2.1 HI2.out.2.2.2 ?a1 ?a2 u7 (txtN acc n).length (rowB (txtN acc n)) ?a3 ?a4 ⟨wr.heap.size, 0, none⟩ 1 1 [.int .u8 (n : Int)] ?a5 ?a6 ?a7 ?a8 ?a9 ?b1 ?b2 ?_
                case a1 => rfl
                case a2 => decide
                case a3 => rfl
                case a4 => exact O5.out.alloc _
                case a5 => rfl
                case a6 => rfl
                case a7 => exact cell_one_new _ _ _
                case a8 => exact one_byt
                case a9 => exact c3
                case b1 => omega
                case b2 => (simp; omega)
                intro v' w1 hown' hgrow hnil)
              go_roundw
              case rel => exact ⟨n + 1, by omega, by go_num, hide (by
                rw [TY.out, List.length_append, rowB_app]
                have : rowB [UInt8.ofNat n] = [.int .u8 (n : Int)] := by show [Value.int .u8 ((UInt8.ofNat n).toNat : Int)] = _; rw [E8.out]
                rw [this]; exact hown'), hide (Below.grown (L5.out.alloc zl _) hgrow (by simp; omega) (fun k hk => (O5.out.lt k hk).1))⟩
              case measure => simp [intOf]; omega
          · obtain rfl : n = 128 := by omega
            have cv := conv_own O5.out
            go_wp2_with fail
            go_returns
            exact HP.out _ _ (by rw [F.out]; rfl) (by rw [F.out]; exact GW.out.later L5.out)
    · have D1 : Hid (classA s f j acc = E) := by have := D.out; rw [headA_first] at this; exact this
      clear D
      go_upto_region 5 with (fail)
      refine abs_wp (fun W => Hid (Ge w W rb s j 0) ∧ Hid (Bits W w.heap.size (inB acc))) ⟨G.out, B.out⟩ ?_
      rintro W ⟨GW, BW⟩
      clear c0 c1 c2 lb G B
      have c0 := GW.out.rd.c0
      have c1 := GW.out.rd.c1
      have jl := GW.out.rd.le
      have kf := fun n => fail_spec (GW.out.drewN n).rd 31
      by_cases hlt : j < s.size
      · have e0 : (nx s j).toNat = s[j].toNat := by rw [nx_lt hlt]
        have d1 : decide ((s.size : Int) ≤ (j : Int)) = false := by rw [decide_eq_false_iff_not]; omega
        cases hb : cB (nx s j)
        · have kc := rclb_at s j false hb
          rw [e0] at kc
          have F : Hid (E = (j, none)) := by
            have := D1.out
            rw [class_bad (j := j) hf jl (by unfold itemA; simp only; rw [hb]; rfl)] at this
            exact this.symm
          clear hb D1 e0
          go_wp2_with fail
          go_quiet ((go_at_call 49; exact quiet_calc (kc _)))
          go_wp2_with (go_at_call 24; refine Calls.mono (kf _) ?_; rintro e w2 ⟨rfl, g2⟩; have G2 := hide g2; clear g2)
          go_returns
          exact HP.out _ _ (by rw [F.out]; rfl) (by rw [F.out]; exact (GW.out.drewN _).trans G2.out)
        · have kc := rclb_at s j true hb
          rw [e0] at kc
          have x7 := cB_small hb
          obtain ⟨x, hx⟩ : ∃ x, (nx s j).toNat = x := ⟨_, rfl⟩
          have HX := hide hx
          have HB := hide hb
          have ex : s[j].toNat = x := by rw [← e0]; exact hx
          rw [ex] at kc
          rw [hx] at x7
          have bt := BW.out.at x x7
          have bf := BW.out.free x
          have lb := blk_lt BW.out
          have f1 := GW.out.rd.f1
          clear hb e0 hx kf
          go_wp2_with fail
          go_quiet ((go_at_call 49; exact quiet_calc (kc _)))
          go_wp2_with fail
          go_quiet (fail)
          go_upto_region 11 with (fail)
          refine abs_wp (fun W2 => Hid (Ge w W2 rb s (j + 1) 0) ∧ Hid (Bits W2 w.heap.size (fun q => inB acc q || decide (q = x)))) ⟨?_, ?_⟩ ?_
          · exact hide (((GW.out.drewN _).set_new lr (p := ⟨w.heap.size, x, none⟩) (Nat.le_refl _) _).put (x := (j : Int) + 1) (j + 1) hlt (by omega))
          · exact hide (Bits.upd (Bits.put (show Bits (W.drewN _) w.heap.size (inB acc) from BW.out) x x7 (fun q _ => rfl)) (Re.chg ((GW.out.drewN _).set_new lr (p := ⟨w.heap.size, x, none⟩) (Nat.le_refl _) _).rd _ _) (by decide))
          rintro W2 ⟨G2, B2⟩
          clear c0 c1 bt bf lb f1 kc
          have km := fun t h => more_spec G2.out.rd hs 45 (by decide) t h
          cases hm : isB s (j + 1) 45
          · have km1 := km _ hm
            have m : nx s (j + 1) ≠ 45 := fun q => by unfold isB at hm; rw [q] at hm; exact absurd hm (by decide)
            have it : itemA s j = (j + 1, some (nx s j, nx s j)) := by unfold itemA; simp only; rw [HB.out, if_pos rfl, if_neg m]
            have B3 : Hid (Bits W2 w.heap.size (inB (acc ++ [(nx s j, nx s j)]))) := by
              show Bits _ _ _
              rw [show inB (acc ++ [(nx s j, nx s j)]) = (fun q => inB acc q || decide (q = x)) from funext fun q => by rw [bit_one, HX.out]]
              exact B2.out
            obtain ⟨f', hf', D2⟩ : ∃ f', s.size < f' + (j + 1) ∧ Hid (headA s false (j + 1) f' (acc ++ [(nx s j, nx s j)]) = E) := by
              obtain ⟨g, hg, h⟩ := head_next (acc := acc) hf jl it
              exact ⟨g, hg, hide (by rw [← h]; exact D1.out)⟩
            clear hm m it D1 km
            go_wp2_with (go_at_call 48; refine Calls.mono km1 ?_; rintro e w3 ⟨rfl, n3, rfl⟩)
            go_roundg (gk - 1)
            case measure => omega
            case rel => exact ⟨j + 1, f', _, false, rfl, by omega, hf', hide (G2.out.drewN _), hide (show Bits _ _ _ from B3.out), D2⟩
          · have km1 := km _ hm
            have m : nx s (j + 1) = 45 := UInt8.toNat_inj.1 (by unfold isB at hm; simpa using hm)
            have l1 : j + 1 < s.size := lt_of_nx (by rw [m]; decide)
            have ks := fun w => rsort_spec (x : Int) (by omega) (by omega) w
            have xx : famI (x : Int) = fB (nx s j) := by unfold fB; rw [HX.out]
            obtain ⟨v, hv⟩ : ∃ v, sortI (x : Int) = v := ⟨_, rfl⟩
            rw [hv] at ks
            have HV := hide hv
            have HM := hide m
            have XX := hide xx
            have c1 := G2.out.rd.c1
            have f1 := G2.out.rd.f1
            have kf := fun n => fail_spec (G2.out.drewN n).rd 31
            clear hm m hv km xx
            by_cases v0 : v = 0
            · have F : Hid (E = (j + 1, none)) := by
                have := D1.out
                rw [class_bad (j := j + 1) hf jl (by unfold itemA; simp only; rw [HB.out, if_pos rfl, HM.out, if_pos rfl, if_pos (by rw [← XX.out, ← sort_zero, HV.out, v0])])] at this
                exact this.symm
              subst v0
              clear D1
              go_wp2_with (first | (go_at_call 48; refine Calls.mono km1 ?_; rintro e w3 ⟨rfl, n3, rfl⟩) | (go_at_call 46; refine (ks _).mono ?_; rintro e w4 ⟨rfl, rfl⟩) | (go_at_call 24; refine Calls.mono (kf _) ?_; rintro e w5 ⟨rfl, g5⟩; have G5 := hide g5; clear g5))
              go_returns
              exact HP.out _ _ (by rw [F.out]; rfl) (by rw [F.out]; exact (G2.out.drewN _).trans G5.out)
            · have v1 : (v == 0) = false := by rw [beq_eq_false_iff_ne]; exact v0
              go_upto_region 16 with (first | (go_at_call 48; refine Calls.mono km1 ?_; rintro e w3 ⟨rfl, n3, rfl⟩) | (go_at_call 46; refine (ks _).mono ?_; rintro e w4 ⟨rfl, rfl⟩))
              obtain ⟨p, hp⟩ : ∃ p, p = j + 2 := ⟨_, rfl⟩
              refine abs_wp (fun W3 => Hid (Ge w W3 rb s p 0) ∧ Hid (Bits W3 w.heap.size (fun q => inB acc q || decide (q = x)))) ⟨hide ((G2.out.drewN _).put (x := (j : Int) + 1 + 1) p (by omega) (by omega)), hide (Bits.upd (show Bits (W2.drewN _) w.heap.size _ from B2.out) ((G2.out.drewN _).rd.chg _ _) (by decide))⟩ ?_
              rintro W3 ⟨G3, B3⟩
              have HPp := hide hp
              have jp : j < p := by omega
              have pe : j + 2 = p := hp.symm
              clear km1 kf c1 f1 G2 B2
              have c0 := G3.out.rd.c0
              have c1 := G3.out.rd.c1
              have f1 := G3.out.rd.f1
              have kf := fun n => fail_spec (G3.out.drewN n).rd 31
              have FB : Hid (∀ (q : ¬ (fB (nx s p) = fB (nx s j) ∧ nx s j ≤ nx s p)), E = (p, none)) := by
                intro q
                have := D1.out
                rw [class_bad (j := p) hf jl (by unfold itemA; simp only; rw [HB.out, if_pos rfl, HM.out, if_pos rfl, pe, if_neg (by rw [← XX.out, ← sort_zero, HV.out]; exact v0), if_neg q])] at this
                exact this.symm
              clear hp pe
              by_cases l2 : p < s.size
              · have d2 : decide (s.size ≤ p) = false := by rw [decide_eq_false_iff_not]; omega
                have e2 : (nx s p).toNat = s[p].toNat := by rw [nx_lt l2]
                obtain ⟨y, hy⟩ : ∃ y, s[p].toNat = y := ⟨_, rfl⟩
                have y7 : y < 256 := by rw [← hy]; exact UInt8.toNat_lt _
                have YY : Hid ((nx s p).toNat = y) := by show _ = _; rw [e2, hy]
                have YF : Hid (famI (y : Int) = fB (nx s p)) := by show _ = _; unfold fB; rw [YY.out]
                clear e2 ks
                by_cases uv : sortI (y : Int) = sortI (x : Int)
                · have uv1 : (sortI (y : Int) != sortI (x : Int)) = false := by rw [uv]; simp
                  by_cases xy : x ≤ y
                  · have xy1 : decide (y < x) = false := by rw [decide_eq_false_iff_not]; omega
                    have xy2 : decide ((y : Int) < (x : Int)) = false := by rw [decide_eq_false_iff_not]; omega
                    have it : itemA s j = (j + 3, some (nx s j, nx s p)) := by
                      unfold itemA; simp only
                      rw [HB.out, if_pos rfl, HM.out, if_pos rfl, show j + 2 = p from HPp.out.symm, if_neg (by rw [← XX.out, ← sort_zero, HV.out]; exact v0), if_pos ⟨by rw [← XX.out, ← YF.out, ← sort_eq]; exact uv, by rw [UInt8.le_iff_toNat_le, HX.out, YY.out]; exact xy⟩]
                    have y8 : y < 128 := by
                      have : famI (y : Int) ≠ 0 := fun q => v0 (by rw [← HV.out, ← uv]; exact (sort_zero _).2 q)
                      have := fam_small this
                      omega
                    obtain ⟨f', hf', D2⟩ : ∃ f', s.size < f' + (j + 3) ∧ Hid (headA s false (j + 3) f' (acc ++ [(nx s j, nx s p)]) = E) := by
                      obtain ⟨g, hg, h⟩ := head_next (acc := acc) hf jl it
                      exact ⟨g, hg, hide (by rw [← h]; exact D1.out)⟩
                    clear it D1 kf FB uv
                    go_wp2_with fail
                    go_quiet ((go_at_call 46; exact quiet_calc (rsort_spec _ (by omega) (by omega) _)))
                    go_wp2_with fail
                    clear c0 c1 f1 xy1 xy2 uv1
                    go_loopw [6] (fun b w6 => ∃ n : Nat, x ≤ n ∧ n ≤ y + 1 ∧ b = .int .i64 (n : Int) ∧ Hid (Ge w w6 rb s p 0) ∧ Hid (Bits w6 w.heap.size (fun q => (inB acc q || decide (q = x)) || (decide (x ≤ q) && decide (q < n))))) (fun b _ => y + 1 - (intOf b).toNat)
                    case atStart => exact ⟨x, by omega, by omega, rfl, hide (G3.out.drewN _), hide (by rw [bit_none (fun q => inB acc q || decide (q = x)) x]; exact B3.out)⟩
                    case round =>
                      obtain ⟨n, n1, n2, rfl, G6, B6⟩ := hrel
                      have c0 := G6.out.rd.c0
                      have c1 := G6.out.rd.c1
                      by_cases hn : n ≤ y
                      · have bt := B6.out.at n (by omega)
                        have bf := B6.out.free n
                        have lb := blk_lt B6.out
                        go_wp2_with fail
                        go_quiet (fail)
                        go_wp2_with fail
                        go_roundw
                        case rel => exact ⟨n + 1, by omega, by omega, by go_num, hide ((G6.out.drewN _).set_new lr (Nat.le_refl _) _), hide ((show Bits (wr.drewN _) w.heap.size _ from B6.out).put n (by omega) (fun q _ => bit_step (fun q => inB acc q || decide (q = x)) x n q n1))⟩
                        case measure => simp [intOf]; omega
                      · obtain rfl : n = y + 1 := by omega
                        have f1 := G6.out.rd.f1
                        have B7 : Hid (Bits wr w.heap.size (inB (acc ++ [(nx s j, nx s p)]))) := by
                          show Bits _ _ _
                          rw [← bit_two _ _ _ (by rw [HX.out, YY.out]; exact xy), HX.out, YY.out]
                          exact B6.out
                        go_wp2_with fail
                        go_quiet (fail)
                        go_wp2_with fail
                        go_roundg (gk - 3)
                        case measure => have := HPp.out; omega
                        case rel => exact ⟨j + 3, f', _, false, rfl, by have := HPp.out; omega, hf', hide ((G6.out.drewN _).put (x := (p : Int) + 1) (j + 3) (by have := HPp.out; omega) (by have := HPp.out; omega)), hide (Bits.upd (show Bits (wr.drewN _) w.heap.size _ from B7.out) ((G6.out.drewN _).rd.chg _ _) (by decide)), D2⟩
                  · have xy1 : decide (y < x) = true := by rw [decide_eq_true_eq]; omega
                    have xy2 : decide ((y : Int) < (x : Int)) = true := by rw [decide_eq_true_eq]; omega
                    have F : Hid (E = (p, none)) := FB.out (fun q => xy (by have := q.2; rw [UInt8.le_iff_toNat_le, HX.out, YY.out] at this; exact this))
                    clear D1 FB uv
                    go_wp2_with fail
                    go_quiet ((go_at_call 46; exact quiet_calc (rsort_spec _ (by omega) (by omega) _)))
                    go_wp2_with (go_at_call 24; refine Calls.mono (kf _) ?_; rintro e w5 ⟨rfl, g5⟩; have G5 := hide g5; clear g5)
                    go_returns
                    exact HP.out _ _ (by rw [F.out]; rfl) (by rw [F.out]; exact (G3.out.drewN _).trans G5.out)
                · have uv1 : (sortI (y : Int) != sortI (x : Int)) = true := by rw [bne_iff_ne]; exact uv
                  have F : Hid (E = (p, none)) := FB.out (fun q => uv (by rw [sort_eq, XX.out, YF.out]; exact q.1))
                  clear D1 FB uv
                  go_wp2_with fail
                  go_quiet ((go_at_call 46; exact quiet_calc (rsort_spec _ (by omega) (by omega) _)))
                  go_wp2_with (go_at_call 24; refine Calls.mono (kf _) ?_; rintro e w5 ⟨rfl, g5⟩; have G5 := hide g5; clear g5)
                  go_returns
                  exact HP.out _ _ (by rw [F.out]; rfl) (by rw [F.out]; exact (G3.out.drewN _).trans G5.out)
              · have d2 : decide (s.size ≤ p) = true := by rw [decide_eq_true_eq]; omega
                have F : Hid (E = (p, none)) := FB.out (fun q => by
                  have := q.1
                  rw [nx_ge (by omega), fB0, ← XX.out] at this
                  exact v0 (by rw [← HV.out, sort_zero]; exact this.symm))
                clear D1 FB
                go_wp2_with fail
                go_quiet (fail)
                go_wp2_with (go_at_call 24; refine Calls.mono (kf _) ?_; rintro e w5 ⟨rfl, g5⟩; have G5 := hide g5; clear g5)
                go_returns
                exact HP.out _ _ (by rw [F.out]; rfl) (by rw [F.out]; exact (G3.out.drewN _).trans G5.out)
      · have d1 : decide ((s.size : Int) ≤ (j : Int)) = true := by rw [decide_eq_true_eq]; omega
        have F : Hid (E = (j, none)) := by
          have := D1.out
          rw [class_bad (j := j) hf jl (by unfold itemA; simp only; rw [nx_ge (by omega), cB0]; rfl)] at this
          exact this.symm
        clear D1
        go_wp2_with fail
        go_quiet (fail)
        go_wp2_with (go_at_call 24; refine Calls.mono (kf _) ?_; rintro e w2 ⟨rfl, g2⟩; have G2 := hide g2; clear g2)
        go_returns
        exact HP.out _ _ (by rw [F.out]; rfl) (by rw [F.out]; exact (GW.out.drewN _).trans G2.out)
end Go.Proofs.YtagahoelojfhcaaDoor
