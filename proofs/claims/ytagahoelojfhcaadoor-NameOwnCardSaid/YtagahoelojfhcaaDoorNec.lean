/- name: the reference's choice. -/
import Derived.Test.YtagahoelojfhcaaDoorNeb
import Derived.Test.YtagahoelojfhcaaDoorNch
import Derived.Laws.OwnMore
namespace Go.Proofs.YtagahoelojfhcaaDoor
set_option linter.unusedVariables false
set_option linter.unusedSimpArgs false
open Go.RowKit W
/-- A choice behind its text: what comes next. -/
def headC (s : ByteArray) (f T : Nat) (acc : List ByteArray) : Nat × Except Int (List ByteArray) :=
  if nx s T = 125 then (T + 1, .ok acc)
  else if nx s T = 44 then (if acc.length = 16 then (T, .error 3) else choiceA s f (T + 1) acc)
  else (T, .error 31)
theorem head_choice {s : ByteArray} {f i : Nat} {acc : List ByteArray} : choiceA s (f + 1) i acc = headC s f (textE s (s.size + 1) i) (acc ++ [s.extract i (textE s (s.size + 1) i)]) := by
  rw [choiceA, headC]
theorem headC_yes {s : ByteArray} {f T : Nat} {acc : List ByteArray} (m : nx s T = 125) : headC s f T acc = (T + 1, .ok acc) := by unfold headC; rw [if_pos m]
theorem headC_many {s : ByteArray} {f T : Nat} {acc : List ByteArray} (m : nx s T = 44) (h : acc.length = 16) : headC s f T acc = (T, .error 3) := by unfold headC; rw [if_neg (by rw [m]; decide), if_pos m, if_pos h]
theorem headC_bad {s : ByteArray} {f T : Nat} {acc : List ByteArray} (m : nx s T ≠ 44) (n : nx s T ≠ 125) : headC s f T acc = (T, .error 31) := by unfold headC; rw [if_neg n, if_neg m]
theorem headC_step {s : ByteArray} {f T : Nat} {acc : List ByteArray} (hf : s.size < f + T + 1) (hT : T ≤ s.size) (m : nx s T = 44) (h : acc.length ≠ 16) :
    T < s.size ∧ ∃ g, s.size < g + textE s (s.size + 1) (T + 1) + 1 ∧ headC s f T acc = headC s g (textE s (s.size + 1) (T + 1)) (acc ++ [s.extract (T + 1) (textE s (s.size + 1) (T + 1))]) := by
  have l : T < s.size := lt_of_nx (by rw [m]; decide)
  have ge := textE_ge s (s.size + 1) (T + 1)
  refine ⟨l, ?_⟩
  cases f with
  | zero => omega
  | succ f =>
    refine ⟨f, by omega, ?_⟩
    rw [← head_choice]
    conv => lhs; unfold headC
    rw [if_neg (by rw [m]; decide), if_pos m, if_neg h]
def ChoiceE (w : World) (rb : Nat) (s : ByteArray) (E : Nat × Except Int (List ByteArray)) (e : Ending) (w' : World) : Prop :=
  match E.2 with
  | .error c => Ge w w' rb s E.1 c ∧ e = .returned (.slice none 0 0)
  | .ok l => Ge w w' rb s E.1 0 ∧ ∃ a c, e = .returned (.slice a l.length c) ∧ TyT w.heap.size w' a l ∧ l.length ≤ c
set_option maxRecDepth 100000 in
set_option maxHeartbeats 8000000 in
theorem echoice_spec {w : World} {rb i : Nat} {s : ByteArray} (h : Re w rb s i 0) (hs : s.size ≤ 400) : Calls Tryd.prog 37 #[.pointer (some ⟨rb, 0, none⟩)] w (ChoiceE w rb s (choiceA s (s.size + 1) i [])) := by
  obtain ⟨E, hE⟩ : ∃ E, choiceA s (s.size + 1) i [] = E := ⟨_, rfl⟩
  rw [hE]
  rw [head_choice] at hE
  have HE := hide hE
  have HS := hide hs
  have lr := h.lt
  have k0 := rtext_spec h hs
  have t0 := textE_le s (s.size + 1) i h.le
  obtain ⟨T0, hT0⟩ : ∃ T0, textE s (s.size + 1) i = T0 := ⟨_, rfl⟩
  rw [hT0] at k0 t0 HE
  clear hE h hT0
  go_enter Tryd.func37, Tryd.ntmps37
  go_wp2_with (go_at_call 35; refine Calls.mono k0 ?_; rintro e w1 ⟨rfl, g1⟩; have G1 := hide g1; clear g1)
  have z1 := G1.out.upd.size
  go_loopg [3] (s.size - T0) (fun k v wr => ∃ (T f : Nat) (acc : List ByteArray), T + k = s.size ∧ s.size < f + T + 1 ∧ acc.length ≤ 16 ∧ 1 ≤ acc.length ∧ Hid (Ge w wr rb s T 0) ∧ Hid (wr.ownsRow w.heap.size 9 1 v acc.length (acc.map Value.string)) ∧ Hid (headC s f T acc = E))
  case atStart =>
    refine ⟨T0, s.size, [s.extract i T0], by omega, by omega, by simp, by simp, hide (G1.out.later ((Below.refl _ _).alloc (Nat.le_refl _) _)), ?_, HE⟩
    exact hide (World.ownsRow_lit (base := w.heap.size) (e := 9) (size := 1) w1 #[.string (s.extract i T0)] 1 z1 (by unfold maxLen; omega) (by simp))
  case round =>
    obtain ⟨T, f, acc, hj, hf, ha, ha1, G, O, D⟩ := hrel
    have Tl : T ≤ s.size := by omega
    have km := fun t h => more_spec G.out.rd hs 44 (by decide) t h
    obtain ⟨A2, C2, rfl, _, _⟩ := own_form O.out
    clear k0 t0 G1 z1 HE
    cases hb : isB s T 44
    · have m : nx s T ≠ 44 := fun q => by unfold isB at hb; rw [q] at hb; exact absurd hb (by decide)
      have km1 := km _ hb
      have kn := fun n t h => more_spec (G.out.drewN n).rd hs 125 (by decide) t h
      clear km hb
      cases hc : isB s T 125
      · have n : nx s T ≠ 125 := fun q => by unfold isB at hc; rw [q] at hc; exact absurd hc (by decide)
        have F : Hid (E = (T, .error 31)) := by have := D.out; rw [headC_bad m n] at this; exact this.symm
        have kn1 := fun n => kn n _ hc
        have kf := fun n => fail_spec (G.out.drewN n).rd 31
        clear kn hc m n D
        go_wp2_with (first | (go_at_call 48; refine Calls.mono km1 ?_; rintro e w2 ⟨rfl, n2, rfl⟩; clear km1) | (go_at_call 48; refine Calls.mono (kn1 _) ?_; rintro e w3 ⟨rfl, n3, rfl⟩; rw [World.drewN_drewN]; clear kn1) | (go_at_call 24; refine Calls.mono (kf _) ?_; rintro e w4 ⟨rfl, g4⟩; have G4 := hide g4; clear g4))
        go_returns
        unfold ChoiceE
        rw [F.out]
        exact ⟨(G.out.drewN _).trans G4.out, rfl⟩
      · have m2 : nx s T = 125 := UInt8.toNat_inj.1 (by unfold isB at hc; simpa using hc)
        have F : Hid (E = (T + 1, .ok acc)) := by have := D.out; rw [headC_yes m2] at this; exact this.symm
        have jl2 : T < s.size := lt_of_nx (by rw [m2]; decide)
        have kn1 := fun n => kn n _ hc
        have c1 := G.out.rd.c1
        have f1 := G.out.rd.f1
        clear kn hc m m2 D
        go_wp2_with (first | (go_at_call 48; refine Calls.mono km1 ?_; rintro e w2 ⟨rfl, n2, rfl⟩; clear km1) | (go_at_call 48; refine Calls.mono (kn1 _) ?_; rintro e w3 ⟨rfl, n3, rfl⟩; rw [World.drewN_drewN]; clear kn1))
        go_returns
        unfold ChoiceE
        rw [F.out]
        obtain ⟨a5, c5, e5, t5, le5⟩ := tyT_of_own O.out rfl
        injection e5 with e5 _ e6
        subst e5 e6
        refine ⟨(G.out.drewN _).put (T + 1) jl2 (by omega), _, _, rfl, (t5.drewN _).set (Sh.of (G.out.drewN _).rd.blk) (by decide) _ _, le5⟩
    · have m : nx s T = 44 := UInt8.toNat_inj.1 (by unfold isB at hb; simpa using hb)
      have km1 := km _ hb
      have jl2 : T < s.size := lt_of_nx (by rw [m]; decide)
      have c1 := G.out.rd.c1
      have f1 := G.out.rd.f1
      clear km hb
      by_cases q : acc.length = 16
      · have F : Hid (E = (T, .error 3)) := by have := D.out; rw [headC_many m q] at this; exact this.symm
        have q2 : ((acc.length : Int) == 16) = true := by rw [beq_iff_eq]; omega
        have q3 : (acc.length == 16) = true := by rw [beq_iff_eq]; omega
        have kf := fun n => fail_spec (G.out.drewN n).rd 3
        clear m D
        go_wp2_with (first | (go_at_call 48; refine Calls.mono km1 ?_; rintro e w2 ⟨rfl, n2, rfl⟩; clear km1) | (go_at_call 24; refine Calls.mono (kf _) ?_; rintro e w4 ⟨rfl, g4⟩; have G4 := hide g4; clear g4))
        go_returns
        unfold ChoiceE
        rw [F.out]
        exact ⟨(G.out.drewN _).trans G4.out, rfl⟩
      · obtain ⟨_, f', hf', hst⟩ := headC_step (acc := acc) hf Tl m q
        have D2 := D.out
        rw [hst] at D2
        have tge := textE_ge s (s.size + 1) (T + 1)
        have tle := textE_le s (s.size + 1) (T + 1) (by omega)
        have q2 : ((acc.length : Int) == 16) = false := by rw [beq_eq_false_iff_ne]; omega
        have q3 : (acc.length == 16) = false := by rw [beq_eq_false_iff_ne]; omega
        have kt := fun W (g : Re W rb s (T + 1) 0) => rtext_spec g hs
        obtain ⟨T2, hT2⟩ : ∃ T2, textE s (s.size + 1) (T + 1) = T2 := ⟨_, rfl⟩
        rw [hT2] at D2 tge tle kt hf'
        have D3 := hide D2
        obtain ⟨i0, hi0, hz0, hz1, hz2⟩ := info_parts info_txt
        have HI2 : Hid (Tryd.prog.info? 9 = some i0 ∧ i0.zero = some (.string ByteArray.empty) ∧ i0.size = 1 ∧ i0.bytes = 16) := ⟨hi0, hz0, hz1, hz2⟩
        clear m D D2 hst hT2 hi0 hz0 hz1 hz2
        go_upto_region 7 with (go_at_call 48; refine Calls.mono km1 ?_; rintro e w2 ⟨rfl, n2, rfl⟩)
        refine abs_wp (fun W => Hid (Ge w W rb s (T + 1) 0) ∧ Hid (W.ownsRow w.heap.size 9 1 (.slice A2 acc.length C2) acc.length (acc.map Value.string))) ⟨(G.out.drewN _).put (T + 1) jl2 (by omega), Upd.row ((G.out.drewN _).rd.chg _ _) (show World.ownsRow (wr.drewN _) _ _ _ _ _ _ from O.out) (by decide)⟩ ?_
        rintro W2 ⟨G2, O2⟩
        have kt2 := kt _ G2.out.rd
        clear km1 c1 f1 G O kt
        go_wp2_with (first
          | (go_at_call 35; refine Calls.mono kt2 ?_; rintro e w3 ⟨rfl, g3⟩; have G3 := hide (G2.out.trans g3); have O3 := hide (Upd.row g3.upd O2.out (by decide)); clear g3)
          | (at_builtin
             refine wpList_append_own _ rfl _ _ 22 rfl w.heap.size 9 i0 (.string ByteArray.empty) 1 16 Tryd.underlying22 HI2.out.1 HI2.out.2.1 HI2.out.2.2.1 HI2.out.2.2.2 ?a1 ?a2 (.slice A2 acc.length C2) acc.length (acc.map Value.string) ?a3 ?a4 ⟨w3.heap.size, 0, none⟩ 1 1 [.string (s.extract (T + 1) T2)] ?a5 ?a6 ?a7 ?a8 ?a9 ?b1 ?b2 ?_
             case a1 => rfl
             case a2 => decide
             case a3 => rfl
             case a4 => exact O3.out.alloc _
             case a5 => rfl
             case a6 => rfl
             case a7 => exact cell_one_new _ _ _
             case a8 => exact one_txt
             case a9 => (unfold maxLen; omega)
             case b1 => omega
             case b2 => (have := G3.out.upd.size; simp; omega)
             intro v' w5 hown' hgrow hnil))
        go_roundg (s.size - T2)
        case measure => omega
        case rel => exact ⟨T2, f', acc ++ [s.extract (T + 1) T2], by omega, hf', by simp; omega, by simp, hide ((G3.out.later ((Below.refl _ _).alloc (Nat.le_refl _) _)).grown_new lr hgrow (fun k hk => (O3.out.lt k hk).1)), hide (by rw [List.length_append, List.map_append]; exact hown'), D3⟩
end Go.Proofs.YtagahoelojfhcaaDoor
