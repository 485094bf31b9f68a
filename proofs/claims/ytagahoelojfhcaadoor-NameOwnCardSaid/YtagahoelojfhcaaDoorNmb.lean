/- name: mayChoose, mayStand. -/
import Derived.Test.YtagahoelojfhcaaDoorNma
namespace Go.Proofs.YtagahoelojfhcaaDoor
set_option linter.unusedVariables false
set_option linter.unusedSimpArgs false
open Go.RowKit W
/-- What the sizes of a piece may be. -/
structure GlW (g : Gl) : Prop where
  t : g.t.size ≤ 140737488355328
  n : g.al.length ≤ 140737488355328
  a : ∀ x ∈ g.al, x.size ≤ 140737488355328
structure PtW (p : List (List Gl)) : Prop where
  n : p.length ≤ 140737488355328
  m : ∀ gs ∈ p, gs.length ≤ 140737488355328
  g : ∀ gs ∈ p, ∀ g ∈ gs, GlW g
set_option maxRecDepth 100000 in
set_option maxHeartbeats 4000000 in
theorem choose_spec (a : Option Addr) (al : List ByteArray) (c : Nat) (w : World) (ha : IsTxts w a al) (hn : al.length ≤ 140737488355328) (hz : ∀ x ∈ al, x.size ≤ 140737488355328) :
    CalcN 52 #[.slice a al.length c] w (.bool (chooseB al)) := by
  obtain ⟨E, hE⟩ : ∃ E, chooseB al = E := ⟨_, rfl⟩
  rw [hE]
  have HE := hide hE
  have HA := hide ha
  have HZ := hide hz
  clear hE ha hz
  go_enter Tryd.func52, Tryd.ntmps52
  go_wp2_with fail
  go_loop [7] (fun i => ∃ k : Nat, k ≤ al.length ∧ i = .int .i64 (k : Int) ∧ Hid (∀ j (h : j < al.length), j < k → bytesB al[j] = true)) (fun i => al.length - (intOf i).toNat)
  case atStart => exact ⟨0, by omega, rfl, hide (fun j _ h => absurd h (Nat.not_lt_zero _))⟩
  case round =>
    obtain ⟨k, hk, rfl, D⟩ := hrel
    by_cases hlt : k < al.length
    · obtain ⟨g, o, rfl, LA⟩ := HA.out.resolve_left (by intro e; rw [e] at hlt; simp at hlt)
      have c0 := LA.cell k hlt
      have lg := LA.lt
      have kb := bytes_spec al[k] (HZ.out _ (List.getElem_mem _))
      obtain ⟨x, hx⟩ : ∃ x, x = al[k] := ⟨_, rfl⟩
      obtain ⟨t, ht⟩ : ∃ t, bytesB x = t := ⟨_, rfl⟩
      rw [← hx] at c0 kb
      rw [ht] at kb
      have HX := hide hx
      have HT := hide ht
      clear hx ht LA
      cases t
      · have F : Hid (E = false) := by
          have := HE.out; rw [← this]; unfold chooseB
          rw [List.all_eq_false.2 ⟨x, by rw [HX.out]; exact List.getElem_mem _, by rw [HT.out]; decide⟩]; rfl
        go_wp2_with (go_at_call 50; refine (kb _).mono ?_; rintro e w1 ⟨rfl, rfl⟩)
        go_returns
        exact ⟨by rw [F.out]; rfl, rfl⟩
      · have D2 : Hid (∀ j (h : j < al.length), j < k + 1 → bytesB al[j] = true) := by
          intro j h hj
          by_cases q : j < k
          · exact D.out j h q
          · obtain rfl : j = k := by omega
            rw [← HX.out]; exact HT.out
        go_wp2_with (go_at_call 50; refine (kb _).mono ?_; rintro e w1 ⟨rfl, rfl⟩)
        go_round
        case rel => exact ⟨k + 1, by omega, by go_num, D2⟩
        case measure => simp [intOf]; omega
    · obtain rfl : k = al.length := by omega
      have AL : Hid (al.all bytesB = true) := by
        show _ = _
        rw [List.all_eq_true]
        intro x hx
        obtain ⟨j, hj, rfl⟩ := List.getElem_of_mem hx
        exact D.out j hj hj
      by_cases y1 : 1 ≤ al.length
      · by_cases y2 : al.length ≤ 16
        · have F : Hid (E = true) := by show _ = _; have := HE.out; rw [← this]; unfold chooseB; rw [AL.out]; simp [y1, y2]
          go_wp2
          go_returns
          exact ⟨ret_bool (by rw [F.out]; simp; omega), rfl⟩
        · have F : Hid (E = false) := by show _ = _; have := HE.out; rw [← this]; unfold chooseB; rw [AL.out]; simp [y1, y2]
          go_wp2
          go_returns
          exact ⟨ret_bool (by rw [F.out]; simp; omega), rfl⟩
      · have F : Hid (E = false) := by show _ = _; have := HE.out; rw [← this]; unfold chooseB; rw [AL.out]; simp [y1]
        go_wp2
        go_returns
        exact ⟨by rw [F.out]; rfl, rfl⟩
def gV (g : Gl) (a : Option Addr) (c : Nat) : Value := .agg #[.int .i64 g.k, .string g.t, .slice a g.al.length c]
set_option maxRecDepth 100000 in
set_option maxHeartbeats 4000000 in
theorem stand_spec (g : Gl) (gw : GlW g) (a : Option Addr) (c : Nat) (w : World) (ha : IsTxts w a g.al) :
    Calls Tryd.prog 38 #[gV g a c] w fun e w' => e = .returned (.bool (standB g)) ∧ Below w.heap.size w w' := by
  unfold gV
  obtain ⟨k, t, al⟩ := g
  obtain ⟨g1, g2, g3⟩ := gw
  simp only at g1 g2 g3 ha ⊢
  obtain ⟨E, hE⟩ : ∃ E, standB ⟨k, t, al⟩ = E := ⟨_, rfl⟩
  rw [hE]
  have HE := hide hE
  have HA := hide ha
  have HZ := hide g3
  have kb := fun w' => bytes_spec t g1 w'
  have kr := fun w' => rising_spec t g1 w'
  have kc := fun w' (q : IsTxts w' a al) => choose_spec a al c w' q g2 g3
  have lz : ∀ b : Nat, b = al.length → decide (al.length = 0) = decide (b = 0) := fun b h => by rw [h]
  obtain ⟨n, hn⟩ : ∃ n, n = al.length := ⟨_, rfl⟩
  have HN := hide hn
  rw [← hn] at g2 kc ⊢
  clear hE ha g3 lz hn
  by_cases k1 : k = 1
  · have H1 : Hid (E = (decide (t.size ≠ 0) && bytesB t && decide (n = 0))) := by have := HE.out; rw [← this, HN.out]; simp only [standB]; rw [if_pos k1]; exact hide rfl
    subst k1
    by_cases z : t.size = 0
    · have F : Hid (E = false) := by show _ = _; rw [H1.out]; simp [z]
      obtain rfl := str_nil z
      go_enter Tryd.func38, Tryd.ntmps38
      go_wp2_with (first | (go_at_call 50; refine (kb _).mono ?_; rintro e w1 ⟨rfl, rfl⟩) | (go_at_call 51; refine (kr _).mono ?_; rintro e w1 ⟨rfl, n1, rfl⟩) | (go_at_call 52; refine (kc _ (HA.out.later ((Below.refl _ _).alloc (Nat.le_refl _) _))).mono ?_; rintro e w1 ⟨rfl, rfl⟩))
      go_returns
      exact ⟨by rw [F.out]; rfl, by first | (go_grown; done) | exact below_drewN ((Below.refl _ _).alloc (Nat.le_refl _) _) _⟩
    · obtain ⟨z1, z2⟩ := str_ne z
      obtain ⟨b, hb⟩ : ∃ b, bytesB t = b := ⟨_, rfl⟩
      rw [hb] at kb
      cases b
      · have F : Hid (E = false) := by show _ = _; rw [H1.out]; simp [hb]
        clear hb z
        go_enter Tryd.func38, Tryd.ntmps38
        go_wp2_with (first | (go_at_call 50; refine (kb _).mono ?_; rintro e w1 ⟨rfl, rfl⟩) | (go_at_call 51; refine (kr _).mono ?_; rintro e w1 ⟨rfl, n1, rfl⟩) | (go_at_call 52; refine (kc _ (HA.out.later ((Below.refl _ _).alloc (Nat.le_refl _) _))).mono ?_; rintro e w1 ⟨rfl, rfl⟩))
        go_returns
        exact ⟨by rw [F.out]; rfl, by first | (go_grown; done) | exact below_drewN ((Below.refl _ _).alloc (Nat.le_refl _) _) _⟩
      · by_cases nz : n = 0
        · have nz1 : ((n : Int) == 0) = true := by rw [nz]; rfl
          have F : Hid (E = true) := by show _ = _; rw [H1.out]; simp [z, hb, nz]
          clear hb z
          go_enter Tryd.func38, Tryd.ntmps38
          go_wp2_with (first | (go_at_call 50; refine (kb _).mono ?_; rintro e w1 ⟨rfl, rfl⟩) | (go_at_call 51; refine (kr _).mono ?_; rintro e w1 ⟨rfl, n1, rfl⟩) | (go_at_call 52; refine (kc _ (HA.out.later ((Below.refl _ _).alloc (Nat.le_refl _) _))).mono ?_; rintro e w1 ⟨rfl, rfl⟩))
          go_returns
          exact ⟨by rw [F.out]; rfl, by first | (go_grown; done) | exact below_drewN ((Below.refl _ _).alloc (Nat.le_refl _) _) _⟩
        · have nz1 : ((n : Int) == 0) = false := by rw [beq_eq_false_iff_ne]; omega
          have F : Hid (E = false) := by show _ = _; rw [H1.out]; simp [z, hb, nz]
          clear hb z
          go_enter Tryd.func38, Tryd.ntmps38
          go_wp2_with (first | (go_at_call 50; refine (kb _).mono ?_; rintro e w1 ⟨rfl, rfl⟩) | (go_at_call 51; refine (kr _).mono ?_; rintro e w1 ⟨rfl, n1, rfl⟩) | (go_at_call 52; refine (kc _ (HA.out.later ((Below.refl _ _).alloc (Nat.le_refl _) _))).mono ?_; rintro e w1 ⟨rfl, rfl⟩))
          go_returns
          exact ⟨by rw [F.out]; rfl, by first | (go_grown; done) | exact below_drewN ((Below.refl _ _).alloc (Nat.le_refl _) _) _⟩
  have k1b : (k == 1) = false := by rw [beq_eq_false_iff_ne]; exact k1
  by_cases k2 : k = 2 ∨ k = 3
  · have H1 : Hid (E = (decide (t.size = 0) && decide (n = 0))) := by have := HE.out; rw [← this, HN.out]; simp only [standB]; rw [if_neg k1, if_pos k2]; exact hide rfl
    by_cases z : t.size = 0
    · by_cases nz : n = 0
      · have nz1 : ((n : Int) == 0) = true := by rw [nz]; rfl
        have F : Hid (E = true) := by show _ = _; rw [H1.out]; simp [z, nz]
        obtain rfl := str_nil z
        clear z k1 k1b
        rcases k2 with rfl | rfl
        all_goals
          go_enter Tryd.func38, Tryd.ntmps38
          go_wp2_with (first | (go_at_call 50; refine (kb _).mono ?_; rintro e w1 ⟨rfl, rfl⟩) | (go_at_call 51; refine (kr _).mono ?_; rintro e w1 ⟨rfl, n1, rfl⟩) | (go_at_call 52; refine (kc _ (HA.out.later ((Below.refl _ _).alloc (Nat.le_refl _) _))).mono ?_; rintro e w1 ⟨rfl, rfl⟩))
          go_returns
          exact ⟨by rw [F.out]; rfl, by first | (go_grown; done) | exact below_drewN ((Below.refl _ _).alloc (Nat.le_refl _) _) _⟩
      · have nz1 : ((n : Int) == 0) = false := by rw [beq_eq_false_iff_ne]; omega
        have F : Hid (E = false) := by show _ = _; rw [H1.out]; simp [z, nz]
        obtain rfl := str_nil z
        clear z k1 k1b
        rcases k2 with rfl | rfl
        all_goals
          go_enter Tryd.func38, Tryd.ntmps38
          go_wp2_with (first | (go_at_call 50; refine (kb _).mono ?_; rintro e w1 ⟨rfl, rfl⟩) | (go_at_call 51; refine (kr _).mono ?_; rintro e w1 ⟨rfl, n1, rfl⟩) | (go_at_call 52; refine (kc _ (HA.out.later ((Below.refl _ _).alloc (Nat.le_refl _) _))).mono ?_; rintro e w1 ⟨rfl, rfl⟩))
          go_returns
          exact ⟨by rw [F.out]; rfl, by first | (go_grown; done) | exact below_drewN ((Below.refl _ _).alloc (Nat.le_refl _) _) _⟩
    · have F : Hid (E = false) := by show _ = _; rw [H1.out]; simp [z]
      obtain ⟨z1, z2⟩ := str_ne z
      clear z k1 k1b
      rcases k2 with rfl | rfl
      all_goals
        go_enter Tryd.func38, Tryd.ntmps38
        go_wp2_with (first | (go_at_call 50; refine (kb _).mono ?_; rintro e w1 ⟨rfl, rfl⟩) | (go_at_call 51; refine (kr _).mono ?_; rintro e w1 ⟨rfl, n1, rfl⟩) | (go_at_call 52; refine (kc _ (HA.out.later ((Below.refl _ _).alloc (Nat.le_refl _) _))).mono ?_; rintro e w1 ⟨rfl, rfl⟩))
        go_returns
        exact ⟨by rw [F.out]; rfl, by first | (go_grown; done) | exact below_drewN ((Below.refl _ _).alloc (Nat.le_refl _) _) _⟩
  have k2b : (k == 2) = false := by rw [beq_eq_false_iff_ne]; intro e; exact k2 (.inl e)
  have k3b : (k == 3) = false := by rw [beq_eq_false_iff_ne]; intro e; exact k2 (.inr e)
  by_cases k4 : k = 4
  · have H1 : Hid (E = (riseB t && decide (n = 0))) := by have := HE.out; rw [← this, HN.out]; simp only [standB]; rw [if_neg k1, if_neg k2, if_pos k4]; exact hide rfl
    subst k4
    obtain ⟨b, hb⟩ : ∃ b, riseB t = b := ⟨_, rfl⟩
    rw [hb] at kr
    clear k1 k2 k1b k2b k3b
    cases b
    · have F : Hid (E = false) := by show _ = _; rw [H1.out]; simp [hb]
      clear hb
      go_enter Tryd.func38, Tryd.ntmps38
      go_wp2_with (first | (go_at_call 50; refine (kb _).mono ?_; rintro e w1 ⟨rfl, rfl⟩) | (go_at_call 51; refine (kr _).mono ?_; rintro e w1 ⟨rfl, n1, rfl⟩) | (go_at_call 52; refine (kc _ (HA.out.later ((Below.refl _ _).alloc (Nat.le_refl _) _))).mono ?_; rintro e w1 ⟨rfl, rfl⟩))
      go_returns
      exact ⟨by rw [F.out]; rfl, by first | (go_grown; done) | exact below_drewN ((Below.refl _ _).alloc (Nat.le_refl _) _) _⟩
    · by_cases nz : n = 0
      · have nz1 : ((n : Int) == 0) = true := by rw [nz]; rfl
        have F : Hid (E = true) := by show _ = _; rw [H1.out]; simp [hb, nz]
        clear hb
        go_enter Tryd.func38, Tryd.ntmps38
        go_wp2_with (first | (go_at_call 50; refine (kb _).mono ?_; rintro e w1 ⟨rfl, rfl⟩) | (go_at_call 51; refine (kr _).mono ?_; rintro e w1 ⟨rfl, n1, rfl⟩) | (go_at_call 52; refine (kc _ (HA.out.later ((Below.refl _ _).alloc (Nat.le_refl _) _))).mono ?_; rintro e w1 ⟨rfl, rfl⟩))
        go_returns
        exact ⟨by rw [F.out]; rfl, by first | (go_grown; done) | exact below_drewN ((Below.refl _ _).alloc (Nat.le_refl _) _) _⟩
      · have nz1 : ((n : Int) == 0) = false := by rw [beq_eq_false_iff_ne]; omega
        have F : Hid (E = false) := by show _ = _; rw [H1.out]; simp [hb, nz]
        clear hb
        go_enter Tryd.func38, Tryd.ntmps38
        go_wp2_with (first | (go_at_call 50; refine (kb _).mono ?_; rintro e w1 ⟨rfl, rfl⟩) | (go_at_call 51; refine (kr _).mono ?_; rintro e w1 ⟨rfl, n1, rfl⟩) | (go_at_call 52; refine (kc _ (HA.out.later ((Below.refl _ _).alloc (Nat.le_refl _) _))).mono ?_; rintro e w1 ⟨rfl, rfl⟩))
        go_returns
        exact ⟨by rw [F.out]; rfl, by first | (go_grown; done) | exact below_drewN ((Below.refl _ _).alloc (Nat.le_refl _) _) _⟩
  have k4b : (k == 4) = false := by rw [beq_eq_false_iff_ne]; exact k4
  by_cases k5 : k = 5
  · have H1 : Hid (E = (decide (t.size = 0) && chooseB al)) := by have := HE.out; rw [← this]; simp only [standB]; rw [if_neg k1, if_neg k2, if_neg k4, if_pos k5]; exact hide rfl
    subst k5
    clear k1 k2 k4 k1b k2b k3b k4b
    by_cases z : t.size = 0
    · obtain ⟨b, hb⟩ : ∃ b, chooseB al = b := ⟨_, rfl⟩
      have F : Hid (E = b) := by show _ = _; rw [H1.out]; simp [z, hb]
      rw [hb] at kc
      obtain rfl := str_nil z
      clear hb z
      go_enter Tryd.func38, Tryd.ntmps38
      go_wp2_with (first | (go_at_call 50; refine (kb _).mono ?_; rintro e w1 ⟨rfl, rfl⟩) | (go_at_call 51; refine (kr _).mono ?_; rintro e w1 ⟨rfl, n1, rfl⟩) | (go_at_call 52; refine (kc _ (HA.out.later ((Below.refl _ _).alloc (Nat.le_refl _) _))).mono ?_; rintro e w1 ⟨rfl, rfl⟩))
      go_returns
      exact ⟨by rw [F.out]; rfl, by first | (go_grown; done) | exact below_drewN ((Below.refl _ _).alloc (Nat.le_refl _) _) _⟩
    · have F : Hid (E = false) := by show _ = _; rw [H1.out]; simp [z]
      obtain ⟨z1, z2⟩ := str_ne z
      clear z
      go_enter Tryd.func38, Tryd.ntmps38
      go_wp2_with (first | (go_at_call 50; refine (kb _).mono ?_; rintro e w1 ⟨rfl, rfl⟩) | (go_at_call 51; refine (kr _).mono ?_; rintro e w1 ⟨rfl, n1, rfl⟩) | (go_at_call 52; refine (kc _ (HA.out.later ((Below.refl _ _).alloc (Nat.le_refl _) _))).mono ?_; rintro e w1 ⟨rfl, rfl⟩))
      go_returns
      exact ⟨by rw [F.out]; rfl, by first | (go_grown; done) | exact below_drewN ((Below.refl _ _).alloc (Nat.le_refl _) _) _⟩
  have k5b : (k == 5) = false := by rw [beq_eq_false_iff_ne]; exact k5
  have F : Hid (E = false) := by have := HE.out; rw [← this]; simp only [standB]; rw [if_neg k1, if_neg k2, if_neg k4, if_neg k5]; exact hide rfl
  clear k1 k2 k4 k5
  go_enter Tryd.func38, Tryd.ntmps38
  go_wp2_with (first | (go_at_call 50; refine (kb _).mono ?_; rintro e w1 ⟨rfl, rfl⟩) | (go_at_call 51; refine (kr _).mono ?_; rintro e w1 ⟨rfl, n1, rfl⟩) | (go_at_call 52; refine (kc _ (HA.out.later ((Below.refl _ _).alloc (Nat.le_refl _) _))).mono ?_; rintro e w1 ⟨rfl, rfl⟩))
  go_returns
  exact ⟨by rw [F.out]; rfl, by first | (go_grown; done) | exact below_drewN ((Below.refl _ _).alloc (Nat.le_refl _) _) _⟩
end Go.Proofs.YtagahoelojfhcaaDoor
