/- Texts that belong together: Nmb Ntx Bld Ntb Ntc Nmc Ntd Nte Rcut3 Nvalb Cutl. -/
import Derived.Test.YteahbdhhcfoiiaaDoorG01
import Derived.Lib.FrozenHead
import Derived.Lib.FrozenHead2
import Derived.Lib.OthersKept
import Derived.Shelf.Strings.Builder1
import Derived.Shelf.Strings.BuilderK
import Derived.Test.YteahbdhhcfoiiaaDoorShelf
import Derived.Deep.RegionHeld3
import Derived.StillTailTactics
import Derived.WalkSpells
set_option linter.unusedSimpArgs false
set_option linter.unusedVariables false
/- name: mayChoose, mayStand. -/
namespace Go.Proofs.YteahbdhhcfoiiaaDoor
set_option linter.unusedVariables false
set_option linter.unusedSimpArgs false
open Go.RowKit W
/-- What the sizes of a piece may be. -/
structure GlW (g : Gl) : Prop where
  t : g.t.size ≤ 140737488355328
  n : g.al.length ≤ 140737488355328
  a : ∀ x ∈ g.al, x.size ≤ 140737488355328
structure PtW (p : List (List Gl)) : Prop where
  n : p.length ≤ 140737488355328
  m : ∀ gs ∈ p, gs.length ≤ 140737488355328
  g : ∀ gs ∈ p, ∀ g ∈ gs, GlW g
set_option maxRecDepth 100000 in
set_option maxHeartbeats 4000000 in
theorem choose_spec (a : Option Addr) (al : List ByteArray) (c : Nat) (w : World) (ha : IsTxts w a al) (hn : al.length ≤ 140737488355328) (hz : ∀ x ∈ al, x.size ≤ 140737488355328) :
    CalcN 86 #[.slice a al.length c] w (.bool (chooseB al)) := by
  obtain ⟨E, hE⟩ : ∃ E, chooseB al = E := ⟨_, rfl⟩
  rw [hE]
  have HE := hide hE
  have HA := hide ha
  have HZ := hide hz
  clear hE ha hz
  go_enter Tryd.func86, Tryd.ntmps86
  go_wp2_with fail
  go_loop [7] (fun i => ∃ k : Nat, k ≤ al.length ∧ i = .int .i64 (k : Int) ∧ Hid (∀ j (h : j < al.length), j < k → bytesB al[j] = true)) (fun i => al.length - (intOf i).toNat)
  case atStart => exact ⟨0, by omega, rfl, hide (fun j _ h => absurd h (Nat.not_lt_zero _))⟩
  case round =>
    obtain ⟨k, hk, rfl, D⟩ := hrel
    by_cases hlt : k < al.length
    · obtain ⟨g, o, rfl, LA⟩ := HA.out.resolve_left (by intro e; rw [e] at hlt; simp at hlt)
      have c0 := LA.cell k hlt
      have lg := LA.lt
      have kb := bytes_spec al[k] (HZ.out _ (List.getElem_mem _))
      obtain ⟨x, hx⟩ : ∃ x, x = al[k] := ⟨_, rfl⟩
      obtain ⟨t, ht⟩ : ∃ t, bytesB x = t := ⟨_, rfl⟩
      rw [← hx] at c0 kb
      rw [ht] at kb
      have HX := hide hx
      have HT := hide ht
      clear hx ht LA
      cases t
      · have F : Hid (E = false) := by
          have := HE.out; rw [← this]; unfold chooseB
          rw [List.all_eq_false.2 ⟨x, by rw [HX.out]; exact List.getElem_mem _, by rw [HT.out]; decide⟩]; rfl
        go_wp2_with (go_at_call 84; refine (kb _).mono ?_; rintro e w1 ⟨rfl, rfl⟩)
        go_returns
        exact ⟨by rw [F.out]; rfl, rfl⟩
      · have D2 : Hid (∀ j (h : j < al.length), j < k + 1 → bytesB al[j] = true) := by
          intro j h hj
          by_cases q : j < k
          · exact D.out j h q
          · obtain rfl : j = k := by omega
            rw [← HX.out]; exact HT.out
        go_wp2_with (go_at_call 84; refine (kb _).mono ?_; rintro e w1 ⟨rfl, rfl⟩)
        go_round
        case rel => exact ⟨k + 1, by omega, by go_num, D2⟩
        case measure => simp [intOf]; omega
    · obtain rfl : k = al.length := by omega
      have AL : Hid (al.all bytesB = true) := by
        show _ = _
        rw [List.all_eq_true]
        intro x hx
        obtain ⟨j, hj, rfl⟩ := List.getElem_of_mem hx
        exact D.out j hj hj
      by_cases y1 : 1 ≤ al.length
      · by_cases y2 : al.length ≤ 16
        · have F : Hid (E = true) := by show _ = _; have := HE.out; rw [← this]; unfold chooseB; rw [AL.out]; simp [y1, y2]
          go_wp2
          go_returns
          exact ⟨ret_bool (by rw [F.out]; simp; omega), rfl⟩
        · have F : Hid (E = false) := by show _ = _; have := HE.out; rw [← this]; unfold chooseB; rw [AL.out]; simp [y1, y2]
          go_wp2
          go_returns
          exact ⟨ret_bool (by rw [F.out]; simp; omega), rfl⟩
      · have F : Hid (E = false) := by show _ = _; have := HE.out; rw [← this]; unfold chooseB; rw [AL.out]; simp [y1]
        go_wp2
        go_returns
        exact ⟨by rw [F.out]; rfl, rfl⟩
def gV (g : Gl) (a : Option Addr) (c : Nat) : Value := .agg #[.int .i64 g.k, .string g.t, .slice a g.al.length c]
set_option maxRecDepth 100000 in
set_option maxHeartbeats 4000000 in
theorem stand_spec (g : Gl) (gw : GlW g) (a : Option Addr) (c : Nat) (w : World) (ha : IsTxts w a g.al) :
    Calls Tryd.prog 64 #[gV g a c] w fun e w' => e = .returned (.bool (standB g)) ∧ Below w.heap.size w w' := by
  unfold gV
  obtain ⟨k, t, al⟩ := g
  obtain ⟨g1, g2, g3⟩ := gw
  simp only at g1 g2 g3 ha ⊢
  obtain ⟨E, hE⟩ : ∃ E, standB ⟨k, t, al⟩ = E := ⟨_, rfl⟩
  rw [hE]
  have HE := hide hE
  have HA := hide ha
  have HZ := hide g3
  have kb := fun w' => bytes_spec t g1 w'
  have kr := fun w' => rising_spec t g1 w'
  have kc := fun w' (q : IsTxts w' a al) => choose_spec a al c w' q g2 g3
  have lz : ∀ b : Nat, b = al.length → decide (al.length = 0) = decide (b = 0) := fun b h => by rw [h]
  obtain ⟨n, hn⟩ : ∃ n, n = al.length := ⟨_, rfl⟩
  have HN := hide hn
  rw [← hn] at g2 kc ⊢
  clear hE ha g3 lz hn
  by_cases k1 : k = 1
  · have H1 : Hid (E = (decide (t.size ≠ 0) && bytesB t && decide (n = 0))) := by have := HE.out; rw [← this, HN.out]; simp only [standB]; rw [if_pos k1]; exact hide rfl
    subst k1
    by_cases z : t.size = 0
    · have F : Hid (E = false) := by show _ = _; rw [H1.out]; simp [z]
      obtain rfl := str_nil z
      go_enter Tryd.func64, Tryd.ntmps64
      go_wp2_with (first | (go_at_call 84; refine (kb _).mono ?_; rintro e w1 ⟨rfl, rfl⟩) | (go_at_call 85; refine (kr _).mono ?_; rintro e w1 ⟨rfl, n1, rfl⟩) | (go_at_call 86; refine (kc _ (HA.out.later ((Below.refl _ _).alloc (Nat.le_refl _) _))).mono ?_; rintro e w1 ⟨rfl, rfl⟩))
      go_returns
      exact ⟨by rw [F.out]; rfl, by first | (go_grown; done) | exact below_drewN ((Below.refl _ _).alloc (Nat.le_refl _) _) _⟩
    · obtain ⟨z1, z2⟩ := str_ne z
      obtain ⟨b, hb⟩ : ∃ b, bytesB t = b := ⟨_, rfl⟩
      rw [hb] at kb
      cases b
      · have F : Hid (E = false) := by show _ = _; rw [H1.out]; simp [hb]
        clear hb z
        go_enter Tryd.func64, Tryd.ntmps64
        go_wp2_with (first | (go_at_call 84; refine (kb _).mono ?_; rintro e w1 ⟨rfl, rfl⟩) | (go_at_call 85; refine (kr _).mono ?_; rintro e w1 ⟨rfl, n1, rfl⟩) | (go_at_call 86; refine (kc _ (HA.out.later ((Below.refl _ _).alloc (Nat.le_refl _) _))).mono ?_; rintro e w1 ⟨rfl, rfl⟩))
        go_returns
        exact ⟨by rw [F.out]; rfl, by first | (go_grown; done) | exact below_drewN ((Below.refl _ _).alloc (Nat.le_refl _) _) _⟩
      · by_cases nz : n = 0
        · have nz1 : ((n : Int) == 0) = true := by rw [nz]; rfl
          have F : Hid (E = true) := by show _ = _; rw [H1.out]; simp [z, hb, nz]
          clear hb z
          go_enter Tryd.func64, Tryd.ntmps64
          go_wp2_with (first | (go_at_call 84; refine (kb _).mono ?_; rintro e w1 ⟨rfl, rfl⟩) | (go_at_call 85; refine (kr _).mono ?_; rintro e w1 ⟨rfl, n1, rfl⟩) | (go_at_call 86; refine (kc _ (HA.out.later ((Below.refl _ _).alloc (Nat.le_refl _) _))).mono ?_; rintro e w1 ⟨rfl, rfl⟩))
          go_returns
          exact ⟨by rw [F.out]; rfl, by first | (go_grown; done) | exact below_drewN ((Below.refl _ _).alloc (Nat.le_refl _) _) _⟩
        · have nz1 : ((n : Int) == 0) = false := by rw [beq_eq_false_iff_ne]; omega
          have F : Hid (E = false) := by show _ = _; rw [H1.out]; simp [z, hb, nz]
          clear hb z
          go_enter Tryd.func64, Tryd.ntmps64
          go_wp2_with (first | (go_at_call 84; refine (kb _).mono ?_; rintro e w1 ⟨rfl, rfl⟩) | (go_at_call 85; refine (kr _).mono ?_; rintro e w1 ⟨rfl, n1, rfl⟩) | (go_at_call 86; refine (kc _ (HA.out.later ((Below.refl _ _).alloc (Nat.le_refl _) _))).mono ?_; rintro e w1 ⟨rfl, rfl⟩))
          go_returns
          exact ⟨by rw [F.out]; rfl, by first | (go_grown; done) | exact below_drewN ((Below.refl _ _).alloc (Nat.le_refl _) _) _⟩
  have k1b : (k == 1) = false := by rw [beq_eq_false_iff_ne]; exact k1
  by_cases k2 : k = 2 ∨ k = 3
  · have H1 : Hid (E = (decide (t.size = 0) && decide (n = 0))) := by have := HE.out; rw [← this, HN.out]; simp only [standB]; rw [if_neg k1, if_pos k2]; exact hide rfl
    by_cases z : t.size = 0
    · by_cases nz : n = 0
      · have nz1 : ((n : Int) == 0) = true := by rw [nz]; rfl
        have F : Hid (E = true) := by show _ = _; rw [H1.out]; simp [z, nz]
        obtain rfl := str_nil z
        clear z k1 k1b
        rcases k2 with rfl | rfl
        all_goals
          go_enter Tryd.func64, Tryd.ntmps64
          go_wp2_with (first | (go_at_call 84; refine (kb _).mono ?_; rintro e w1 ⟨rfl, rfl⟩) | (go_at_call 85; refine (kr _).mono ?_; rintro e w1 ⟨rfl, n1, rfl⟩) | (go_at_call 86; refine (kc _ (HA.out.later ((Below.refl _ _).alloc (Nat.le_refl _) _))).mono ?_; rintro e w1 ⟨rfl, rfl⟩))
          go_returns
          exact ⟨by rw [F.out]; rfl, by first | (go_grown; done) | exact below_drewN ((Below.refl _ _).alloc (Nat.le_refl _) _) _⟩
      · have nz1 : ((n : Int) == 0) = false := by rw [beq_eq_false_iff_ne]; omega
        have F : Hid (E = false) := by show _ = _; rw [H1.out]; simp [z, nz]
        obtain rfl := str_nil z
        clear z k1 k1b
        rcases k2 with rfl | rfl
        all_goals
          go_enter Tryd.func64, Tryd.ntmps64
          go_wp2_with (first | (go_at_call 84; refine (kb _).mono ?_; rintro e w1 ⟨rfl, rfl⟩) | (go_at_call 85; refine (kr _).mono ?_; rintro e w1 ⟨rfl, n1, rfl⟩) | (go_at_call 86; refine (kc _ (HA.out.later ((Below.refl _ _).alloc (Nat.le_refl _) _))).mono ?_; rintro e w1 ⟨rfl, rfl⟩))
          go_returns
          exact ⟨by rw [F.out]; rfl, by first | (go_grown; done) | exact below_drewN ((Below.refl _ _).alloc (Nat.le_refl _) _) _⟩
    · have F : Hid (E = false) := by show _ = _; rw [H1.out]; simp [z]
      obtain ⟨z1, z2⟩ := str_ne z
      clear z k1 k1b
      rcases k2 with rfl | rfl
      all_goals
        go_enter Tryd.func64, Tryd.ntmps64
        go_wp2_with (first | (go_at_call 84; refine (kb _).mono ?_; rintro e w1 ⟨rfl, rfl⟩) | (go_at_call 85; refine (kr _).mono ?_; rintro e w1 ⟨rfl, n1, rfl⟩) | (go_at_call 86; refine (kc _ (HA.out.later ((Below.refl _ _).alloc (Nat.le_refl _) _))).mono ?_; rintro e w1 ⟨rfl, rfl⟩))
        go_returns
        exact ⟨by rw [F.out]; rfl, by first | (go_grown; done) | exact below_drewN ((Below.refl _ _).alloc (Nat.le_refl _) _) _⟩
  have k2b : (k == 2) = false := by rw [beq_eq_false_iff_ne]; intro e; exact k2 (.inl e)
  have k3b : (k == 3) = false := by rw [beq_eq_false_iff_ne]; intro e; exact k2 (.inr e)
  by_cases k4 : k = 4
  · have H1 : Hid (E = (riseB t && decide (n = 0))) := by have := HE.out; rw [← this, HN.out]; simp only [standB]; rw [if_neg k1, if_neg k2, if_pos k4]; exact hide rfl
    subst k4
    obtain ⟨b, hb⟩ : ∃ b, riseB t = b := ⟨_, rfl⟩
    rw [hb] at kr
    clear k1 k2 k1b k2b k3b
    cases b
    · have F : Hid (E = false) := by show _ = _; rw [H1.out]; simp [hb]
      clear hb
      go_enter Tryd.func64, Tryd.ntmps64
      go_wp2_with (first | (go_at_call 84; refine (kb _).mono ?_; rintro e w1 ⟨rfl, rfl⟩) | (go_at_call 85; refine (kr _).mono ?_; rintro e w1 ⟨rfl, n1, rfl⟩) | (go_at_call 86; refine (kc _ (HA.out.later ((Below.refl _ _).alloc (Nat.le_refl _) _))).mono ?_; rintro e w1 ⟨rfl, rfl⟩))
      go_returns
      exact ⟨by rw [F.out]; rfl, by first | (go_grown; done) | exact below_drewN ((Below.refl _ _).alloc (Nat.le_refl _) _) _⟩
    · by_cases nz : n = 0
      · have nz1 : ((n : Int) == 0) = true := by rw [nz]; rfl
        have F : Hid (E = true) := by show _ = _; rw [H1.out]; simp [hb, nz]
        clear hb
        go_enter Tryd.func64, Tryd.ntmps64
        go_wp2_with (first | (go_at_call 84; refine (kb _).mono ?_; rintro e w1 ⟨rfl, rfl⟩) | (go_at_call 85; refine (kr _).mono ?_; rintro e w1 ⟨rfl, n1, rfl⟩) | (go_at_call 86; refine (kc _ (HA.out.later ((Below.refl _ _).alloc (Nat.le_refl _) _))).mono ?_; rintro e w1 ⟨rfl, rfl⟩))
        go_returns
        exact ⟨by rw [F.out]; rfl, by first | (go_grown; done) | exact below_drewN ((Below.refl _ _).alloc (Nat.le_refl _) _) _⟩
      · have nz1 : ((n : Int) == 0) = false := by rw [beq_eq_false_iff_ne]; omega
        have F : Hid (E = false) := by show _ = _; rw [H1.out]; simp [hb, nz]
        clear hb
        go_enter Tryd.func64, Tryd.ntmps64
        go_wp2_with (first | (go_at_call 84; refine (kb _).mono ?_; rintro e w1 ⟨rfl, rfl⟩) | (go_at_call 85; refine (kr _).mono ?_; rintro e w1 ⟨rfl, n1, rfl⟩) | (go_at_call 86; refine (kc _ (HA.out.later ((Below.refl _ _).alloc (Nat.le_refl _) _))).mono ?_; rintro e w1 ⟨rfl, rfl⟩))
        go_returns
        exact ⟨by rw [F.out]; rfl, by first | (go_grown; done) | exact below_drewN ((Below.refl _ _).alloc (Nat.le_refl _) _) _⟩
  have k4b : (k == 4) = false := by rw [beq_eq_false_iff_ne]; exact k4
  by_cases k5 : k = 5
  · have H1 : Hid (E = (decide (t.size = 0) && chooseB al)) := by have := HE.out; rw [← this]; simp only [standB]; rw [if_neg k1, if_neg k2, if_neg k4, if_pos k5]; exact hide rfl
    subst k5
    clear k1 k2 k4 k1b k2b k3b k4b
    by_cases z : t.size = 0
    · obtain ⟨b, hb⟩ : ∃ b, chooseB al = b := ⟨_, rfl⟩
      have F : Hid (E = b) := by show _ = _; rw [H1.out]; simp [z, hb]
      rw [hb] at kc
      obtain rfl := str_nil z
      clear hb z
      go_enter Tryd.func64, Tryd.ntmps64
      go_wp2_with (first | (go_at_call 84; refine (kb _).mono ?_; rintro e w1 ⟨rfl, rfl⟩) | (go_at_call 85; refine (kr _).mono ?_; rintro e w1 ⟨rfl, n1, rfl⟩) | (go_at_call 86; refine (kc _ (HA.out.later ((Below.refl _ _).alloc (Nat.le_refl _) _))).mono ?_; rintro e w1 ⟨rfl, rfl⟩))
      go_returns
      exact ⟨by rw [F.out]; rfl, by first | (go_grown; done) | exact below_drewN ((Below.refl _ _).alloc (Nat.le_refl _) _) _⟩
    · have F : Hid (E = false) := by show _ = _; rw [H1.out]; simp [z]
      obtain ⟨z1, z2⟩ := str_ne z
      clear z
      go_enter Tryd.func64, Tryd.ntmps64
      go_wp2_with (first | (go_at_call 84; refine (kb _).mono ?_; rintro e w1 ⟨rfl, rfl⟩) | (go_at_call 85; refine (kr _).mono ?_; rintro e w1 ⟨rfl, n1, rfl⟩) | (go_at_call 86; refine (kc _ (HA.out.later ((Below.refl _ _).alloc (Nat.le_refl _) _))).mono ?_; rintro e w1 ⟨rfl, rfl⟩))
      go_returns
      exact ⟨by rw [F.out]; rfl, by first | (go_grown; done) | exact below_drewN ((Below.refl _ _).alloc (Nat.le_refl _) _) _⟩
  have k5b : (k == 5) = false := by rw [beq_eq_false_iff_ne]; exact k5
  have F : Hid (E = false) := by have := HE.out; rw [← this]; simp only [standB]; rw [if_neg k1, if_neg k2, if_neg k4, if_neg k5]; exact hide rfl
  clear k1 k2 k4 k5
  go_enter Tryd.func64, Tryd.ntmps64
  go_wp2_with (first | (go_at_call 84; refine (kb _).mono ?_; rintro e w1 ⟨rfl, rfl⟩) | (go_at_call 85; refine (kr _).mono ?_; rintro e w1 ⟨rfl, n1, rfl⟩) | (go_at_call 86; refine (kc _ (HA.out.later ((Below.refl _ _).alloc (Nat.le_refl _) _))).mono ?_; rintro e w1 ⟨rfl, rfl⟩))
  go_returns
  exact ⟨by rw [F.out]; rfl, by first | (go_grown; done) | exact below_drewN ((Below.refl _ _).alloc (Nat.le_refl _) _) _⟩
end Go.Proofs.YteahbdhhcfoiiaaDoor
/- name: patterns' texts, plain. -/
namespace Go.Proofs.YteahbdhhcfoiiaaDoor
set_option linter.unusedVariables false
set_option linter.unusedSimpArgs false
/-- How long the first run of bytes that follow one another is. -/
def runL : List UInt8 → Nat
  | [] => 0
  | c :: r => match r with
    | [] => 1
    | d :: _ => if d.toNat = c.toNat + 1 then 1 + runL r else 1
theorem runL_pos {l : List UInt8} (h : l ≠ []) : 1 ≤ runL l := by
  match l, h with
  | c :: [], _ => simp [runL]
  | c :: d :: r, _ => unfold runL; simp only; split <;> omega
theorem runL_le : ∀ l : List UInt8, runL l ≤ l.length
  | [] => by simp [runL]
  | c :: [] => by simp [runL]
  | c :: d :: r => by
    have := runL_le (d :: r)
    unfold runL; simp only; split
    · simp only [List.length_cons] at this ⊢; omega
    · simp
def uptoL (l : List UInt8) (n : Nat) : Prop := ∀ j, j + 1 < n → (l.getD (j + 1) 0).toNat = (l.getD j 0).toNat + 1
theorem runL_eq : ∀ (l : List UInt8) (n : Nat), 1 ≤ n → n ≤ l.length → uptoL l n → (n = l.length ∨ (l.getD n 0).toNat ≠ (l.getD (n - 1) 0).toNat + 1) → runL l = n
  | [], n, h1, h2, _, _ => by simp at h2; omega
  | c :: [], n, h1, h2, _, _ => by simp at h2; simp [runL]; omega
  | c :: d :: r, n, h1, h2, hu, he => by
    unfold runL; simp only
    by_cases n1 : n = 1
    · subst n1
      rcases he with he | he
      · simp at he
      · simp at he; rw [if_neg (by omega)]
    · have h0 := hu 0 (by omega)
      simp at h0
      rw [if_pos h0]
      have := runL_eq (d :: r) (n - 1) (by omega) (by simp at h2 ⊢; omega) (fun j hj => by have := hu (j + 1) (by omega); simpa using this) (by
        rcases he with he | he
        · left; simp at he ⊢; omega
        · right
          obtain ⟨m, rfl⟩ : ∃ m, n = m + 2 := ⟨n - 2, by omega⟩
          simpa using he)
      omega
theorem uptoL_one (l : List UInt8) : uptoL l 1 := fun j h => absurd h (by omega)
theorem uptoL_more {l : List UInt8} {n : Nat} (h : uptoL l n) (h1 : 1 ≤ n) (e : (l.getD n 0).toNat = (l.getD (n - 1) 0).toNat + 1) : uptoL l (n + 1) := fun j hj => by
  by_cases q : j + 1 < n
  · exact h j q
  · obtain rfl : j = n - 1 := by omega
    rw [show n - 1 + 1 = n by omega]; exact e
/-- One run's text. -/
def pieceL (l : List UInt8) : List UInt8 := if runL l < 3 then l.take (runL l) else [l.getD 0 0, 45, l.getD (runL l - 1) 0]
def rngF : Nat → List UInt8 → List UInt8
  | 0, _ => []
  | f + 1, l => if l = [] then [] else pieceL l ++ rngF f (l.drop (runL l))
def rngT (l : List UInt8) : List UInt8 := rngF l.length l
theorem rngF_nil : ∀ f, rngF f [] = []
  | 0 => rfl
  | f + 1 => by simp [rngF]
theorem rngF_more : ∀ (f g : Nat) (l : List UInt8), l.length ≤ f → l.length ≤ g → rngF f l = rngF g l
  | 0, g, l, h, _ => by
    obtain rfl : l = [] := List.eq_nil_of_length_eq_zero (by omega)
    rw [rngF_nil, rngF_nil]
  | f + 1, 0, l, _, h => by
    obtain rfl : l = [] := List.eq_nil_of_length_eq_zero (by omega)
    rw [rngF_nil, rngF_nil]
  | f + 1, g + 1, l, h, k => by
    unfold rngF
    split
    · rfl
    · rename_i e
      have := runL_pos e
      have hp : 0 < l.length := List.length_pos_iff.2 e
      rw [rngF_more f g _ (by rw [List.length_drop]; omega) (by rw [List.length_drop]; omega)]
theorem rngT_nil : rngT [] = [] := rfl
theorem rngT_step {l : List UInt8} (h : l ≠ []) : rngT l = pieceL l ++ rngT (l.drop (runL l)) := by
  have hp : 0 < l.length := List.length_pos_iff.2 h
  have := runL_pos h
  unfold rngT
  obtain ⟨m, hm⟩ : ∃ m, l.length = m + 1 := ⟨l.length - 1, by omega⟩
  rw [hm]
  rw [show rngF (m + 1) l = pieceL l ++ rngF m (l.drop (runL l)) by rw [rngF]; rw [if_neg h]]
  rw [rngF_more m _ _ (by rw [List.length_drop]; omega) (Nat.le_refl _)]
theorem pieceL_len {l : List UInt8} (h : l ≠ []) : (pieceL l).length ≤ runL l := by
  unfold pieceL
  split
  · simp; omega
  · simp; omega
theorem rngF_len : ∀ (f : Nat) (l : List UInt8), (rngF f l).length ≤ l.length
  | 0, l => by simp [rngF]
  | f + 1, l => by
    unfold rngF
    split
    · simp
    · rename_i e
      have h1 := pieceL_len e
      have h2 := rngF_len f (l.drop (runL l))
      have h3 := runL_le l
      rw [List.length_drop] at h2
      rw [List.length_append]; omega
theorem rngT_len (l : List UInt8) : (rngT l).length ≤ l.length := rngF_len _ _
/-- A choice's texts with commas between. -/
def altsT : List ByteArray → List UInt8
  | [] => []
  | [a] => lst a
  | a :: b :: r => lst a ++ 44 :: altsT (b :: r)
def globT (g : Gl) : List UInt8 :=
  if g.k = 1 then lst g.t
  else if g.k = 2 then [42]
  else if g.k = 3 then [63]
  else if g.k = 4 then 91 :: (rngT (lst g.t) ++ [93])
  else 123 :: (altsT g.al ++ [125])
def nodeT (gs : List Gl) : List UInt8 := gs.flatMap globT
def patT : List (List Gl) → List UInt8
  | [] => []
  | [a] => nodeT a
  | a :: b :: r => nodeT a ++ 46 :: patT (b :: r)
/-- A pattern's weight. -/
def altsW (al : List ByteArray) : Nat := (al.map fun a => a.size + 1).sum
def globW (g : Gl) : Nat := 2 + g.t.size + altsW g.al
def nodeW (gs : List Gl) : Nat := 1 + (gs.map globW).sum
def patW (p : List (List Gl)) : Nat := (p.map nodeW).sum
theorem altsT_len : ∀ al : List ByteArray, (altsT al).length ≤ altsW al
  | [] => by simp [altsT]
  | [a] => by simp [altsT, altsW, lst_len]
  | a :: b :: r => by
    have := altsT_len (b :: r)
    simp only [altsT, altsW, List.map_cons, List.sum_cons, List.length_append, List.length_cons, lst_len] at this ⊢
    omega
theorem globT_len (g : Gl) : (globT g).length ≤ globW g := by
  have h1 := rngT_len (lst g.t)
  have h2 := altsT_len g.al
  rw [lst_len] at h1
  unfold globT globW
  split
  · rw [lst_len]; omega
  split
  · simp; omega
  split
  · simp; omega
  split
  · simp; omega
  · simp; omega
theorem nodeT_len : ∀ gs : List Gl, (nodeT gs).length ≤ (gs.map globW).sum
  | [] => by simp [nodeT]
  | g :: r => by
    have h1 := globT_len g
    have h2 := nodeT_len r
    simp only [nodeT, List.flatMap_cons, List.length_append, List.map_cons, List.sum_cons] at h2 ⊢
    omega
theorem patT_len : ∀ p : List (List Gl), (patT p).length ≤ patW p
  | [] => by simp [patT]
  | [a] => by have := nodeT_len a; simp [patT, patW, nodeW]; omega
  | a :: b :: r => by
    have h1 := nodeT_len a
    have h2 := patT_len (b :: r)
    simp only [patT, patW, nodeW, List.map_cons, List.sum_cons, List.length_append, List.length_cons] at h2 ⊢
    omega
/-- What stands ahead of the n-th node. -/
def headT (p : List (List Gl)) (n : Nat) : List UInt8 := ((p.take n).map fun a => nodeT a ++ [46]).flatten
/-- What is written when n nodes are through and of the next one q pieces. -/
theorem patT_snoc : ∀ (p : List (List Gl)) (a : List Gl), patT (p ++ [a]) = (p.map fun x => nodeT x ++ [46]).flatten ++ nodeT a
  | [], a => by simp [patT]
  | [x], a => by simp [patT]
  | x :: y :: r, a => by
    have := patT_snoc (y :: r) a
    simp only [List.cons_append] at this ⊢
    rw [patT, this]
    simp [List.flatten_cons, List.map_cons]
/-- The first n nodes, with points between. -/
def frontT (p : List (List Gl)) (n : Nat) : List UInt8 := patT (p.take n)
theorem frontT_zero (p : List (List Gl)) : frontT p 0 = [] := rfl
theorem frontT_all (p : List (List Gl)) : frontT p p.length = patT p := by unfold frontT; rw [List.take_length]
theorem patT_more (p : List (List Gl)) (a : List Gl) (h : p ≠ []) : patT (p ++ [a]) = patT p ++ 46 :: nodeT a := by
  induction p with
  | nil => exact absurd rfl h
  | cons x r ih =>
    cases r with
    | nil => simp [patT]
    | cons y r =>
      have := ih (by simp)
      simp only [List.cons_append] at this ⊢
      rw [patT, this, patT]
      simp
theorem frontT_one (p : List (List Gl)) (h : 0 < p.length) : frontT p 1 = nodeT p[0] := by
  unfold frontT
  cases p with
  | nil => simp at h
  | cons x r => simp [patT]
theorem frontT_more (p : List (List Gl)) (n : Nat) (h : n < p.length) (hn : n ≠ 0) : frontT p (n + 1) = frontT p n ++ 46 :: nodeT p[n] := by
  unfold frontT
  rw [List.take_succ_eq_append_getElem h]
  refine patT_more _ _ fun e => ?_
  have := congrArg List.length e
  rw [List.length_take] at this
  simp at this
  rcases this with z | z
  · exact hn z
  · rw [z] at h; simp at h
theorem nodeT_take (gs : List Gl) (q : Nat) (h : q < gs.length) : nodeT (gs.take (q + 1)) = nodeT (gs.take q) ++ globT gs[q] := by
  unfold nodeT
  rw [List.take_succ_eq_append_getElem h, List.flatMap_append]
  simp
/-- Sums over beginnings. -/
theorem sum_take_le {α : Type} (f : α → Nat) : ∀ (l : List α) (n : Nat), ((l.take n).map f).sum ≤ (l.map f).sum
  | [], n => by simp
  | a :: r, 0 => by simp
  | a :: r, n + 1 => by have := sum_take_le f r n; simp only [List.take_succ_cons, List.map_cons, List.sum_cons]; omega
theorem sum_mem_le {α : Type} (f : α → Nat) {a : α} : ∀ {l : List α}, a ∈ l → f a ≤ (l.map f).sum
  | x :: r, h => by
    rcases List.mem_cons.1 h with rfl | h
    · simp only [List.map_cons, List.sum_cons]; omega
    · have := sum_mem_le f h; simp only [List.map_cons, List.sum_cons]; omega
theorem sum_take_one {α : Type} (f : α → Nat) : ∀ (l : List α) (n : Nat) (h : n < l.length), ((l.take n).map f).sum + f l[n] ≤ (l.map f).sum
  | a :: r, 0, h => by simp
  | a :: r, n + 1, h => by
    have := sum_take_one f r n (by simpa using h)
    simp only [List.take_succ_cons, List.map_cons, List.sum_cons, List.getElem_cons_succ]; omega
end Go.Proofs.YteahbdhhcfoiiaaDoor
/- strings.Builder at this program: copyCheck, WriteByte, WriteString, WriteRune at ASCII (abi.NoEscape taken in place), with the frame above the builder. -/
namespace Go.Proofs.YteahbdhhcfoiiaaDoor
set_option linter.unusedVariables false
set_option linter.unusedSimpArgs false
open Go.RowKit W
theorem run_noescape (v : Value) (w : World) : (callFunc 101 #[v]).run Tryd.prog w = .ok (.value v) w := by
  rw [run_callFunc_extern Tryd.func101 (by kernel_rfl) (by kernel_rfl) (by kernel_rfl) (e := Extern.AbiNoEscape.same) (by kernel_rfl)]
  rfl
theorem sizeBld : (Tryd.prog.info? 73).map (·.size) = some 2 := by kernel_rfl
theorem infoByteB : (Tryd.prog.info? 5).map (fun i => (i.zero, i.size, i.bytes)) = some (some (.int .u8 0), 1, 1) := by kernel_rfl
abbrev BlF (b : Nat) (bs : List Value) (w : World) : Prop := Lib.IsBuilderF 73 5 b b bs w
set_option maxHeartbeats 2000000 in
set_option maxRecDepth 100000 in
theorem bld_check {b : Nat} {bs : List Value} {w : World} (h : BlF b bs w) : Calls Tryd.prog 75 #[.pointer (some ⟨b, 0, none⟩)] w fun e w' =>
    e = .returned (.tuple #[]) ∧ (Lib.BuilderAtF 73 5 b b (.pointer (some ⟨b, 0, none⟩)) bs w' ∧ Below b w w' ∧ Lib.OthersKept 5 (some b) w w') := by
  rcases h with h | h
  · obtain ⟨j, hj, hjs⟩ := Option.map_eq_some_iff.1 sizeBld
    have h0 := h.cell0
    have hsh := h.shape
    have hfz := h.frozen0
    go_enter Tryd.func75, Tryd.ntmps75
    go_wp2_with fail
    rw [Lib.run_to_unsafe w ⟨b, 0, none⟩ Tryd.underlying71 Tryd.underlying107 hj (by rw [hjs]; decide) hsh (Nat.zero_lt_succ 1)]
    simp only [Result.andThen]
    rw [Oper.upon_value]
    go_wp2_with fail
    rw [run_noescape]
    rw [Oper.upon_value]
    go_wp2_with fail
    rw [Lib.run_from_unsafe w ⟨b, 0, none⟩ Tryd.underlying107 Tryd.underlying71 hj hsh (by kernel_rfl)]
    simp only [Result.andThen]
    rw [Oper.upon_value]
    go_wp2_with fail
    go_end0
    exact ⟨rfl, h.used _, (Below.refl b w).setCell (p := ⟨b, 0, none⟩) h.1 _, (Lib.OthersKept.refl _ _ w).setCell ⟨b, 0, none⟩ rfl _⟩
  · obtain ⟨j, hj, _⟩ := Option.map_eq_some_iff.1 sizeBld
    have h0 := h.cell0
    go_enter Tryd.func75, Tryd.ntmps75
    go_wp2_with fail
    rw [Lib.run_neq_ptr_same w _ Tryd.underlying71 hj]
    go_wp2_with fail
    go_end0
    exact ⟨rfl, h, Below.refl b _, Lib.OthersKept.refl _ _ _⟩

/-- What a write leaves: a builder with more bytes; nothing else but its rows. -/
structure BlW (b : Nat) (bs : List Value) (w w' : World) : Prop where
  bl : BlF b bs w'
  below : Below b w w'
  keep : Lib.OthersKept 5 (some b) w w'
set_option maxHeartbeats 2000000 in
set_option maxRecDepth 100000 in
theorem bld_byte {b : Nat} {bs : List Value} (c : Int) {w : World} (h : BlF b bs w) (hlen : bs.length + 1 ≤ 140737488355328) (hBw : b ≤ w.heap.size) :
    Calls Tryd.prog 54 #[.pointer (some ⟨b, 0, none⟩), .int .u8 c] w fun e w' => e = .returned .nilIface ∧ BlW b (bs ++ [.int .u8 c]) w w' := by
  obtain ⟨i0, hi, hz0, hz1, hz2⟩ := info_parts infoByteB
  have kc := bld_check h
  go_enter Tryd.func54, Tryd.ntmps54
  go_wp2_with fail
  refine Calls.mono kc ?_
  rintro e w1 ⟨rfl, h1, hb1, hk1⟩
  obtain ⟨hB, v, hbk, hown, hne⟩ := h1
  have c1 : w1.cell? ⟨b, 1, none⟩ = some v := by rw [Lib.cell_of_heap hbk]; rfl
  go_wp2_with (at_builtin; refine wpList_append_ownF _ rfl _ _ 54 rfl b 5 i0 (.int .u8 0) 1 1 Tryd.underlying54 hi hz0 hz1 hz2 rfl (by decide) _ _ _ rfl (hown.alloc _) ⟨w1.heap.size, 0, none⟩ 1 1 [.int .u8 c] rfl rfl ?c1 ?c2 ?c3 ?c4 ?c5 ?_)
  case c1 =>
    intro j u hj
    match j, hj with
    | 0, hj => simp at hj; subst hj; simp [Addr.add]
  case c2 => intro u hu; simp at hu; subst hu; rfl
  case c3 => unfold maxLen; omega
  case c4 => omega
  case c5 => have := hb1.size; simp; omega
  intro v' w2 hown' hgrow _
  have hlt : b < w1.heap.size := by
    rcases Nat.lt_or_ge b w1.heap.size with h' | h'
    · exact h'
    · simp [Array.getElem?_eq_none h'] at hbk
  have hb2 : w2.heap[b]? = some (.cells #[.pointer (some ⟨b, 0, none⟩), v] 73 (0, 0)) := by
    rw [hgrow.block b (by simp; omega) (fun e => hne e.symm), Lib.alloc_old w1 _ b hlt]
    exact hbk
  have d0 : w2.cell? ⟨b, 0, none⟩ = some (.pointer (some ⟨b, 0, none⟩)) := by rw [Lib.cell_of_heap hb2]; rfl
  have d1 : w2.cell? ⟨b, 1, none⟩ = some v := by rw [Lib.cell_of_heap hb2]; rfl
  have f1 : w2.frozen? ⟨b, 1, none⟩ = false := Lib.frozen_of_heap hb2 1
  obtain ⟨g, cap, rfl⟩ : ∃ g cap, v' = .slice (some ⟨g, 0, none⟩) (bs.length + 1) cap := by
    rcases hown'.2 with ⟨_, h0⟩ | ⟨g, cap, cur, fz, hv, _⟩
    · omega
    · exact ⟨g, cap, hv⟩
  go_wp2_with fail
  go_ret
  refine ⟨rfl, Or.inr ?_, ?_, ((hk1.alloc _).grown hgrow (Lib.ownsRowF_kind (hown.alloc _))).setCell ⟨b, 1, none⟩ rfl _⟩
  · exact Lib.BuilderAtF.put (T := 73) (e := 5) hB hb2 (bs' := bs ++ [.int .u8 c]) (by simpa using hown') (by decide)
  · exact ((hb1.alloc (by have := hb1.size; omega) _).grown hgrow (by have := hb1.size; simp; omega) (fun k hk => (hown.lt k hk).1)).setCell (p := ⟨b, 1, none⟩) hB _
set_option maxHeartbeats 2000000 in
set_option maxRecDepth 100000 in
theorem bld_text {b : Nat} {bs : List Value} (s : ByteArray) {w : World} (h : BlF b bs w) (hlen : bs.length + s.size ≤ 140737488355328) (hBw : b ≤ w.heap.size) :
    Calls Tryd.prog 58 #[.pointer (some ⟨b, 0, none⟩), .string s] w fun e w' => e = .returned (.tuple #[.int .i64 s.size, .nilIface]) ∧ BlW b (bs ++ Lib.strCells s) w w' := by
  obtain ⟨i0, hi, hz0, hz1, hz2⟩ := info_parts infoByteB
  have kc := bld_check h
  go_enter Tryd.func58, Tryd.ntmps58
  go_wp2_with fail
  refine Calls.mono kc ?_
  rintro e w1 ⟨rfl, h1, hb1, hk1⟩
  obtain ⟨hB, v, hbk, hown, hne⟩ := h1
  have c1 : w1.cell? ⟨b, 1, none⟩ = some v := by rw [Lib.cell_of_heap hbk]; rfl
  go_wp2_with (at_builtin; refine Lib.wpList_append_own_stringF _ rfl _ _ 54 9 rfl b 5 i0 Tryd.underlying54 Tryd.underlying9 hi hz0 hz1 hz2 _ _ _ rfl hown s rfl ?c3 ?c4 ?c5 ?_)
  case c3 => unfold maxLen; omega
  case c4 => omega
  case c5 => have := hb1.size; omega
  intro v' w2 hown' hgrow _
  have hlt : b < w1.heap.size := by
    rcases Nat.lt_or_ge b w1.heap.size with h' | h'
    · exact h'
    · simp [Array.getElem?_eq_none h'] at hbk
  have hb2 : w2.heap[b]? = some (.cells #[.pointer (some ⟨b, 0, none⟩), v] 73 (0, 0)) := by
    rw [hgrow.block b hlt (fun e => hne e.symm)]
    exact hbk
  have d1 : w2.cell? ⟨b, 1, none⟩ = some v := by rw [Lib.cell_of_heap hb2]; rfl
  have f1 : w2.frozen? ⟨b, 1, none⟩ = false := Lib.frozen_of_heap hb2 1
  obtain ⟨ao, n', cap, rfl⟩ : ∃ ao n' cap, v' = .slice ao n' cap := by
    rcases hown'.2 with ⟨hv, _⟩ | ⟨g, cap, cur, fz, hv, _⟩
    · exact ⟨_, _, _, hv⟩
    · exact ⟨_, _, _, hv⟩
  go_wp2_with fail
  go_ret2
  refine ⟨rfl, Or.inr ?_, ?_, (hk1.grown hgrow (Lib.ownsRowF_kind hown)).setCell ⟨b, 1, none⟩ rfl _⟩
  · exact Lib.BuilderAtF.put (T := 73) (e := 5) hB hb2 (bs' := bs ++ Lib.strCells s) (by simpa [Lib.strCells_length] using hown') (by decide)
  · exact (hb1.grown hgrow (by have := hb1.size; omega) (fun k hk => (hown.lt k hk).1)).setCell (p := ⟨b, 1, none⟩) hB _
set_option maxHeartbeats 2000000 in
set_option maxRecDepth 100000 in
theorem app_rune {b n : Nat} {v : Value} {xs : List Value} (r : Int) (h0 : 0 ≤ r) (h1 : r ≤ 127) {w : World} (hown : w.ownsRowF b 5 1 v n xs) (hlen : n + 1 ≤ 140737488355328) (hBw : b ≤ w.heap.size) :
    Calls Tryd.prog 76 #[v, .int .i32 r] w fun e w' => ∃ v' w1, e = .returned v' ∧ w' = w1 ∧ w1.ownsRowF b 5 1 v' (n + 1) (xs ++ [.int .u8 r]) ∧ (w.alloc (.cells #[.int .u8 r] 5)).grownBy w1 v.ownBlock := by
  obtain ⟨i0, hi, hz0, hz1, hz2⟩ := info_parts infoByteB
  have e8 : IntKind.u8.wrap r = r := by rw [IntKind.wrap_u8]; omega
  have e32 : IntKind.u32.wrap r = r := by rw [IntKind.wrap_u32]; omega
  go_enter Tryd.func76, Tryd.ntmps76
  go_wp2_with (at_builtin; refine wpList_append_ownF _ rfl _ _ 54 rfl b 5 i0 (.int .u8 0) 1 1 Tryd.underlying54 hi hz0 hz1 hz2 rfl (by decide) _ _ _ rfl (hown.alloc _) ⟨w.heap.size, 0, none⟩ 1 1 [.int .u8 r] rfl rfl ?c1 ?c2 ?c3 ?c4 ?c5 ?_)
  case c1 =>
    intro j u hj
    match j, hj with
    | 0, hj => simp at hj; subst hj; simp [Addr.add]
  case c2 => intro u hu; simp at hu; subst hu; rfl
  case c3 => unfold maxLen; omega
  case c4 => omega
  case c5 => simp; omega
  intro v' w2 hown' hgrow _
  go_wp2_with fail
  go_ret
  exact ⟨_, _, rfl, rfl, hown', hgrow⟩
set_option maxHeartbeats 2000000 in
set_option maxRecDepth 100000 in
theorem bld_rune {b : Nat} {bs : List Value} (r : Int) (h0 : 0 ≤ r) (h1 : r ≤ 127) {w : World} (h : BlF b bs w) (hlen : bs.length + 1 ≤ 140737488355328) (hBw : b ≤ w.heap.size) :
    Calls Tryd.prog 55 #[.pointer (some ⟨b, 0, none⟩), .int .i32 r] w fun e w' => e = .returned (.tuple #[.int .i64 1, .nilIface]) ∧ BlW b (bs ++ [.int .u8 r]) w w' := by
  have kc := bld_check h
  go_enter Tryd.func55, Tryd.ntmps55
  go_wp2_with fail
  refine Calls.mono kc ?_
  rintro e w1 ⟨rfl, h1, hb1, hk1⟩
  obtain ⟨hB, v, hbk, hown, hne⟩ := h1
  obtain ⟨ao, cap, hv⟩ : ∃ ao cap, v = .slice ao bs.length cap := by
    rcases hown.2 with ⟨hv, q⟩ | ⟨g, cap, cur, fz, hv, _⟩
    · exact ⟨_, _, by rw [hv, q]⟩
    · exact ⟨_, _, hv⟩
  have c1 : w1.cell? ⟨b, 1, none⟩ = some (.slice ao bs.length cap) := by rw [Lib.cell_of_heap hbk, ← hv]; rfl
  have HB := hide hbk
  have HN := hide hne
  have HV := hide hv
  rw [hv] at hown
  have HO := hide hown
  have sz := hb1.size
  have ka := app_rune r h0 h1 hown hlen (by omega)
  clear hbk hne hv hown kc
  go_wp2_with fail
  refine Calls.mono ka ?_
  rintro e w2 ⟨v', w3, rfl, rfl, hown', hgrow⟩
  obtain ⟨g, cap', rfl⟩ : ∃ g cap, v' = .slice (some ⟨g, 0, none⟩) (bs.length + 1) cap := by
    rcases hown'.2 with ⟨_, q⟩ | ⟨g, cap, cur, fz, hv, _⟩
    · omega
    · exact ⟨g, cap, hv⟩
  have hlt : b < w1.heap.size := by
    rcases Nat.lt_or_ge b w1.heap.size with h' | h'
    · exact h'
    · have := HB.out; simp [Array.getElem?_eq_none h'] at this
  have hb2 : w2.heap[b]? = some (.cells #[.pointer (some ⟨b, 0, none⟩), v] 73 (0, 0)) := by
    rw [hgrow.block b (by simp; omega) (fun e => HN.out (by rw [HV.out]; exact e.symm)), Lib.alloc_old w1 _ b hlt]
    exact HB.out
  have d1 : w2.cell? ⟨b, 1, none⟩ = some v := by rw [Lib.cell_of_heap hb2]; rfl
  have f1 : w2.frozen? ⟨b, 1, none⟩ = false := Lib.frozen_of_heap hb2 1
  have H2 := hide hb2
  have K2 := hide (((hk1.alloc _).grown hgrow (Lib.ownsRowF_kind (HO.out.alloc _))).setCell ⟨b, 1, none⟩ rfl (.slice (some ⟨g, 0, none⟩) (bs.length + 1) cap'))
  have L2 := hide (((hb1.alloc (by have := hb1.size; omega) _).grown hgrow (by have := hb1.size; simp; omega) (fun k hk => (HO.out.lt k hk).1)).setCell (p := ⟨b, 1, none⟩) hB (.slice (some ⟨g, 0, none⟩) (bs.length + 1) cap'))
  have O2 := hide hown'
  clear hb2 hgrow ka hown'
  go_wp2_with fail
  go_ret2
  refine ⟨?_, Or.inr ?_, L2.out, K2.out⟩
  · show Ending.returned (.tuple #[.int .i64 ((bs.length : Int) + 1 - (bs.length : Int)), .nilIface]) = _
    rw [show ((bs.length : Int) + 1 - (bs.length : Int)) = 1 by omega]
  · exact Lib.BuilderAtF.put (T := 73) (e := 5) hB H2.out (bs' := bs ++ [.int .u8 r]) (by simpa using O2.out) (by decide)
end Go.Proofs.YteahbdhhcfoiiaaDoor
/- name: ranges. -/
namespace Go.Proofs.YteahbdhhcfoiiaaDoor
set_option linter.unusedVariables false
set_option linter.unusedSimpArgs false
open Go.RowKit W
theorem getD_lst (t : ByteArray) (j : Nat) (h : j < t.size) : (lst t).getD j 0 = t[j] := by
  rw [List.getD_eq_getElem?_getD, List.getElem?_eq_getElem (by rw [lst_len]; exact h)]
  simp [lst]; rfl
theorem lst_drop (t : ByteArray) (n : Nat) : lst (t.extract n t.size) = (lst t).drop n := by
  unfold lst
  rw [ByteArray.data_extract, Array.toList_extract, List.extract_eq_take_drop, List.take_of_length_le (by simp)]
theorem lst_take (t : ByteArray) (n : Nat) : lst (t.extract 0 n) = (lst t).take n := by
  unfold lst
  rw [ByteArray.data_extract, Array.toList_extract, List.extract_eq_take_drop]
  simp
theorem byteCells_lst (t : ByteArray) : Lib.strCells t = Lib.byteCells (lst t) := rfl
/-- A builder that holds bytes; the blocks above it that hold no bytes stand. -/
structure Bw (w0 : World) (b : Nat) (l : List UInt8) (w : World) : Prop where
  bl : BlF b (Lib.byteCells l) w
  below : Below b w0 w
  keep : Lib.OthersKept 5 (some b) w0 w
theorem Bw.lt {w0 w : World} {b : Nat} {l : List UInt8} (h : Bw w0 b l w) : b < w.heap.size := by
  rcases h.bl with h | h <;> exact h.lt
theorem Bw.write {w0 w w' : World} {b : Nat} {l m : List UInt8} (h : Bw w0 b l w) (k : BlW b (Lib.byteCells l ++ Lib.byteCells m) w w') : Bw w0 b (l ++ m) w' :=
  ⟨by rw [Lib.byteCells_append]; exact k.bl, h.below.trans k.below, h.keep.trans k.keep⟩
theorem ranges_test (t : ByteArray) (h : lst t ≠ []) : t.toList.isEmpty = false := by
  rw [ByteArray.toList_eq]
  show (lst t).isEmpty = false
  cases hl : lst t with
  | nil => exact absurd hl h
  | cons x r => rfl
end Go.Proofs.YteahbdhhcfoiiaaDoor
/- name: ranges, the walk. -/
namespace Go.Proofs.YteahbdhhcfoiiaaDoor
set_option linter.unusedVariables false
set_option linter.unusedSimpArgs false
open Go.RowKit W
theorem lst_app2 (a b : ByteArray) : lst (a ++ b) = lst a ++ lst b := by simp [lst]
theorem piece_three (t : ByteArray) (n : Nat) (h : 1 ≤ n) (hn : n ≤ t.size) : [(lst t).getD 0 0, 45, (lst t).getD (n - 1) 0] = (lst t).take 1 ++ lst ⟨#[45]⟩ ++ lst (t.extract (n - 1) n) := by
  have hl := lst_len t
  cases hc : lst t with
  | nil => rw [hc] at hl; simp at hl; omega
  | cons x r =>
    have e : lst (t.extract (n - 1) n) = [(lst t).getD (n - 1) 0] := by
      unfold lst
      rw [ByteArray.data_extract, Array.toList_extract, List.extract_eq_take_drop]
      have hl' : t.data.toList.length = t.size := hl
      rw [show n - (n - 1) = 1 by omega, List.drop_eq_getElem_cons (by omega)]
      simp [List.getD_eq_getElem?_getD, show n - 1 < t.size by omega]
    rw [e, hc]; rfl
theorem Bw.drewN {w0 w : World} {b : Nat} {l : List UInt8} (h : Bw w0 b l w) (n : Nat) : Bw w0 b l (w.drewN n) := ⟨h.bl, below_drewN h.below n, h.keep⟩
theorem Bw.drew {w0 w : World} {b : Nat} {l : List UInt8} (h : Bw w0 b l w) : Bw w0 b l w.drew := ⟨h.bl, h.below.drew, h.keep⟩
theorem Bw.text {w0 w w' : World} {b : Nat} {l : List UInt8} {u : ByteArray} (h : Bw w0 b l w) (k : BlW b (Lib.byteCells l ++ Lib.strCells u) w w') : Bw w0 b (l ++ lst u) w' := by
  rw [byteCells_lst] at k
  exact h.write k
def szV : Value → Nat
  | .string t => t.size
  | _ => 0
set_option maxRecDepth 100000 in
set_option maxHeartbeats 4000000 in
theorem ranges_spec (s : ByteArray) (hs : s.size ≤ 70368744177664) (hc : ∀ x ∈ lst s, x.toNat < 128) (w : World) :
    Calls Tryd.prog 65 #[.string s] w fun e w' => e = .returned (.string ⟨(rngT (lst s)).toArray⟩) ∧ Below w.heap.size w w' := by
  have HC := hide hc
  clear hc
  go_enter Tryd.func65, Tryd.ntmps65
  go_wp2_with fail
  go_loopw [0] (fun sv wr => ∃ (t : ByteArray) (acc : List UInt8), sv = .string t ∧ Hid (Bw w w.heap.size acc wr) ∧ Hid (acc ++ rngT (lst t) = rngT (lst s)) ∧ t.size ≤ s.size ∧ Hid (∀ x ∈ lst t, x.toNat < 128)) (fun sv _ => szV sv)
  case atStart => exact ⟨s, [], rfl, hide ⟨Lib.IsBuilderF.of (Lib.fresh_isBuilder 73 5 w), (Below.refl _ _).alloc (Nat.le_refl _) _, (Lib.OthersKept.refl _ _ _).alloc _⟩, hide rfl, Nat.le_refl _, HC⟩
  case round =>
    obtain ⟨t, acc, rfl, BW, EQ, ts, C7⟩ := hrel
    have LN : Hid (acc.length + (rngT (lst t)).length ≤ s.size) := by
      have h1 := congrArg List.length EQ.out
      have h2 := rngT_len (lst s)
      rw [List.length_append] at h1
      rw [lst_len] at h2
      show _ ≤ _; omega
    by_cases tn : lst t ≠ []
    · have tn := hide tn
      have z1 : t.toList.isEmpty = false := ranges_test t tn.out
      have z2 : (t.toList = []) = False := by simpa using z1
      have tp : 1 ≤ t.size := by have := List.length_pos_iff.2 tn.out; rw [lst_len] at this; omega
      go_wp2_with fail
      obtain ⟨wo, rfl⟩ : ∃ wo, wo = wr := ⟨_, rfl⟩
      go_loopw [4] (fun nv w2 => ∃ (n k : Nat), 1 ≤ n ∧ n ≤ t.size ∧ nv = .int .i64 (n : Int) ∧ Hid (uptoL (lst t) n) ∧ w2 = wo.drewN k) (fun nv _ => t.size - (intOf nv).toNat)
      case atStart => exact ⟨1, 0, Nat.le_refl _, tp, rfl, hide (uptoL_one _), rfl⟩
      case round =>
        obtain ⟨n, qn, n1, hn, rfl, UP, rfl⟩ := hrel
        obtain ⟨p, hp⟩ : ∃ p, p = n - 1 := ⟨_, rfl⟩
        have e1 : IntKind.i64.wrap ((n : Int) - 1) = (p : Int) := by rw [IntKind.wrap_i64]; omega
        have pl : p < t.size := by omega
        have HP := hide hp
        clear hp
        by_cases hlt : n < t.size
        · have d1 : decide ((n : Int) < (t.size : Int)) = true := by rw [decide_eq_true_eq]; omega
          have d2 : decide (n < t.size) = true := by rw [decide_eq_true_eq]; omega
          have b7 := C7.out ((lst t).getD p 0) (by rw [List.getD_eq_getElem?_getD, List.getElem?_eq_getElem (by rw [lst_len]; omega)]; exact List.getElem_mem _)
          rw [getD_lst t p pl] at b7
          have e2 : IntKind.u8.wrap ((t[p].toNat : Int) + 1) = ((t[p].toNat : Int) + 1) := by rw [IntKind.wrap_u8]; omega
          cases q1 : ((t[n].toNat : Int) == (t[p].toNat : Int) + 1) with
          | true =>
            have U2 := hide (uptoL_more UP.out n1 (by rw [← HP.out, getD_lst t n hlt, getD_lst t p pl]; have := beq_iff_eq.1 q1; omega))
            go_wp2_with fail
            go_quiet (fail)
            clear e1 e2
            go_wp2_with fail
            go_roundw
            case rel => exact ⟨n + 1, _, by omega, by omega, by go_num, U2, by first | rfl | exact World.drewN_drewN .. | exact (World.drewN_drewN ..).symm⟩
            case measure => simp [intOf]; omega
          | false =>
            have RE := runL_eq (lst t) n n1 (by rw [lst_len]; exact hn) UP.out (.inr (by rw [← HP.out, getD_lst t n hlt, getD_lst t p pl]; have := beq_eq_false_iff_ne.1 q1; omega))
            have HR := hide RE
            clear RE
            go_wp2_with fail
            go_quiet (fail)
            by_cases n3 : n < 3
            · have PQ : Hid (pieceL (lst t) = lst (t.extract 0 n)) := by show _ = _; unfold pieceL; rw [HR.out, if_pos n3, lst_take]
              have kb := fun v (h : Bw w w.heap.size acc v) => bld_text (t.extract 0 n) h.bl (by rw [Lib.byteCells_length]; have := LN.out; simp; omega) (Nat.le_of_lt h.lt)
              go_wp2_with fail
              refine Calls.mono (kb _ (BW.out.drewN _)) ?_
              rintro e w5 ⟨rfl, k5⟩
              have B5 := hide ((BW.out.drewN _).text k5)
              clear k5 kb
              go_wp2_with fail
              go_roundw
              case rel => exact ⟨t.extract n t.size, _, rfl, B5, hide (by rw [lst_drop, ← PQ.out, List.append_assoc, ← HR.out, ← rngT_step tn.out]; exact EQ.out), by simp; omega, hide (fun x hx => C7.out x (by rw [lst_drop] at hx; exact List.mem_of_mem_drop hx))⟩
              case measure => simp [szV]; omega
            · have PQ : Hid (pieceL (lst t) = lst (t.extract 0 1 ++ ⟨#[45]⟩ ++ t.extract p n)) := by
                show _ = _
                unfold pieceL; rw [HR.out, if_neg n3, lst_app2, lst_app2, lst_take]
                rw [HP.out]; exact piece_three t n (by omega) hn
              have kb := fun v (h : Bw w w.heap.size acc v) => bld_text (t.extract 0 1 ++ ⟨#[45]⟩ ++ t.extract p n) h.bl (by rw [Lib.byteCells_length]; have := LN.out; have hp := HP.out; have s1 : (⟨#[45]⟩ : ByteArray).size = 1 := rfl; simp [s1]; first | omega | (trace_state; fail)) (Nat.le_of_lt h.lt)
              have i1 : (0 : Int) ≤ (p : Int) := by omega
              have i2 : (p : Int) ≤ (n : Int) := by have := HP.out; omega
              have i3 : (n : Int) ≤ (t.size : Int) := by omega
              have i4 : (1 : Int) ≤ (t.size : Int) := by omega
              have i5 : p ≤ n := by omega
              have s1 : (⟨#[45]⟩ : ByteArray).size = 1 := rfl
              have sx : (t.extract 0 1).size = 1 := by simp; omega
              have sy : (t.extract p n).size = 1 := by have := HP.out; simp; omega
              go_wp2_with fail
              refine abs_wp (fun W => Bw w w.heap.size acc W) (BW.out.drewN _) ?_
              intro w4 b4
              have kbb : ∀ v, Bw w w.heap.size acc v → Calls Tryd.prog 58 #[.pointer (some ⟨w.heap.size, 0, none⟩), .string (t.extract 0 1 ++ ⟨#[45]⟩ ++ t.extract p n)] v (fun e w' => e = .returned (.tuple #[.int .i64 (t.extract 0 1 ++ ⟨#[45]⟩ ++ t.extract p n).size, .nilIface]) ∧ Hid (Bw w w.heap.size (acc ++ lst (t.extract 0 1 ++ ⟨#[45]⟩ ++ t.extract p n)) w')) := fun v h => (kb v h).mono fun e w' q => ⟨q.1, hide (h.text q.2)⟩
              clear kb
              go_region_held3 (fun _ => True) (exact trivial) ((go_at_call 58; (with_reducible refine Calls.mono (kbb _ (by first | assumption | exact b4.drew)) ?_); rintro e w5 ⟨rfl, B5⟩))
              all_goals
                clear e1 i1 i2 i3 i4 i5 s1 sx sy
                go_wp2_with fail
                go_roundw
                case rel => exact ⟨t.extract n t.size, _, rfl, B5, hide (by rw [lst_drop, ← PQ.out, List.append_assoc, ← HR.out, ← rngT_step tn.out]; exact EQ.out), by simp; omega, hide (fun x hx => C7.out x (by rw [lst_drop] at hx; exact List.mem_of_mem_drop hx))⟩
                case measure => simp [szV]; omega
        · have d1 : decide ((n : Int) < (t.size : Int)) = false := by rw [decide_eq_false_iff_not]; omega
          have d2 : decide (n < t.size) = false := by rw [decide_eq_false_iff_not]; omega
          have RE := runL_eq (lst t) n n1 (by rw [lst_len]; exact hn) UP.out (.inl (by rw [lst_len]; omega))
          have HR := hide RE
          clear RE
          go_wp2_with fail
          go_quiet (fail)
          by_cases n3 : n < 3
          · have PQ : Hid (pieceL (lst t) = lst (t.extract 0 n)) := by show _ = _; unfold pieceL; rw [HR.out, if_pos n3, lst_take]
            have kb := fun v (h : Bw w w.heap.size acc v) => bld_text (t.extract 0 n) h.bl (by rw [Lib.byteCells_length]; have := LN.out; simp; omega) (Nat.le_of_lt h.lt)
            go_wp2_with fail
            refine Calls.mono (kb _ (BW.out.drewN _)) ?_
            rintro e w5 ⟨rfl, k5⟩
            have B5 := hide ((BW.out.drewN _).text k5)
            clear k5 kb
            go_wp2_with fail
            go_roundw
            case rel => exact ⟨t.extract n t.size, _, rfl, B5, hide (by rw [lst_drop, ← PQ.out, List.append_assoc, ← HR.out, ← rngT_step tn.out]; exact EQ.out), by simp; omega, hide (fun x hx => C7.out x (by rw [lst_drop] at hx; exact List.mem_of_mem_drop hx))⟩
            case measure => simp [szV]; omega
          · have PQ : Hid (pieceL (lst t) = lst (t.extract 0 1 ++ ⟨#[45]⟩ ++ t.extract p n)) := by
              show _ = _
              unfold pieceL; rw [HR.out, if_neg n3, lst_app2, lst_app2, lst_take]
              rw [HP.out]; exact piece_three t n (by omega) hn
            have kb := fun v (h : Bw w w.heap.size acc v) => bld_text (t.extract 0 1 ++ ⟨#[45]⟩ ++ t.extract p n) h.bl (by rw [Lib.byteCells_length]; have := LN.out; have hp := HP.out; have s1 : (⟨#[45]⟩ : ByteArray).size = 1 := rfl; simp [s1]; first | omega | (trace_state; fail)) (Nat.le_of_lt h.lt)
            have i1 : (0 : Int) ≤ (p : Int) := by omega
            have i2 : (p : Int) ≤ (n : Int) := by have := HP.out; omega
            have i3 : (n : Int) ≤ (t.size : Int) := by omega
            have i4 : (1 : Int) ≤ (t.size : Int) := by omega
            have i5 : p ≤ n := by omega
            have s1 : (⟨#[45]⟩ : ByteArray).size = 1 := rfl
            have sx : (t.extract 0 1).size = 1 := by simp; omega
            have sy : (t.extract p n).size = 1 := by have := HP.out; simp; omega
            go_wp2_with fail
            refine abs_wp (fun W => Bw w w.heap.size acc W) (BW.out.drewN _) ?_
            intro w4 b4
            have kbb : ∀ v, Bw w w.heap.size acc v → Calls Tryd.prog 58 #[.pointer (some ⟨w.heap.size, 0, none⟩), .string (t.extract 0 1 ++ ⟨#[45]⟩ ++ t.extract p n)] v (fun e w' => e = .returned (.tuple #[.int .i64 (t.extract 0 1 ++ ⟨#[45]⟩ ++ t.extract p n).size, .nilIface]) ∧ Hid (Bw w w.heap.size (acc ++ lst (t.extract 0 1 ++ ⟨#[45]⟩ ++ t.extract p n)) w')) := fun v h => (kb v h).mono fun e w' q => ⟨q.1, hide (h.text q.2)⟩
            clear kb
            go_region_held3 (fun _ => True) (exact trivial) ((go_at_call 58; (with_reducible refine Calls.mono (kbb _ (by first | assumption | exact b4.drew)) ?_); rintro e w5 ⟨rfl, B5⟩))
            all_goals
              clear e1 i1 i2 i3 i4 i5 s1 sx sy
              go_wp2_with fail
              go_roundw
              case rel => exact ⟨t.extract n t.size, _, rfl, B5, hide (by rw [lst_drop, ← PQ.out, List.append_assoc, ← HR.out, ← rngT_step tn.out]; exact EQ.out), by simp; omega, hide (fun x hx => C7.out x (by rw [lst_drop] at hx; exact List.mem_of_mem_drop hx))⟩
              case measure => simp [szV]; omega
    · have tn : lst t = [] := Decidable.byContradiction tn
      obtain rfl : t = ⟨#[]⟩ := lst_inj tn
      have kS := fun w' => Tryd.Builder_String_any_k w.heap.size w.heap.size acc w' 
      have F : Hid (acc = rngT (lst s)) := by have := EQ.out; rw [show rngT (lst ⟨#[]⟩) = [] from rfl, List.append_nil] at this; exact this
      go_wp2_with fail
      refine Calls.mono (kS _ BW.out.bl (Nat.le_of_lt BW.out.lt)) ?_
      rintro e w5 ⟨rfl, _, b5, _⟩
      have B5 := hide (BW.out.below.trans b5)
      clear b5
      go_wp2_with fail
      go_returns
      exact ⟨by rw [F.out]; rfl, B5.out⟩
end Go.Proofs.YteahbdhhcfoiiaaDoor
/- name: may. -/
namespace Go.Proofs.YteahbdhhcfoiiaaDoor
set_option linter.unusedVariables false
set_option linter.unusedSimpArgs false
open Go.RowKit W
set_option maxRecDepth 100000 in
set_option maxHeartbeats 8000000 in
theorem may_spec (p : List (List Gl)) (pw : PtW p) (a : Option Addr) (c : Nat) (w : World) (ha : IsPt w a p) :
    Calls Tryd.prog 45 #[.agg #[.slice a p.length c]] w fun e w' => e = .returned (.bool (mayB p)) ∧ Below w.heap.size w w' := by
  obtain ⟨E, hE⟩ : ∃ E, mayB p = E := ⟨_, rfl⟩
  rw [hE]
  have HE := hide hE
  have HA := hide ha
  have HW := hide pw
  have hn := pw.n
  obtain ⟨n, hnn⟩ : ∃ n, n = p.length := ⟨_, rfl⟩
  have HN := hide hnn
  rw [← hnn] at hn ⊢
  clear hE ha pw hnn
  by_cases y1 : 1 ≤ n
  · by_cases y2 : n ≤ 16
    · have H1 : Hid (E = p.all nodeMay) := by have := HE.out; rw [← this]; show _ = _; unfold mayB; rw [← HN.out]; simp [y1, y2]
      go_enter Tryd.func45, Tryd.ntmps45
      go_wp2_with fail
      go_loopw [20] (fun i wr => ∃ k : Nat, k ≤ n ∧ i = .int .i64 (k : Int) ∧ Hid (Below w.heap.size w wr) ∧ Hid (∀ j (h : j < p.length), j < k → nodeMay p[j] = true)) (fun i _ => n - (intOf i).toNat)
      case atStart => exact ⟨0, by omega, rfl, hide (by go_grown), hide (fun j _ h => absurd h (Nat.not_lt_zero _))⟩
      case round =>
        obtain ⟨k, hk, rfl, B, D⟩ := hrel
        by_cases hlt : k < n
        · have kp : k < p.length := by have := HN.out; omega
          obtain ⟨g, o, rfl, LN⟩ := HA.out.resolve_left (by intro e; rw [e] at kp; simp at kp)
          have L1 := LN.later B.out
          obtain ⟨b, cc, n0, n1, n2⟩ := L1.cell k kp
          have HG := hide n1
          have gm := HW.out.m p[k] (List.getElem_mem _)
          have GW := hide (HW.out.g p[k] (List.getElem_mem _))
          obtain ⟨gs, hgs⟩ : ∃ gs, gs = p[k] := ⟨_, rfl⟩
          rw [← hgs] at n0 n1 gm GW HG n2
          obtain ⟨m, hm⟩ : ∃ m, m = gs.length := ⟨_, rfl⟩
          have HM := hide hm
          have HGS := hide hgs
          rw [← hm] at n0 gm
          clear hgs hm n1 LN L1 n2
          by_cases m0 : m = 0
          · have F : Hid (E = false) := by
              show _ = _
              rw [H1.out]
              rw [List.all_eq_false]
              exact ⟨gs, by rw [HGS.out]; exact List.getElem_mem _, by unfold nodeMay; rw [← HM.out, m0]; simp⟩
            subst m0
            go_wp2_with fail
            go_returns
            exact ⟨by rw [F.out]; rfl, B.out⟩
          · have m1 : ((m : Int) == 0) = false := by rw [beq_eq_false_iff_ne]; omega
            have NM : Hid (∀ q, q < m → placeB gs q = false → E = false) := by
              intro q hq e
              rw [H1.out, List.all_eq_false]
              exact ⟨gs, by rw [HGS.out]; exact List.getElem_mem _, by unfold nodeMay; rw [all_no (f := placeB gs) (k := q) (by rw [← HM.out]; exact hq) e, Bool.and_false]; decide⟩
            obtain ⟨wo, rfl⟩ : ∃ wo, wo = wr := ⟨_, rfl⟩
            go_wp2_with fail
            go_loopw [29] (fun i w2 => ∃ q : Nat, q ≤ m ∧ i = .int .i64 (q : Int) ∧ Hid (Below wo.heap.size wo w2) ∧ Hid (∀ j, j < q → placeB gs j = true)) (fun i _ => m - (intOf i).toNat)
            case atStart => exact ⟨0, by omega, rfl, hide (Below.refl _ _), hide (fun j h => absurd h (Nat.not_lt_zero _))⟩
            case round =>
              obtain ⟨q, hq, rfl, B2, D2⟩ := hrel
              by_cases hql : q < m
              · have qg : q < gs.length := by have := HM.out; omega
                obtain ⟨g2, o2, rfl, LG⟩ := HG.out.resolve_left (by intro e; rw [e] at qg; simp at qg)
                have L2 := LG.later B2.out
                obtain ⟨c0, c1, b5, c5, c2, c3, c4⟩ := L2.cell q qg
                have gw := GW.out gs[q] (List.getElem_mem _)
                have ks := fun W (u : Below wr.heap.size wr W) => stand_spec gs[q] gw b5 c5 W (c3.later u)
                have at0 : gs[q]? = some gs[q] := List.getElem?_eq_getElem qg
                obtain ⟨x, hx⟩ : ∃ x, x = gs[q] := ⟨_, rfl⟩
                rw [← hx] at c0 c1 c2 ks at0
                have AT := hide at0
                obtain ⟨t, ht⟩ : ∃ t, standB x = t := ⟨_, rfl⟩
                rw [ht] at ks
                have HT := hide ht
                have BW := hide (B.out.trans (B2.out.mono B.out.size))
                have zs := B2.out.size
                have lg := L2.lt
                unfold gV at ks
                clear at0 hx ht c3 c4 gw
                cases t
                · have F : Hid (E = false) := NM.out q hql (by unfold placeB; rw [AT.out]; simp only; rw [HT.out]; rfl)
                  go_wp2_with (go_at_call 64; refine Calls.mono (ks _ (by go_grown)) ?_; rintro e w5 ⟨rfl, b5⟩; have B5 := hide b5; clear b5)
                  go_returns
                  exact ⟨by rw [F.out]; rfl, (BW.out.trans ((show Below wr.heap.size wr _ from by go_grown).mono BW.out.size)).trans (B5.out.mono (by have := BW.out.size; simp; omega))⟩
                · by_cases q0 : q = 0
                  · subst q0
                    rw [show o2 + 0 * 3 = o2 by omega] at c0 c1 c2
                    have PL : placeB gs 0 = true := by unfold placeB; rw [AT.out]; simp only; rw [HT.out]; rfl
                    have D3 : Hid (∀ j, j < 0 + 1 → placeB gs j = true) := by
                      intro j hj
                      by_cases z : j < 0
                      · exact D2.out j z
                      · obtain rfl : j = 0 := by omega
                        exact PL
                    clear PL
                    go_wp2_with (go_at_call 64; refine Calls.mono (ks _ (by go_grown)) ?_; rintro e w5 ⟨rfl, b5⟩; have B5 := hide b5; have d0 : w5.cell? ⟨wr.heap.size, 0, none⟩ = some (.int .i64 x.k) := (b5.cell (p := ⟨wr.heap.size, 0, none⟩) (by simp)).trans (by simp [go_sem]); clear b5)
                    go_roundw
                    case rel => exact ⟨0 + 1, by omega, by go_num, hide ((show Below wo.heap.size wo _ from (B2.out.trans ((show Below wr.heap.size wr _ from by go_grown).mono zs)).trans (B5.out.mono (by simp; omega)))), D3⟩
                    case measure => simp [intOf]; omega
                  · obtain ⟨u, rfl⟩ : ∃ u, q = u + 1 := ⟨q - 1, by omega⟩
                    have e1 : IntKind.i64.wrap ((u : Int) + 1 - 1) = (u : Int) := by rw [IntKind.wrap_i64]; omega
                    obtain ⟨p0, _⟩ := L2.cell u (by omega)
                    have atu : gs[u]? = some gs[u] := List.getElem?_eq_getElem (by omega)
                    obtain ⟨y, hy⟩ : ∃ y, y = gs[u] := ⟨_, rfl⟩
                    rw [← hy] at p0 atu
                    have ATU := hide atu
                    clear atu hy q0
                    by_cases x1 : x.k = 1
                    · by_cases y1 : y.k = 1
                      · have F : Hid (E = false) := NM.out (u + 1) hql (by unfold placeB; rw [AT.out, Nat.add_sub_cancel, ATU.out]; simp [x1, y1])
                        have y2 : (y.k == 1) = true := by rw [y1]; rfl
                        have x2 : (x.k == 1) = true := by rw [x1]; rfl
                        clear x1 y1
                        go_wp2_with (go_at_call 64; refine Calls.mono (ks _ (by go_grown)) ?_; rintro e w5 ⟨rfl, b5⟩; have B5 := hide b5; have d0 : w5.cell? ⟨wr.heap.size, 0, none⟩ = some (.int .i64 x.k) := (b5.cell (p := ⟨wr.heap.size, 0, none⟩) (by simp)).trans (by simp [go_sem]); have e0 : w5.cell? ⟨g2, o2 + u * 3, none⟩ = some (.int .i64 y.k) := (b5.cell (p := ⟨g2, o2 + u * 3, none⟩) (by simp; omega)).trans (Below.cell (B := wr.heap.size) (by go_grown) (p := ⟨g2, o2 + u * 3, none⟩) lg |>.trans p0); clear b5)
                        go_returns
                        exact ⟨by rw [F.out]; rfl, B.out.trans (((show Below wo.heap.size wo _ from (B2.out.trans ((show Below wr.heap.size wr _ from by go_grown).mono zs)).trans (B5.out.mono (by simp; omega)))).mono B.out.size)⟩
                      · have PL : placeB gs (u + 1) = true := by unfold placeB; rw [AT.out, Nat.add_sub_cancel, ATU.out]; simp [x1, y1, HT.out]
                        have y2 : (y.k == 1) = false := by rw [beq_eq_false_iff_ne]; exact y1
                        have x2 : (x.k == 1) = true := by rw [x1]; rfl
                        have D3 : Hid (∀ j, j < (u + 1) + 1 → placeB gs j = true) := by
                          intro j hj
                          by_cases z : j < u + 1
                          · exact D2.out j z
                          · obtain rfl : j = u + 1 := by omega
                            exact PL
                        clear PL x1 y1
                        go_wp2_with (go_at_call 64; refine Calls.mono (ks _ (by go_grown)) ?_; rintro e w5 ⟨rfl, b5⟩; have B5 := hide b5; have d0 : w5.cell? ⟨wr.heap.size, 0, none⟩ = some (.int .i64 x.k) := (b5.cell (p := ⟨wr.heap.size, 0, none⟩) (by simp)).trans (by simp [go_sem]); have e0 : w5.cell? ⟨g2, o2 + u * 3, none⟩ = some (.int .i64 y.k) := (b5.cell (p := ⟨g2, o2 + u * 3, none⟩) (by simp; omega)).trans (Below.cell (B := wr.heap.size) (by go_grown) (p := ⟨g2, o2 + u * 3, none⟩) lg |>.trans p0); clear b5)
                        go_roundw
                        case rel => exact ⟨u + 1 + 1, by omega, by go_num, hide ((show Below wo.heap.size wo _ from (B2.out.trans ((show Below wr.heap.size wr _ from by go_grown).mono zs)).trans (B5.out.mono (by simp; omega)))), D3⟩
                        case measure => simp [intOf]; omega
                    · have PL : placeB gs (u + 1) = true := by unfold placeB; rw [AT.out, Nat.add_sub_cancel, ATU.out]; simp [x1, HT.out]
                      have x2 : (x.k == 1) = false := by rw [beq_eq_false_iff_ne]; exact x1
                      have D3 : Hid (∀ j, j < (u + 1) + 1 → placeB gs j = true) := by
                        intro j hj
                        by_cases z : j < u + 1
                        · exact D2.out j z
                        · obtain rfl : j = u + 1 := by omega
                          exact PL
                      clear PL x1
                      go_wp2_with (go_at_call 64; refine Calls.mono (ks _ (by go_grown)) ?_; rintro e w5 ⟨rfl, b5⟩; have B5 := hide b5; have d0 : w5.cell? ⟨wr.heap.size, 0, none⟩ = some (.int .i64 x.k) := (b5.cell (p := ⟨wr.heap.size, 0, none⟩) (by simp)).trans (by simp [go_sem]); clear b5)
                      go_roundw
                      case rel => exact ⟨u + 1 + 1, by omega, by go_num, hide ((show Below wo.heap.size wo _ from (B2.out.trans ((show Below wr.heap.size wr _ from by go_grown).mono zs)).trans (B5.out.mono (by simp; omega)))), D3⟩
                      case measure => simp [intOf]; omega
              · obtain rfl : q = m := by omega
                have NY : Hid (nodeMay gs = true) := by
                  show _ = _
                  unfold nodeMay
                  rw [← HM.out, all_yes D2.out]
                  simp [m0]
                have BW := hide (B.out.trans (B2.out.mono B.out.size))
                have D3 : Hid (∀ j (h : j < p.length), j < k + 1 → nodeMay p[j] = true) := by
                  intro j h hj
                  by_cases z : j < k
                  · exact D.out j h z
                  · obtain rfl : j = k := by omega
                    rw [← HGS.out]; exact NY.out
                go_wp2_with fail
                go_roundw
                case rel => exact ⟨k + 1, by omega, by go_num, BW, D3⟩
                case measure => simp [intOf]; omega
        · obtain rfl : k = n := by omega
          have F : Hid (E = true) := by
            show _ = _
            rw [H1.out, List.all_eq_true]
            intro x hx
            obtain ⟨j, hj, rfl⟩ := List.getElem_of_mem hx
            exact D.out j hj (by have := HN.out; omega)
          go_wp2_with fail
          go_returns
          exact ⟨by rw [F.out]; rfl, B.out⟩
    · have F : Hid (E = false) := by have := HE.out; rw [← this]; show _ = _; unfold mayB; rw [← HN.out]; simp [y1, y2]
      go_enter Tryd.func45, Tryd.ntmps45
      go_wp2_with fail
      go_returns
      exact ⟨by rw [F.out]; rfl, by go_grown⟩
  · have F : Hid (E = false) := by have := HE.out; rw [← this]; show _ = _; unfold mayB; rw [← HN.out]; simp [y1]
    go_enter Tryd.func45, Tryd.ntmps45
    go_wp2_with fail
    go_returns
    exact ⟨by rw [F.out]; rfl, by go_grown⟩
end Go.Proofs.YteahbdhhcfoiiaaDoor
/- name: written, the walk. -/
namespace Go.Proofs.YteahbdhhcfoiiaaDoor
set_option linter.unusedVariables false
set_option linter.unusedSimpArgs false
open Go.RowKit W
theorem altsT_join : ∀ al : List ByteArray, Lib.join (al.map (·.data.toList)) [44] = altsT al
  | [] => rfl
  | [a] => by simp [Lib.join, List.intercalate, List.intersperse, altsT, lst]
  | a :: b :: r => by
    have := altsT_join (b :: r)
    simp only [Lib.join, List.intercalate, List.intersperse, altsT, List.map_cons, List.flatten_cons] at this ⊢
    rw [this]; rfl
theorem BlF_later {b : Nat} {l : List Value} {w w' : World} (h : BlF b l w) (u : Below w.heap.size w w') : BlF b l w' := by
  have aux : ∀ p, Lib.BuilderAtF 73 5 b b p l w → Lib.BuilderAtF 73 5 b b p l w' := by
    rintro p ⟨hB, v, hb, hown, hne⟩
    refine ⟨hB, v, (u.block b (blk_lt hb)).trans hb, ⟨hown.1, ?_⟩, hne⟩
    rcases hown.2 with hn | ⟨g, cap, cur, fz, hv, hbg, hg, rest⟩
    · exact .inl hn
    · exact .inr ⟨g, cap, cur, fz, hv, hbg, (u.block g (blk_lt hg)).trans hg, rest⟩
  rcases h with h | h
  · exact .inl (aux _ h)
  · exact .inr (aux _ h)
theorem Bw.later {w0 w w' : World} {b : Nat} {l : List UInt8} (h : Bw w0 b l w) (u : Below w.heap.size w w') : Bw w0 b l w' :=
  ⟨BlF_later h.bl u, h.below.trans (u.mono (Nat.le_of_lt h.lt)), fun k o hk hb ho => by
    have h1 := h.keep k o hk hb ho
    exact (u.block k (Array.getElem?_eq_some_iff.1 h1).1).trans h1⟩
theorem Bw.byte {w0 w w' : World} {b : Nat} {l : List UInt8} {c : UInt8} {x : Int} (h : Bw w0 b l w) (hx : x = (c.toNat : Int)) (k : BlW b (Lib.byteCells l ++ [.int .u8 x]) w w') : Bw w0 b (l ++ [c]) w' := by
  subst hx
  exact h.write k
/-- What stands ahead of node k. -/
def preT (p : List (List Gl)) (k : Nat) : List UInt8 := if k = 0 then [] else frontT p k ++ [46]
theorem preT_more (p : List (List Gl)) (k : Nat) (h : k < p.length) : frontT p (k + 1) = preT p k ++ nodeT p[k] := by
  unfold preT
  by_cases h0 : k = 0
  · subst h0; rw [if_pos rfl, frontT_one p h]; rfl
  · rw [if_neg h0, frontT_more p k h h0]; simp
theorem frontT_len (p : List (List Gl)) (k : Nat) : (frontT p k).length ≤ patW p := by
  have h1 := patT_len (p.take k)
  have h2 := sum_take_le nodeW p k
  unfold frontT
  unfold patW at h1 ⊢
  omega
theorem preT_len (p : List (List Gl)) (k : Nat) : (preT p k).length ≤ patW p + 1 := by
  unfold preT
  split
  · simp
  · have := frontT_len p k; simp; omega
theorem nodeTk_len (p : List (List Gl)) (gs : List Gl) (h : gs ∈ p) (q : Nat) : (nodeT (gs.take q)).length ≤ patW p := by
  have h1 := nodeT_len (gs.take q)
  have h2 := sum_take_le globW gs q
  have h3 := sum_mem_le nodeW h
  unfold nodeW at h3
  unfold patW
  unfold nodeW
  omega
theorem globW_le (p : List (List Gl)) (gs : List Gl) (g : Gl) (h : gs ∈ p) (hg : g ∈ gs) : globW g ≤ patW p := by
  have h2 := sum_mem_le globW hg
  have h3 := sum_mem_le nodeW h
  unfold nodeW at h3
  unfold patW
  unfold nodeW
  omega
theorem stand_of (p : List (List Gl)) (hm : mayB p = true) {gs : List Gl} (h : gs ∈ p) {g : Gl} (hg : g ∈ gs) : standB g = true := by
  unfold mayB at hm
  simp only [Bool.and_eq_true] at hm
  have h1 := List.all_eq_true.1 hm.2 gs h
  unfold nodeMay at h1
  simp only [Bool.and_eq_true] at h1
  obtain ⟨q, hq, rfl⟩ := List.getElem_of_mem hg
  have h2 := List.all_eq_true.1 h1.2 q (List.mem_range.2 hq)
  unfold placeB at h2
  rw [List.getElem?_eq_getElem hq] at h2
  simp only [Bool.and_eq_true] at h2
  exact h2.1
theorem stand_kind {g : Gl} (h : standB g = true) : g.k = 1 ∨ g.k = 2 ∨ g.k = 3 ∨ g.k = 4 ∨ g.k = 5 := by
  unfold standB at h
  split at h
  · exact .inl ‹_›
  split at h
  · rename_i q; rcases q with q | q
    · exact .inr (.inl q)
    · exact .inr (.inr (.inl q))
  split at h
  · exact .inr (.inr (.inr (.inl ‹_›)))
  split at h
  · exact .inr (.inr (.inr (.inr ‹_›)))
  · cases h
theorem cls_small : ∀ c : UInt8, cB c = true → c.toNat < 128 := by
  intro c; unfold cB clsI famI; simp only [Bool.or_eq_true, decide_eq_true_eq]; (repeat split) <;> omega
theorem stand_class {g : Gl} (h : standB g = true) (k : g.k = 4) : riseB g.t = true := by
  unfold standB at h
  rw [if_neg (by omega), if_neg (by omega), if_pos k] at h
  simp only [Bool.and_eq_true] at h
  exact h.1
theorem rise_cls {t : ByteArray} (h : riseB t = true) : ∀ x ∈ lst t, cB x = true := by
  unfold riseB at h
  simp only [Bool.and_eq_true] at h
  intro x hx
  obtain ⟨j, hj, rfl⟩ := List.getElem_of_mem hx
  rw [lst_len] at hj
  have h2 := List.all_eq_true.1 h.1 j (List.mem_range.2 hj)
  unfold riseA at h2
  simp only [Bool.and_eq_true] at h2
  have e : nx t j = (lst t)[j]'(by rw [lst_len]; exact hj) := by rw [nx_lt hj]; simp [lst]; rfl
  rw [← e]; exact h2.1
theorem stand_alts {g : Gl} (h : standB g = true) (k : g.k = 5) : 1 ≤ g.al.length := by
  unfold standB at h
  rw [if_neg (by omega), if_neg (by omega), if_neg (by omega), if_pos k] at h
  simp only [Bool.and_eq_true] at h
  have := h.2
  unfold chooseB at this
  simp only [Bool.and_eq_true, decide_eq_true_eq] at this
  exact this.2.1
theorem globT_1 {g : Gl} (k : g.k = 1) : globT g = lst g.t := by unfold globT; rw [if_pos k]
theorem globT_2 {g : Gl} (k : g.k = 2) : globT g = [42] := by unfold globT; rw [if_neg (by omega), if_pos k]
theorem globT_3 {g : Gl} (k : g.k = 3) : globT g = [63] := by unfold globT; rw [if_neg (by omega), if_neg (by omega), if_pos k]
theorem globT_4 {g : Gl} (k : g.k = 4) : globT g = 91 :: (rngT (lst g.t) ++ [93]) := by unfold globT; rw [if_neg (by omega), if_neg (by omega), if_neg (by omega), if_pos k]
theorem globT_5 {g : Gl} (k : g.k = 5) : globT g = 123 :: (altsT g.al ++ [125]) := by unfold globT; rw [if_neg (by omega), if_neg (by omega), if_neg (by omega), if_neg (by omega)]
theorem lst_mk (l : List UInt8) : lst ⟨l.toArray⟩ = l := by simp [lst]
end Go.Proofs.YteahbdhhcfoiiaaDoor
/- name: written, the walk. -/
namespace Go.Proofs.YteahbdhhcfoiiaaDoor
set_option linter.unusedVariables false
set_option linter.unusedSimpArgs false
open Go.RowKit W
theorem Bw.alloc {w0 w : World} {b : Nat} {l : List UInt8} (h : Bw w0 b l w) (o : Obj) : Bw w0 b l (w.alloc o) := h.later ((Below.refl _ _).alloc (Nat.le_refl _) o)
set_option maxRecDepth 100000 in
set_option maxHeartbeats 8000000 in
theorem written_spec (p : List (List Gl)) (hm : mayB p = true) (hw : patW p ≤ 4398046511104) (pn : p.length ≤ 140737488355328) (a : Option Addr) (c : Nat) (w : World) (ha : IsPt w a p) :
    Calls Tryd.prog 46 #[.agg #[.slice a p.length c]] w fun e w' => e = .returned (.string ⟨(patT p).toArray⟩) ∧ Below w.heap.size w w' := by
  have HM := hide hm
  have HA := hide ha
  obtain ⟨n, hnn⟩ : ∃ n, n = p.length := ⟨_, rfl⟩
  have HN := hide hnn
  rw [← hnn] at pn ⊢
  clear hm ha hnn
  go_enter Tryd.func46, Tryd.ntmps46
  go_wp2_with fail
  have U0 : Hid (Below w.heap.size w (w.alloc (.cells #[.slice a n c] 33))) := (Below.refl _ _).alloc (Nat.le_refl _) _
  have F0 : Hid (Bw (w.alloc (.cells #[.slice a n c] 33)) (w.heap.size + 1) [] ((w.alloc (.cells #[.slice a n c] 33)).alloc (.cells #[.pointer none, .slice none 0 0] 73))) :=
    ⟨by have h := Lib.IsBuilderF.of (Lib.fresh_isBuilder 73 5 (w.alloc (.cells #[.slice a n c] 33))); rw [show (w.alloc (.cells #[.slice a n c] 33)).heap.size = w.heap.size + 1 by simp] at h; exact h, (Below.refl _ _).alloc (by simp) _, (Lib.OthersKept.refl _ _ _).alloc _⟩
  obtain ⟨w0, hw0⟩ : ∃ w0, w0 = w.alloc (.cells #[.slice a n c] 33) := ⟨_, rfl⟩
  rw [← hw0] at U0 F0 ⊢
  have Z0 : Hid (w0.heap.size = w.heap.size + 1) := by rw [hw0]; exact hide (by simp)
  clear hw0
  go_loopw [11] (fun i wr => ∃ k : Nat, k ≤ n ∧ i = .int .i64 (k : Int) ∧ Hid (Bw w0 (w.heap.size + 1) (frontT p k) wr)) (fun i _ => n - (intOf i).toNat)
  case atStart => exact ⟨0, by omega, rfl, F0⟩
  case round =>
    obtain ⟨k, hk, rfl, BW⟩ := hrel
    have lb := BW.out.lt
    by_cases hlt : k < n
    · have kp : k < p.length := by have := HN.out; omega
      obtain ⟨g, o, rfl, LN⟩ := HA.out.resolve_left (by intro e; rw [e] at kp; simp at kp)
      have BL : Hid (Below w.heap.size w wr) := hide (U0.out.trans (BW.out.below.mono (by omega)))
      obtain ⟨b, cc, n0w, n1, n2⟩ := LN.cell k kp
      have n0 := (BL.out.cell (p := ⟨g, o + k, none⟩) LN.lt).trans n0w
      clear n0w
      have mem := List.getElem_mem kp
      have HG := hide n1
      have PM := hide (preT_more p k kp)
      obtain ⟨gs, hgs⟩ : ∃ gs, gs = p[k] := ⟨_, rfl⟩
      rw [← hgs] at n0 HG n2 mem PM
      have MEM := hide mem
      have HGS := hide hgs
      have pk := preT_len p k
      have ml := nodeTk_len p gs mem
      have glen : gs.length ≤ 4398046511104 := by
        have h1 : ∀ l : List Gl, l.length ≤ (l.map globW).sum := by
          intro l
          induction l with
          | nil => simp
          | cons x r ih => simp only [List.length_cons, List.map_cons, List.sum_cons]; unfold globW at ih ⊢; omega
        have h2 := h1 gs
        have h3 := sum_mem_le nodeW mem
        unfold nodeW at h3
        unfold patW at hw
        unfold nodeW at hw
        omega
      obtain ⟨m, hm⟩ : ∃ m, m = gs.length := ⟨_, rfl⟩
      have HM2 := hide hm
      rw [← hm] at n0 glen
      clear hgs hm n1 LN n2 mem
      by_cases k0 : k = 0
      · have d0 : decide ((0 : Int) < (k : Int)) = false := by rw [decide_eq_false_iff_not]; omega
        have d1 : decide (0 < k) = false := by rw [decide_eq_false_iff_not]; omega
        have BO : Hid (Bw w0 (w.heap.size + 1) (preT p k) wr) := hide (by have := BW.out; unfold preT; rw [if_pos k0]; rw [k0] at this; exact this)
        have K0 := hide k0
        clear k0
        obtain ⟨wo, rfl⟩ : ∃ wo, wo = wr := ⟨_, rfl⟩
        go_wp2_with fail
        go_loopw [21] (fun i w2 => ∃ q : Nat, q ≤ m ∧ i = .int .i64 (q : Int) ∧ Hid (Bw w0 (w.heap.size + 1) (preT p k ++ nodeT (gs.take q)) w2)) (fun i _ => m - (intOf i).toNat)
        case atStart => exact ⟨0, by omega, rfl, hide (by simpa [nodeT] using BO.out)⟩
        case round =>
          obtain ⟨q, hq, rfl, BQ⟩ := hrel
          by_cases hql : q < m
          · have qg : q < gs.length := by have := HM2.out; omega
            obtain ⟨g2, o2, rfl, LG⟩ := HG.out.resolve_left (by intro e; rw [e] at qg; simp at qg)
            have BL2 : Below w.heap.size w wr := U0.out.trans (BQ.out.below.mono (by omega))
            have lg := LG.lt
            obtain ⟨c0, c1, b5, c5, c2, x2, x3⟩ := LG.cell q qg
            have c0 := (BL2.cell (p := ⟨g2, o2 + q * 3, none⟩) lg).trans c0
            have c1 := (BL2.cell (p := ⟨g2, o2 + q * 3 + 1, none⟩) lg).trans c1
            have c2 := (BL2.cell (p := ⟨g2, o2 + q * 3 + 2, none⟩) lg).trans c2
            have x2 := x2.later (BL2)
            have GT0 : Hid (preT p k ++ nodeT (gs.take (q + 1)) = preT p k ++ nodeT (gs.take q) ++ globT gs[q]) := hide (by rw [nodeT_take gs q qg, List.append_assoc])
            have xm : gs[q] ∈ gs := List.getElem_mem _
            have XS := hide (stand_of p HM.out MEM.out xm)
            have xw := globW_le p gs gs[q] MEM.out xm
            have LQ : Hid ((preT p k).length + (nodeT (gs.take q)).length ≤ 8796093022210) := by
              have h1 := nodeTk_len p gs MEM.out q
              show _ ≤ _; omega
            obtain ⟨x, hx⟩ : ∃ x, x = gs[q] := ⟨_, rfl⟩
            rw [← hx] at c0 c1 c2 x2 x3 GT0 XS xw
            have lbq := BQ.out.lt
            clear hx xm BL2
            rcases stand_kind XS.out with ek | ek | ek | ek | ek
            · rw [ek] at c0
              have GT : Hid (preT p k ++ nodeT (gs.take (q + 1)) = preT p k ++ nodeT (gs.take q) ++ lst x.t) := hide (by rw [GT0.out, globT_1 ek])
              have tl : x.t.size ≤ 4398046511104 := by unfold globW at xw; omega
              have kb := fun v (h : Bw w0 (w.heap.size + 1) (preT p k ++ nodeT (gs.take q)) v) => bld_text x.t h.bl (by rw [Lib.byteCells_length, List.length_append]; have := LQ.out; omega) (Nat.le_of_lt h.lt)
              go_wp2_with fail
              refine Calls.mono (kb _ (BQ.out.alloc _)) ?_
              rintro e w6 ⟨rfl, k6⟩
              have B6 := hide ((BQ.out.alloc _).text k6)
              clear k6 kb
              go_wp2_with fail
              go_roundw
              case rel => exact ⟨q + 1, by omega, by go_num, hide (by rw [GT.out]; exact B6.out)⟩
              case measure => simp [intOf]; omega
            · rw [ek] at c0
              have GT : Hid (preT p k ++ nodeT (gs.take (q + 1)) = preT p k ++ nodeT (gs.take q) ++ [42]) := hide (by rw [GT0.out, globT_2 ek])
              have kb := fun v (h : Bw w0 (w.heap.size + 1) (preT p k ++ nodeT (gs.take q)) v) => bld_byte 42 h.bl (by rw [Lib.byteCells_length, List.length_append]; have := LQ.out; omega) (Nat.le_of_lt h.lt)
              go_wp2_with fail
              refine Calls.mono (kb _ (BQ.out.alloc _)) ?_
              rintro e w6 ⟨rfl, k6⟩
              have B6 := hide ((BQ.out.alloc _).byte (c := 42) rfl k6)
              clear k6 kb
              go_wp2_with fail
              go_roundw
              case rel => exact ⟨q + 1, by omega, by go_num, hide (by rw [GT.out]; exact B6.out)⟩
              case measure => simp [intOf]; omega
            · rw [ek] at c0
              have GT : Hid (preT p k ++ nodeT (gs.take (q + 1)) = preT p k ++ nodeT (gs.take q) ++ [63]) := hide (by rw [GT0.out, globT_3 ek])
              have kb := fun v (h : Bw w0 (w.heap.size + 1) (preT p k ++ nodeT (gs.take q)) v) => bld_byte 63 h.bl (by rw [Lib.byteCells_length, List.length_append]; have := LQ.out; omega) (Nat.le_of_lt h.lt)
              go_wp2_with fail
              refine Calls.mono (kb _ (BQ.out.alloc _)) ?_
              rintro e w6 ⟨rfl, k6⟩
              have B6 := hide ((BQ.out.alloc _).byte (c := 63) rfl k6)
              clear k6 kb
              go_wp2_with fail
              go_roundw
              case rel => exact ⟨q + 1, by omega, by go_num, hide (by rw [GT.out]; exact B6.out)⟩
              case measure => simp [intOf]; omega
            · rw [ek] at c0
              have GT : Hid (preT p k ++ nodeT (gs.take (q + 1)) = preT p k ++ nodeT (gs.take q) ++ lst (⟨#[91]⟩ ++ ⟨(rngT (lst x.t)).toArray⟩ ++ ⟨#[93]⟩)) := hide (by rw [GT0.out, globT_4 ek, lst_app2, lst_app2, lst_mk]; simp [lst])
              have tl : x.t.size ≤ 4398046511104 := by unfold globW at xw; omega
              have sz : (⟨(rngT (lst x.t)).toArray⟩ : ByteArray).size ≤ 4398046511104 := by have := rngT_len (lst x.t); rw [lst_len] at this; show (rngT (lst x.t)).toArray.size ≤ _; simp; omega
              have s1 : (⟨#[91]⟩ : ByteArray).size = 1 := rfl
              have s2 : (⟨#[93]⟩ : ByteArray).size = 1 := rfl
              have kr := fun v => ranges_spec x.t (by omega) (fun y hy => cls_small y (rise_cls (stand_class XS.out ek) y hy)) v
              obtain ⟨rt, hrt⟩ : ∃ rt, rt = (⟨(rngT (lst x.t)).toArray⟩ : ByteArray) := ⟨_, rfl⟩
              rw [← hrt] at GT sz kr
              clear hrt
              have kb := fun v (h : Bw w0 (w.heap.size + 1) (preT p k ++ nodeT (gs.take q)) v) => bld_text (⟨#[91]⟩ ++ rt ++ ⟨#[93]⟩) h.bl (by rw [Lib.byteCells_length, List.length_append]; have := LQ.out; simp [s1, s2]; omega) (Nat.le_of_lt h.lt)
              clear s1 s2
              go_wp2_with fail
              refine Calls.mono (kr _) ?_
              rintro e w6 ⟨rfl, u6⟩
              have B5 := hide ((BQ.out.alloc _).later u6)
              clear u6 kr
              go_wp2_with fail
              refine Calls.mono (kb _ B5.out) ?_
              rintro e w7 ⟨rfl, k7⟩
              have B6 := hide (B5.out.text k7)
              clear k7 kb
              go_wp2_with fail
              go_roundw
              case rel => exact ⟨q + 1, by omega, by go_num, hide (by rw [GT.out]; exact B6.out)⟩
              case measure => simp [intOf]; omega
            · rw [ek] at c0
              have GT : Hid (preT p k ++ nodeT (gs.take (q + 1)) = preT p k ++ nodeT (gs.take q) ++ lst (⟨#[123]⟩ ++ ⟨(altsT x.al).toArray⟩ ++ ⟨#[125]⟩)) := hide (by rw [GT0.out, globT_5 ek, lst_app2, lst_app2, lst_mk]; simp [lst])
              have aw := altsT_len x.al
              have al1 : x.al.length ≤ altsW x.al := by
                have h1 : ∀ l : List ByteArray, l.length ≤ altsW l := by
                  intro l
                  induction l with
                  | nil => simp [altsW]
                  | cons x r ih => simp only [List.length_cons, altsW, List.map_cons, List.sum_cons] at ih ⊢; omega
                exact h1 _
              have a1 := stand_alts XS.out ek
              have sz : (⟨(altsT x.al).toArray⟩ : ByteArray).size ≤ 4398046511104 := by show (altsT x.al).toArray.size ≤ _; unfold globW at xw; simp; omega
              have s1 : (⟨#[123]⟩ : ByteArray).size = 1 := rfl
              have s2 : (⟨#[125]⟩ : ByteArray).size = 1 := rfl
              obtain ⟨tb, tof, rfl, TX⟩ := x2.resolve_left (by intro e; rw [e] at a1; simp at a1)
              have tlt := TX.lt
              have kr := fun v (u : Below wr.heap.size wr v) => Tryd.strings_Join tb tof c5 x.al ⟨#[44]⟩ v (fun j y hy => by
                obtain ⟨hj, e⟩ := List.getElem?_eq_some_iff.1 hy
                rw [← e]
                exact (u.cell (p := ⟨tb, tof + j, none⟩) tlt).trans (TX.cell j hj)) (Nat.lt_of_lt_of_le tlt u.size) (by unfold globW at xw; omega) x3 (by
                  rw [show (⟨#[44]⟩ : ByteArray).data.toList = [44] from rfl, altsT_join]
                  unfold globW at xw; omega)
              rw [show (⟨#[44]⟩ : ByteArray).data.toList = [44] from rfl, altsT_join] at kr
              obtain ⟨rt, hrt⟩ : ∃ rt, rt = (⟨(altsT x.al).toArray⟩ : ByteArray) := ⟨_, rfl⟩
              rw [← hrt] at GT sz kr
              obtain ⟨al0, hal0⟩ : ∃ al0, al0 = x.al.length := ⟨_, rfl⟩
              rw [← hal0] at kr c2 a1
              clear hrt hal0 al1 aw x3
              have kb := fun v (h : Bw w0 (w.heap.size + 1) (preT p k ++ nodeT (gs.take q)) v) => bld_text (⟨#[123]⟩ ++ rt ++ ⟨#[125]⟩) h.bl (by rw [Lib.byteCells_length, List.length_append]; have := LQ.out; simp [s1, s2]; omega) (Nat.le_of_lt h.lt)
              clear s1 s2
              go_wp2_with fail
              refine Calls.mono (kr _ ((Below.refl _ _).alloc (Nat.le_refl _) _)) ?_
              rintro e w6 ⟨rfl, u6⟩
              have B5 := hide ((BQ.out.alloc _).later u6)
              clear u6 kr
              go_wp2_with fail
              refine Calls.mono (kb _ B5.out) ?_
              rintro e w7 ⟨rfl, k7⟩
              have B6 := hide (B5.out.text k7)
              clear k7 kb
              go_wp2_with fail
              go_roundw
              case rel => exact ⟨q + 1, by omega, by go_num, hide (by rw [GT.out]; exact B6.out)⟩
              case measure => simp [intOf]; omega
          · obtain rfl : q = m := by omega
            have F : Hid (preT p k ++ nodeT (gs.take q) = frontT p (k + 1)) := by show _ = _; rw [PM.out, HM2.out, List.take_length]
            go_wp2_with fail
            go_roundw
            case rel => exact ⟨k + 1, by omega, by go_num, hide (by rw [← F.out]; exact BQ.out)⟩
            case measure => simp [intOf]; omega
      · have k1 : (0 : Int) < (k : Int) := by omega
        have kb := bld_byte 46 BW.out.bl (by rw [Lib.byteCells_length]; have := frontT_len p k; omega) (Nat.le_of_lt lb)
        go_wp2_with fail
        refine Calls.mono kb ?_
        rintro e wo ⟨rfl, k6⟩
        have BO : Hid (Bw w0 (w.heap.size + 1) (preT p k) wo) := hide (by have := BW.out.byte (c := 46) rfl k6; unfold preT; rw [if_neg k0]; exact this)
        clear k6 kb
        have n0 : True := trivial
        go_wp2_with fail
        go_loopw [21] (fun i w2 => ∃ q : Nat, q ≤ m ∧ i = .int .i64 (q : Int) ∧ Hid (Bw w0 (w.heap.size + 1) (preT p k ++ nodeT (gs.take q)) w2)) (fun i _ => m - (intOf i).toNat)
        case atStart => exact ⟨0, by omega, rfl, hide (by simpa [nodeT] using BO.out)⟩
        case round =>
          obtain ⟨q, hq, rfl, BQ⟩ := hrel
          by_cases hql : q < m
          · have qg : q < gs.length := by have := HM2.out; omega
            obtain ⟨g2, o2, rfl, LG⟩ := HG.out.resolve_left (by intro e; rw [e] at qg; simp at qg)
            have BL2 : Below w.heap.size w wr := U0.out.trans (BQ.out.below.mono (by omega))
            have lg := LG.lt
            obtain ⟨c0, c1, b5, c5, c2, x2, x3⟩ := LG.cell q qg
            have c0 := (BL2.cell (p := ⟨g2, o2 + q * 3, none⟩) lg).trans c0
            have c1 := (BL2.cell (p := ⟨g2, o2 + q * 3 + 1, none⟩) lg).trans c1
            have c2 := (BL2.cell (p := ⟨g2, o2 + q * 3 + 2, none⟩) lg).trans c2
            have x2 := x2.later (BL2)
            have GT0 : Hid (preT p k ++ nodeT (gs.take (q + 1)) = preT p k ++ nodeT (gs.take q) ++ globT gs[q]) := hide (by rw [nodeT_take gs q qg, List.append_assoc])
            have xm : gs[q] ∈ gs := List.getElem_mem _
            have XS := hide (stand_of p HM.out MEM.out xm)
            have xw := globW_le p gs gs[q] MEM.out xm
            have LQ : Hid ((preT p k).length + (nodeT (gs.take q)).length ≤ 8796093022210) := by
              have h1 := nodeTk_len p gs MEM.out q
              show _ ≤ _; omega
            obtain ⟨x, hx⟩ : ∃ x, x = gs[q] := ⟨_, rfl⟩
            rw [← hx] at c0 c1 c2 x2 x3 GT0 XS xw
            have lbq := BQ.out.lt
            clear hx xm BL2
            rcases stand_kind XS.out with ek | ek | ek | ek | ek
            · rw [ek] at c0
              have GT : Hid (preT p k ++ nodeT (gs.take (q + 1)) = preT p k ++ nodeT (gs.take q) ++ lst x.t) := hide (by rw [GT0.out, globT_1 ek])
              have tl : x.t.size ≤ 4398046511104 := by unfold globW at xw; omega
              have kb := fun v (h : Bw w0 (w.heap.size + 1) (preT p k ++ nodeT (gs.take q)) v) => bld_text x.t h.bl (by rw [Lib.byteCells_length, List.length_append]; have := LQ.out; omega) (Nat.le_of_lt h.lt)
              go_wp2_with fail
              refine Calls.mono (kb _ (BQ.out.alloc _)) ?_
              rintro e w6 ⟨rfl, k6⟩
              have B6 := hide ((BQ.out.alloc _).text k6)
              clear k6 kb
              go_wp2_with fail
              go_roundw
              case rel => exact ⟨q + 1, by omega, by go_num, hide (by rw [GT.out]; exact B6.out)⟩
              case measure => simp [intOf]; omega
            · rw [ek] at c0
              have GT : Hid (preT p k ++ nodeT (gs.take (q + 1)) = preT p k ++ nodeT (gs.take q) ++ [42]) := hide (by rw [GT0.out, globT_2 ek])
              have kb := fun v (h : Bw w0 (w.heap.size + 1) (preT p k ++ nodeT (gs.take q)) v) => bld_byte 42 h.bl (by rw [Lib.byteCells_length, List.length_append]; have := LQ.out; omega) (Nat.le_of_lt h.lt)
              go_wp2_with fail
              refine Calls.mono (kb _ (BQ.out.alloc _)) ?_
              rintro e w6 ⟨rfl, k6⟩
              have B6 := hide ((BQ.out.alloc _).byte (c := 42) rfl k6)
              clear k6 kb
              go_wp2_with fail
              go_roundw
              case rel => exact ⟨q + 1, by omega, by go_num, hide (by rw [GT.out]; exact B6.out)⟩
              case measure => simp [intOf]; omega
            · rw [ek] at c0
              have GT : Hid (preT p k ++ nodeT (gs.take (q + 1)) = preT p k ++ nodeT (gs.take q) ++ [63]) := hide (by rw [GT0.out, globT_3 ek])
              have kb := fun v (h : Bw w0 (w.heap.size + 1) (preT p k ++ nodeT (gs.take q)) v) => bld_byte 63 h.bl (by rw [Lib.byteCells_length, List.length_append]; have := LQ.out; omega) (Nat.le_of_lt h.lt)
              go_wp2_with fail
              refine Calls.mono (kb _ (BQ.out.alloc _)) ?_
              rintro e w6 ⟨rfl, k6⟩
              have B6 := hide ((BQ.out.alloc _).byte (c := 63) rfl k6)
              clear k6 kb
              go_wp2_with fail
              go_roundw
              case rel => exact ⟨q + 1, by omega, by go_num, hide (by rw [GT.out]; exact B6.out)⟩
              case measure => simp [intOf]; omega
            · rw [ek] at c0
              have GT : Hid (preT p k ++ nodeT (gs.take (q + 1)) = preT p k ++ nodeT (gs.take q) ++ lst (⟨#[91]⟩ ++ ⟨(rngT (lst x.t)).toArray⟩ ++ ⟨#[93]⟩)) := hide (by rw [GT0.out, globT_4 ek, lst_app2, lst_app2, lst_mk]; simp [lst])
              have tl : x.t.size ≤ 4398046511104 := by unfold globW at xw; omega
              have sz : (⟨(rngT (lst x.t)).toArray⟩ : ByteArray).size ≤ 4398046511104 := by have := rngT_len (lst x.t); rw [lst_len] at this; show (rngT (lst x.t)).toArray.size ≤ _; simp; omega
              have s1 : (⟨#[91]⟩ : ByteArray).size = 1 := rfl
              have s2 : (⟨#[93]⟩ : ByteArray).size = 1 := rfl
              have kr := fun v => ranges_spec x.t (by omega) (fun y hy => cls_small y (rise_cls (stand_class XS.out ek) y hy)) v
              obtain ⟨rt, hrt⟩ : ∃ rt, rt = (⟨(rngT (lst x.t)).toArray⟩ : ByteArray) := ⟨_, rfl⟩
              rw [← hrt] at GT sz kr
              clear hrt
              have kb := fun v (h : Bw w0 (w.heap.size + 1) (preT p k ++ nodeT (gs.take q)) v) => bld_text (⟨#[91]⟩ ++ rt ++ ⟨#[93]⟩) h.bl (by rw [Lib.byteCells_length, List.length_append]; have := LQ.out; simp [s1, s2]; omega) (Nat.le_of_lt h.lt)
              clear s1 s2
              go_wp2_with fail
              refine Calls.mono (kr _) ?_
              rintro e w6 ⟨rfl, u6⟩
              have B5 := hide ((BQ.out.alloc _).later u6)
              clear u6 kr
              go_wp2_with fail
              refine Calls.mono (kb _ B5.out) ?_
              rintro e w7 ⟨rfl, k7⟩
              have B6 := hide (B5.out.text k7)
              clear k7 kb
              go_wp2_with fail
              go_roundw
              case rel => exact ⟨q + 1, by omega, by go_num, hide (by rw [GT.out]; exact B6.out)⟩
              case measure => simp [intOf]; omega
            · rw [ek] at c0
              have GT : Hid (preT p k ++ nodeT (gs.take (q + 1)) = preT p k ++ nodeT (gs.take q) ++ lst (⟨#[123]⟩ ++ ⟨(altsT x.al).toArray⟩ ++ ⟨#[125]⟩)) := hide (by rw [GT0.out, globT_5 ek, lst_app2, lst_app2, lst_mk]; simp [lst])
              have aw := altsT_len x.al
              have al1 : x.al.length ≤ altsW x.al := by
                have h1 : ∀ l : List ByteArray, l.length ≤ altsW l := by
                  intro l
                  induction l with
                  | nil => simp [altsW]
                  | cons x r ih => simp only [List.length_cons, altsW, List.map_cons, List.sum_cons] at ih ⊢; omega
                exact h1 _
              have a1 := stand_alts XS.out ek
              have sz : (⟨(altsT x.al).toArray⟩ : ByteArray).size ≤ 4398046511104 := by show (altsT x.al).toArray.size ≤ _; unfold globW at xw; simp; omega
              have s1 : (⟨#[123]⟩ : ByteArray).size = 1 := rfl
              have s2 : (⟨#[125]⟩ : ByteArray).size = 1 := rfl
              obtain ⟨tb, tof, rfl, TX⟩ := x2.resolve_left (by intro e; rw [e] at a1; simp at a1)
              have tlt := TX.lt
              have kr := fun v (u : Below wr.heap.size wr v) => Tryd.strings_Join tb tof c5 x.al ⟨#[44]⟩ v (fun j y hy => by
                obtain ⟨hj, e⟩ := List.getElem?_eq_some_iff.1 hy
                rw [← e]
                exact (u.cell (p := ⟨tb, tof + j, none⟩) tlt).trans (TX.cell j hj)) (Nat.lt_of_lt_of_le tlt u.size) (by unfold globW at xw; omega) x3 (by
                  rw [show (⟨#[44]⟩ : ByteArray).data.toList = [44] from rfl, altsT_join]
                  unfold globW at xw; omega)
              rw [show (⟨#[44]⟩ : ByteArray).data.toList = [44] from rfl, altsT_join] at kr
              obtain ⟨rt, hrt⟩ : ∃ rt, rt = (⟨(altsT x.al).toArray⟩ : ByteArray) := ⟨_, rfl⟩
              rw [← hrt] at GT sz kr
              obtain ⟨al0, hal0⟩ : ∃ al0, al0 = x.al.length := ⟨_, rfl⟩
              rw [← hal0] at kr c2 a1
              clear hrt hal0 al1 aw x3
              have kb := fun v (h : Bw w0 (w.heap.size + 1) (preT p k ++ nodeT (gs.take q)) v) => bld_text (⟨#[123]⟩ ++ rt ++ ⟨#[125]⟩) h.bl (by rw [Lib.byteCells_length, List.length_append]; have := LQ.out; simp [s1, s2]; omega) (Nat.le_of_lt h.lt)
              clear s1 s2
              go_wp2_with fail
              refine Calls.mono (kr _ ((Below.refl _ _).alloc (Nat.le_refl _) _)) ?_
              rintro e w6 ⟨rfl, u6⟩
              have B5 := hide ((BQ.out.alloc _).later u6)
              clear u6 kr
              go_wp2_with fail
              refine Calls.mono (kb _ B5.out) ?_
              rintro e w7 ⟨rfl, k7⟩
              have B6 := hide (B5.out.text k7)
              clear k7 kb
              go_wp2_with fail
              go_roundw
              case rel => exact ⟨q + 1, by omega, by go_num, hide (by rw [GT.out]; exact B6.out)⟩
              case measure => simp [intOf]; omega
          · obtain rfl : q = m := by omega
            have F : Hid (preT p k ++ nodeT (gs.take q) = frontT p (k + 1)) := by show _ = _; rw [PM.out, HM2.out, List.take_length]
            go_wp2_with fail
            go_roundw
            case rel => exact ⟨k + 1, by omega, by go_num, hide (by rw [← F.out]; exact BQ.out)⟩
            case measure => simp [intOf]; omega
    · obtain rfl : k = n := by omega
      have F : Hid (frontT p k = patT p) := by show _ = _; rw [HN.out]; exact frontT_all p
      have kS := Tryd.Builder_String_any_k (w.heap.size + 1) (w.heap.size + 1) (frontT p k) wr BW.out.bl (Nat.le_of_lt lb)
      go_wp2_with fail
      refine Calls.mono kS ?_
      rintro e w5 ⟨rfl, _, b5, _⟩
      have B5 := hide (U0.out.trans ((BW.out.below.trans b5).mono (by omega)))
      clear b5 kS
      go_wp2_with fail
      go_returns
      exact ⟨by rw [F.out]; rfl, B5.out⟩
end Go.Proofs.YteahbdhhcfoiiaaDoor
/- The reference of layer 3: Cut. (gen_cut.py) -/
namespace Go.Proofs.YteahbdhhcfoiiaaDoor
set_option linter.unusedVariables false
set_option linter.unusedSimpArgs false
open Go.RowKit W
/-- What is still to be cut. -/
def restC3 (s : ByteArray) (f k : Nat) : List (List UInt8) := if k ≤ s.size then cutL 46 (((lst s).take k).drop f) ((lst s).drop k) else []
theorem restC3_stop (s : ByteArray) (f k : Nat) (h : k < s.size) (e : s[k] = 46) : restC3 s f k = lst (s.extract f k) :: restC3 s (k + 1) (k + 1) := by
  unfold restC3
  rw [if_pos (by omega), if_pos (by omega)]
  have d : (lst s).drop k = s[k] :: (lst s).drop (k + 1) := drop_at h
  rw [d, cutL, if_pos e]
  have g : ((lst s).take (k + 1)).drop (k + 1) = [] := List.drop_eq_nil_of_le (by rw [List.length_take]; omega)
  rw [g]
  congr 1
  simp [lst, List.drop_take]
theorem restC3_step (s : ByteArray) (f k : Nat) (h : k < s.size) (hf : f ≤ k) (e : s[k] ≠ 46) : restC3 s f k = restC3 s f (k + 1) := by
  unfold restC3
  rw [if_pos (by omega), if_pos (by omega)]
  have d : (lst s).drop k = s[k] :: (lst s).drop (k + 1) := drop_at h
  rw [d, cutL, if_neg e]
  congr 1
  have g : (lst s).take (k + 1) = (lst s).take k ++ [s[k]] := by
    rw [List.take_succ_eq_append_getElem (by rw [lst_len]; exact h)]; rfl
  rw [g, List.drop_append_of_le_length (by rw [List.length_take, lst_len]; omega)]
theorem restC3_end (s : ByteArray) (f : Nat) (hf : f ≤ s.size) : restC3 s f s.size = [lst (s.extract f s.size)] := by
  unfold restC3
  have g : (lst s).drop s.size = [] := List.drop_eq_nil_of_le (by rw [lst_len]; omega)
  rw [if_pos (Nat.le_refl _), g]
  show [_] = [_]
  congr 1
  simp [lst, List.drop_take]
theorem restC3_past (s : ByteArray) (f : Nat) : restC3 s f (s.size + 1) = [] := by unfold restC3; rw [if_neg (by omega)]
def CutPost3 (s : ByteArray) (w : World) (e : Ending) (w' : World) : Prop := ∃ v ps, e = .returned v ∧ ps.map lst = cutL 46 [] (lst s) ∧ OwnT w w' v ps
set_option maxRecDepth 100000 in
set_option maxHeartbeats 4000000 in
theorem cut3_spec (s : ByteArray) (hs : s.size ≤ 8000000000000) (w : World) : Calls Tryd.prog 36 #[.string s] w (CutPost3 s w) := by
  obtain ⟨T, hT⟩ : ∃ T, T = cutL 46 [] (lst s) := ⟨_, rfl⟩
  have HT : Hid (restC3 s 0 0 = T) := by show _ = _; unfold restC3; rw [if_pos (Nat.zero_le _), hT]; rfl
  have HP : Hid (∀ e w', (∃ v ps, e = .returned v ∧ ps.map lst = T ∧ OwnT w w' v ps) → CutPost3 s w e w') := by
    rintro e w' ⟨v, ps, h1, h2, h3⟩; exact ⟨v, ps, h1, h2.trans hT, h3⟩
  clear hT
  go_enter Tryd.func36, Tryd.ntmps36
  go_wp2
  go_loopw [3, 4, 5] (fun v f i wr => ∃ (k m : Nat) (ps : List ByteArray), k ≤ s.size + 1 ∧ m ≤ k ∧ m ≤ s.size + 1 ∧ ps.length ≤ k ∧ i = .int .i64 k ∧ f = .int .i64 m ∧ (k ≤ s.size → m ≤ s.size) ∧ OwnT w wr v ps ∧ Hid (ps.map lst ++ restC3 s m k = T)) (fun _ _ i _ => s.size + 1 - (intOf i).toNat)
  case atStart => exact ⟨0, 0, [], by omega, by omega, by omega, by simp, rfl, rfl, fun _ => by omega, OwnT.none_ w, HT⟩
  case round =>
    obtain ⟨k, m, ps, hk, hm, hm2, hl, rfl, rfl, hms, own, hd⟩ := hrel
    have HO := hide own
    have bl := own.below
    have sz := bl.size
    clear own
    by_cases hlt : k < s.size
    · by_cases pt : s[k] = 46
      · have pz : (s[k].toNat : Int) = 46 := by rw [pt]; rfl
        have HD : Hid ((ps ++ [s.extract m k]).map lst ++ restC3 s (k + 1) (k + 1) = T) := by
          have q := hd.out; show _ = _; rw [restC3_stop s m k hlt pt] at q; simpa using q
        clear hd pt
        have c3 : ps.length + 1 ≤ maxLen := by unfold maxLen; omega
        obtain ⟨i0, hi0, hz0, hz1, hz2⟩ := info_parts info_txt
        have HI : Hid (Tryd.prog.info? 9 = some i0 ∧ i0.zero = some (.string ByteArray.empty) ∧ i0.size = 1 ∧ i0.bytes = 16) := ⟨hi0, hz0, hz1, hz2⟩
        clear hi0 hz0 hz1 hz2
        go_wp2_with (
          at_builtin
          refine wpList_append_own _ rfl _ _ 26 rfl w.heap.size 9 i0 (.string ByteArray.empty) 1 16 Tryd.underlying26 HI.out.1 HI.out.2.1 HI.out.2.2.1 HI.out.2.2.2 ?a1 ?a2 u3 ps.length (ps.map Value.string) ?a3 ?a4 ⟨wr.heap.size, 0, none⟩ 1 1 [.string (s.extract m k)] ?a5 ?a6 ?a7 ?a8 ?a9 ?b1 ?b2 ?_
          case a1 => rfl
          case a2 => decide
          case a3 => rfl
          case a4 => exact HO.out.own.alloc _
          case a5 => rfl
          case a6 => rfl
          case a7 => exact cell_one_new _ _ _
          case a8 => exact one_txt
          case a9 => exact c3
          case b1 => omega
          case b2 => (simp; omega)
          intro v' w1 hown' hgrow hnil)
        go_roundw
        case rel => exact ⟨k + 1, k + 1, ps ++ [s.extract m k], by omega, by omega, by omega, by simp; omega, by go_num, by go_num, fun _ => by omega, HO.out.more hown' hgrow, HD⟩
        case measure => first | (simp [intOf]; done) | (simp [intOf]; omega)
      · have pz : ¬ (s[k].toNat : Int) = 46 := fun e => pt (UInt8.toNat_inj.1 (show s[k].toNat = 46 by omega))
        have pzb : ((s[k].toNat : Int) == 46) = false := by rw [beq_eq_false_iff_ne]; exact pz
        have pzi : ((k : Int) == (s.size : Int)) = false := by rw [beq_eq_false_iff_ne]; omega
        clear pz
        have HD : Hid (ps.map lst ++ restC3 s m (k + 1) = T) := by
          have q := hd.out; show _ = _; rw [restC3_step s m k hlt hm pt] at q; exact q
        clear hd pt
        go_wp2_with fail
        go_roundw
        case rel => exact ⟨k + 1, m, ps, by omega, by omega, by omega, by omega, by go_num, rfl, fun _ => by omega, HO.out, HD⟩
        case measure => first | (simp [intOf]; done) | (simp [intOf]; omega)
    · by_cases he : k = s.size
      · subst he
        have hme := hms (Nat.le_refl _)
        have HD : Hid ((ps ++ [s.extract m s.size]).map lst ++ restC3 s (s.size + 1) (s.size + 1) = T) := by
          have q := hd.out; show _ = _; rw [restC3_end s m hme] at q; rw [restC3_past]; simpa using q
        clear hd hms
        have c3 : ps.length + 1 ≤ maxLen := by unfold maxLen; omega
        obtain ⟨i0, hi0, hz0, hz1, hz2⟩ := info_parts info_txt
        have HI : Hid (Tryd.prog.info? 9 = some i0 ∧ i0.zero = some (.string ByteArray.empty) ∧ i0.size = 1 ∧ i0.bytes = 16) := ⟨hi0, hz0, hz1, hz2⟩
        clear hi0 hz0 hz1 hz2
        go_wp2_with (
          at_builtin
          refine wpList_append_own _ rfl _ _ 26 rfl w.heap.size 9 i0 (.string ByteArray.empty) 1 16 Tryd.underlying26 HI.out.1 HI.out.2.1 HI.out.2.2.1 HI.out.2.2.2 ?a1 ?a2 u3 ps.length (ps.map Value.string) ?a3 ?a4 ⟨wr.heap.size, 0, none⟩ 1 1 [.string (s.extract m s.size)] ?a5 ?a6 ?a7 ?a8 ?a9 ?b1 ?b2 ?_
          case a1 => rfl
          case a2 => decide
          case a3 => rfl
          case a4 => exact HO.out.own.alloc _
          case a5 => rfl
          case a6 => rfl
          case a7 => exact cell_one_new _ _ _
          case a8 => exact one_txt
          case a9 => exact c3
          case b1 => omega
          case b2 => (simp; omega)
          intro v' w1 hown' hgrow hnil)
        go_roundw
        case rel => exact ⟨s.size + 1, s.size + 1, ps ++ [s.extract m s.size], by omega, by omega, by omega, by simp; omega, by go_num, by go_num, fun h => by omega, HO.out.more hown' hgrow, HD⟩
        case measure => first | (simp [intOf]; done) | (simp [intOf]; omega)
      · obtain rfl : k = s.size + 1 := by omega
        have HD : Hid (ps.map lst = T) := by
          have q := hd.out; show _ = _; rw [restC3_past, List.append_nil] at q; exact q
        clear hd hms
        go_wp2
        go_returns
        exact HP.out _ _ ⟨_, ps, rfl, HD.out, HO.out⟩
end Go.Proofs.YteahbdhhcfoiiaaDoor
/- name: Valid. -/
namespace Go.Proofs.YteahbdhhcfoiiaaDoor
set_option linter.unusedVariables false
set_option linter.unusedSimpArgs false
open Go.RowKit W
/-- A text read byte by byte: how many nodes, how long the last one is; none where a byte may not stand. -/
def scanN : List UInt8 → Nat → Nat → Option (Nat × Nat)
  | [], n, m => some (n, m)
  | c :: r, n, m => if nB c then scanN r n (m + 1) else if c = 46 ∧ 0 < m then scanN r (n + 1) 0 else none
def endN : Option (Nat × Nat) → Bool
  | some (n, m) => decide (0 < m) && decide (n ≤ 16)
  | none => false
/-- P3.1: is it a name? -/
def validN (l : List UInt8) : Bool := decide (l.length ≤ 200) && endN (scanN l 1 0)
set_option maxRecDepth 100000 in
set_option maxHeartbeats 4000000 in
theorem valid_walk (s : ByteArray) (w : World) (hs : s.size ≤ 200) : CalcN 17 #[.string s] w (.bool (endN (scanN s.data.toList 1 0))) := by
  have kb := fun (x : Int) (h0 : 0 ≤ x) (h1 : x < 256) (w' : World) => nbyte_spec x h0 h1 w'
  obtain ⟨E, hE⟩ : ∃ E, E = scanN s.data.toList 1 0 := ⟨_, rfl⟩
  rw [← hE]
  have HE := hide hE
  clear hE
  go_enter Tryd.func17, Tryd.ntmps17
  go_wp2
  go_loop [3, 4, 11] (fun a b i => ∃ (k n m : Nat), k ≤ s.size ∧ n ≤ k + 1 ∧ m ≤ k ∧ a = .int .i64 n ∧ b = .int .i64 m ∧ i = .int .i64 k ∧ Hid (scanN (s.data.toList.drop k) n m = E)) (fun _ _ i => s.size - (intOf i).toNat)
  case atStart => exact ⟨0, 1, 0, by omega, by omega, by omega, rfl, rfl, rfl, by rw [HE.out]; rfl⟩
  case round =>
    obtain ⟨k, n, m, hk, hn, hm, rfl, rfl, rfl, hd⟩ := hrel
    by_cases hlt : k < s.size
    · have dr := hd.out
      rw [drop_at hlt] at dr
      unfold scanN at dr
      have D := hide dr
      clear dr hd
      have kb' := fun w' => kb (s[k].toNat : Int) (by omega) (by have := s[k].toNat_lt; omega) w'
      have hx : namI (s[k].toNat : Int) = nB s[k] := rfl
      rw [hx] at kb'
      obtain ⟨t, ht⟩ : ∃ t, t = nB s[k] := ⟨_, rfl⟩
      rw [← ht] at kb' D
      clear ht hx kb
      cases t
      · by_cases pt : s[k] = 46
        · have pz : (s[k].toNat : Int) = 46 := by rw [pt]; rfl
          rw [pz] at kb'
          by_cases m0 : 0 < m
          · have F : Hid (scanN (s.data.toList.drop (k + 1)) (n + 1) 0 = E) := by have q := D.out; apply hide; simpa [pt, m0] using q
            clear D pt
            go_wp2_with (go_at_call 35; refine (kb' _).mono ?_; rintro e w1 ⟨rfl, rfl⟩)
            go_round
            case rel => exact ⟨k + 1, n + 1, 0, by omega, by omega, by omega, by go_num, rfl, by go_num, F⟩
            case measure => simp [intOf]; omega
          · have F : Hid (E = none) := by have q := D.out; apply hide; simpa [pt, m0] using q.symm
            clear D pt
            go_wp2_with (go_at_call 35; refine (kb' _).mono ?_; rintro e w1 ⟨rfl, rfl⟩)
            go_returns
            exact ⟨by rw [F.out]; rfl, rfl⟩
        · have F : Hid (E = none) := by have q := D.out; apply hide; simpa [pt] using q.symm
          have pz : ¬ (s[k].toNat : Int) = 46 := fun e => pt (UInt8.toNat_inj.1 (show s[k].toNat = 46 by omega))
          clear D pt
          go_wp2_with (go_at_call 35; refine (kb' _).mono ?_; rintro e w1 ⟨rfl, rfl⟩)
          go_returns
          exact ⟨by rw [F.out]; rfl, rfl⟩
      · have F : Hid (scanN (s.data.toList.drop (k + 1)) n (m + 1) = E) := by have q := D.out; apply hide; simpa using q
        clear D
        go_wp2_with (go_at_call 35; refine (kb' _).mono ?_; rintro e w1 ⟨rfl, rfl⟩)
        go_round
        case rel => exact ⟨k + 1, n, m + 1, by omega, by omega, by omega, rfl, by go_num, by go_num, F⟩
        case measure => simp [intOf]; omega
    · obtain rfl : k = s.size := by omega
      have F : Hid (E = some (n, m)) := by
        have := hd.out
        rw [List.drop_eq_nil_of_le (by simp)] at this
        exact this.symm
      clear hd
      by_cases m0 : 0 < m
      · by_cases n0 : n ≤ 16
        · go_wp2
          go_returns
          exact ⟨by rw [F.out]; simp [endN, m0, n0]; try omega, rfl⟩
        · go_wp2
          go_returns
          exact ⟨by rw [F.out]; simp [endN, m0, n0]; try omega, rfl⟩
      · obtain rfl : m = 0 := by omega
        go_wp2
        go_returns
        exact ⟨by rw [F.out]; simp [endN], rfl⟩
set_option maxRecDepth 100000 in
theorem valid_spec (s : ByteArray) (w : World) : CalcN 17 #[.string s] w (.bool (validN s.data.toList)) := by
  by_cases h : s.size ≤ 200
  · have := valid_walk s w h
    unfold validN
    rw [decide_eq_true (by simpa using h), Bool.true_and]
    exact this
  · have e : validN s.data.toList = false := by unfold validN; rw [decide_eq_false (by simpa using h)]; rfl
    rw [e]
    go_enter Tryd.func17, Tryd.ntmps17
    go_wp2
    go_returns
    exact ⟨rfl, rfl⟩
end Go.Proofs.YteahbdhhcfoiiaaDoor
/- A name is nodes between points. -/
namespace Go.Proofs.YteahbdhhcfoiiaaDoor
set_option linter.unusedVariables false
set_option linter.unusedSimpArgs false
open Go.RowKit W
/-- May a piece be a node? -/
def nodeB (p : List UInt8) : Bool := !p.isEmpty && p.all nB
theorem nB_point : nB 46 = false := by decide
theorem cutL_bad (l acc : List UInt8) (h : acc.all nB = false) : (cutL 46 acc l).all nodeB = false := by
  induction l generalizing acc with
  | nil => simp [cutL, nodeB, h]
  | cons x r ih =>
    unfold cutL
    split
    · simp [nodeB, h]
    · exact ih _ (by rw [List.all_append, h]; rfl)
theorem scan_cut (l acc : List UInt8) (n : Nat) (h : acc.all nB = true) :
    endN (scanN l n acc.length) = ((cutL 46 acc l).all nodeB && decide (n + (cutL 46 acc l).length ≤ 17)) := by
  induction l generalizing acc n with
  | nil =>
    unfold scanN cutL endN
    cases acc with
    | nil => simp [nodeB]
    | cons a t => simp only [List.all_cons, List.all_nil, nodeB, h, List.isEmpty_cons, Bool.not_false, Bool.true_and, List.length_cons, List.length_nil, Bool.and_true]; simp
  | cons x r ih =>
    unfold scanN cutL
    by_cases hx : nB x = true
    · have : x ≠ 46 := by rintro rfl; rw [nB_point] at hx; cases hx
      rw [if_pos hx, if_neg this]
      have := ih (acc ++ [x]) n (by rw [List.all_append, h]; simp [hx])
      rw [← this, List.length_append]; rfl
    · rw [if_neg hx]
      have hx' : nB x = false := by simpa using hx
      by_cases e : x = 46
      · rw [if_pos e]
        cases acc with
        | nil => rw [if_neg (by simp)]; simp [endN, nodeB]
        | cons a t =>
          rw [if_pos ⟨e, by simp⟩]
          have := ih [] (n + 1) rfl
          rw [List.length_nil] at this
          rw [this, List.all_cons]
          have g : nodeB (a :: t) = true := by unfold nodeB; rw [h]; rfl
          rw [g, Bool.true_and, List.length_cons]
          congr 1
          simp only [decide_eq_decide]; omega
      · rw [if_neg e, if_neg (fun g => e g.1), cutL_bad _ _ (by rw [List.all_append]; simp [hx'])]
        rfl
/-- A name is nodes between points. -/
theorem valid_cut (l : List UInt8) : validN l = (decide (l.length ≤ 200) && ((cutL 46 [] l).all nodeB && decide ((cutL 46 [] l).length ≤ 16))) := by
  unfold validN
  congr 1
  have := scan_cut l [] 1 rfl
  rw [List.length_nil] at this
  rw [this]
  congr 1
  simp only [decide_eq_decide]; omega
end Go.Proofs.YteahbdhhcfoiiaaDoor
