/- The reference of layer 5: Fit. (gen_rpk.py) -/
import Derived.Test.YthaphijkfedihaaPadd
import Derived.Test.YthaphijkfedihaaRcut5
namespace Go.Proofs.Ythaphijkfedihaa
set_option linter.unusedVariables false
set_option linter.unusedSimpArgs false
open Go.RowKit W
theorem bne_of {a : Int} {b : Bool} (h : (a == 13) = b) : (a != 13) = !b := by rw [bne, h]
theorem cut_one (s : List UInt8) : decide ((cutL 10 [] s).length = 1) = decide ((10 : UInt8) ∉ s) := by
  rw [decide_eq_decide]; exact cutL_one 10 s []
set_option maxRecDepth 100000 in
set_option maxHeartbeats 8000000 in
theorem rfit_spec (s : ByteArray) (hs : s.size ≤ 4000000000000) (w : World) : Calls Try.prog 25 #[.string s] w fun e w' => e = .returned (.bool (fitL (lst s))) ∧ Below w.heap.size w w' := by
  by_cases ne : lst s = []
  · have E : Hid (fitL (lst s) = false) := by show _ = _; rw [ne]; rfl
    obtain ⟨b, hb⟩ : ∃ b, b = fitL (lst s) := ⟨_, rfl⟩
    rw [← hb]
    have EB : Hid (b = false) := hb.trans E.out
    obtain rfl : s = ⟨#[]⟩ := lst_inj (ne.trans rfl)
    clear ne E hb
    go_enter Try.func25, Try.ntmps25
    go_wp2
    go_returns
    exact ⟨by rw [EB.out]; rfl, Below.refl _ _⟩
  · have n1 : s.toList.isEmpty = false := by rw [ByteArray.toList_eq]; unfold lst at ne; cases q : s.data.toList with | nil => exact absurd q ne | cons _ _ => rfl
    have n2 : ¬ s.toList = [] := by rw [ByteArray.toList_eq]; exact ne
    have kc := cut5_spec s (by omega)
    obtain ⟨b, hb⟩ : ∃ b, b = fitL (lst s) := ⟨_, rfl⟩
    rw [← hb]
    obtain ⟨k, hk⟩ : ∃ k, s.size = k + 1 := ⟨s.size - 1, by have : 0 < (lst s).length := (by cases q : lst s with | nil => exact absurd q ne | cons _ _ => simp); rw [lst_len] at this; omega⟩
    have kb : k < 140737488355328 := by omega
    have i1 : IntKind.i64.wrap ((s.size : Int) - 1) = k := by rw [IntKind.wrap_i64]; omega
    have i2 : (k : Int) < (s.size : Int) := by omega
    have i3 : k < s.size := by omega
    have i4 : (k : Int) ≤ (s.size : Int) := by omega
    have la : (lst s).getLast? = some (s[k]'i3) := last_at hk
    clear hk
    by_cases h10 : (10 : UInt8) ∈ lst s
    · have EB : Hid (b = false) := by show _ = _; rw [hb]; unfold fitL; simp [h10]
      have NE : Hid ((cutL 10 [] (lst s)).length ≠ 1) := fun q => ((cutL_one 10 (lst s) []).1 q) h10
      clear hb h10 la ne
      go_enter Try.func25, Try.ntmps25
      go_wp2_with fail
      refine (kc _).mono ?_
      rintro e w1 ⟨v, cps, rfl, hps, own⟩
      have BL := hide own.below
      obtain ⟨A, c, rfl, _, _⟩ := own_form own.own
      have q : (((cps.length : Int)) == 1) = false := by
        rw [beq_eq_false_iff_ne]; intro q
        have := congrArg List.length hps
        rw [List.length_map] at this
        exact NE.out (by omega)
      clear hps own kc
      go_wp2_with fail
      go_returns
      exact ⟨by rw [EB.out]; rfl, BL.out⟩
    · have ON : Hid ((cutL 10 [] (lst s)).length = 1) := (cutL_one 10 (lst s) []).2 h10
      by_cases x13 : s[k]'i3 = 13
      · have EB : Hid (b = false) := by show _ = _; rw [hb]; unfold fitL; rw [la, x13]; simp
        have xe : ((s[k]'i3).toNat : Int) = 13 := by rw [x13]; rfl
        have xb : (((s[k]'i3).toNat : Int) == 13) = true := by rw [xe]; rfl
        have xn := bne_of xb
        clear hb h10 la ne x13
        go_enter Try.func25, Try.ntmps25
        go_wp2_with fail
        refine (kc _).mono ?_
        rintro e w1 ⟨v, cps, rfl, hps, own⟩
        have BL := hide own.below
        obtain ⟨A, c, rfl, _, _⟩ := own_form own.own
        have q1 : cps.length = 1 := by have := congrArg List.length hps; rw [List.length_map] at this; exact this.trans ON.out
        rw [q1]
        clear hps own kc q1
        go_wp2_with fail
        go_returns
        exact ⟨by rw [EB.out]; rfl, BL.out⟩
      · have EB : Hid (b = true) := by show _ = _; rw [hb]; exact fit_mk ne h10 (by rw [la]; intro q; exact x13 (Option.some.inj q))
        have xb : (((s[k]'i3).toNat : Int) == 13) = false := by rw [beq_eq_false_iff_ne]; intro q; exact x13 (UInt8.toNat_inj.1 (show (s[k]'i3).toNat = 13 by omega))
        have xn := bne_of xb
        clear hb h10 la ne x13
        go_enter Try.func25, Try.ntmps25
        go_wp2_with fail
        refine (kc _).mono ?_
        rintro e w1 ⟨v, cps, rfl, hps, own⟩
        have BL := hide own.below
        obtain ⟨A, c, rfl, _, _⟩ := own_form own.own
        have q1 : cps.length = 1 := by have := congrArg List.length hps; rw [List.length_map] at this; exact this.trans ON.out
        rw [q1]
        clear hps own kc q1
        go_wp2_with fail
        go_returns
        exact ⟨by rw [EB.out]; rfl, BL.out⟩
end Go.Proofs.Ythaphijkfedihaa
