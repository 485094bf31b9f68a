/- The reference of layer 1: addL. -/
import Derived.Test.YthcgkpmlfbjagaaLw
import Derived.Test.YthcgkpmlfbjagaaLimbc
import Derived.Test.YthcgkpmlfbjagaaHid
import Derived.Laws.BitsAllLaws
namespace Go.Proofs.Ythcgkpmlfbjagaa
set_option linter.unusedVariables false
open Go.RowKit W Lb
/-- The answer is new limbs of the number m. -/
def MagPost (w : World) (m : Int) (e : Ending) (w' : World) : Prop := ∃ v l, e = .returned v ∧ Limbs w' v l ∧ Mag l m ∧ Below w.heap.size w w' ∧ Fresh w.heap.size v
theorem u32_low (x : Int) (a : 0 ≤ x) (b : x < 4294967296) : bits .and .u32 x 65535 = x % 65536 := by
  rw [u32_and x 65535 a b (by omega) (by omega)]
  obtain ⟨m, rfl⟩ := Int.eq_ofNat_of_zero_le a
  have : ((m : Int).toNat &&& (65535 : Int).toNat) = m % 65536 := by
    show m &&& 65535 = m % 65536
    exact Nat.and_two_pow_sub_one_eq_mod m 16
  rw [this]; omega
structure AddAt (w wr : World) (la lb : List Int) (v : Value) (k : Nat) (cc : Int) (o : List Int) : Prop where
  own : wr.ownsRow w.heap.size 88 1 v k (o.map (Value.int .u32))
  ok : Ok o
  len : o.length = k
  c0 : 0 ≤ cc
  c1 : cc ≤ 1
  eq : val o + pw k * cc = val (la.take k) + val (lb.take k)
  top : k ≤ max la.length lb.length ∨ k = max la.length lb.length + 1 ∧ cc = 0
  below : Below w.heap.size w wr
def AddInv (w wr : World) (la lb : List Int) (v c i : Value) : Prop := ∃ (k : Nat) (cc : Int) (o : List Int), i = .int .i64 k ∧ c = .int .u32 cc ∧ AddAt w wr la lb v k cc o
set_option maxHeartbeats 4000000 in
theorem addL_spec (va vb : Value) (la lb : List Int) (w : World) (Ha : Limbs w va la) (Hb : Limbs w vb lb) (oa : Ok la) (ob : Ok lb) (na : la.length ≤ 1000) (nb : lb.length ≤ 1000) :
    Calls Try.prog 67 #[va, vb] w (MagPost w (val la + val lb)) := by
  obtain ⟨p, ca, rfl⟩ := Ha.form
  obtain ⟨q, cb, rfl⟩ := Hb.form
  have HA := hide Ha
  have HB := hide Hb
  have OA := hide oa
  have OB := hide ob
  clear Ha Hb oa ob
  go_enter Try.func67, Try.ntmps67
  go_wp2
  go_loopw [5, 6, 7] (fun v c i wr => AddInv w wr la lb v c i) (fun _ _ i _ => max la.length lb.length + 1 - (intOf i).toNat)
  case atStart => exact ⟨0, 0, [], rfl, rfl, ⟨World.ownsRow_nil _ _ _ _, ok_nil, rfl, by omega, by omega, by simp [val, pw], .inl (by omega), Below.refl _ _⟩⟩
  case round =>
    obtain ⟨k, cc, o, rfl, rfl, at_⟩ := hrel
    have tp := at_.top
    have cc0 := at_.c0
    have cc1 := at_.c1
    have AT := hide at_
    clear at_
    by_cases hg : k < la.length ∨ k < lb.length ∨ 0 < cc
    · have c1 := limb_spec _ la k wr (HA.out.later AT.out.below) (by omega) (by omega)
      have c2 := limb_spec _ lb k wr (HB.out.later AT.out.below) (by omega) (by omega)
      obtain ⟨x0, x1⟩ := ok_at OA.out k
      obtain ⟨y0, y1⟩ := ok_at OB.out k
      obtain ⟨x, hx⟩ : ∃ x, x = la.getD k 0 := ⟨_, rfl⟩
      obtain ⟨y, hy⟩ : ∃ y, y = lb.getD k 0 := ⟨_, rfl⟩
      obtain ⟨t, ht⟩ : ∃ t, t = (x + y + cc) % 65536 := ⟨_, rfl⟩
      obtain ⟨d, hd⟩ : ∃ d, d = (x + y + cc) / 65536 := ⟨_, rfl⟩
      rw [← hx] at c1 x0 x1
      rw [← hy] at c2 y0 y1
      have e1 : bits .and .u32 (x + y + cc) 65535 = t := by rw [u32_low _ (by omega) (by omega), ht]
      have e2 : (x + y + cc) / 65536 = d := hd.symm
      have ST : Hid (Ok (o ++ [t]) ∧ 0 ≤ d ∧ d ≤ 1 ∧ val (o ++ [t]) + pw (k + 1) * d = val (la.take (k + 1)) + val (lb.take (k + 1)) ∧ (k + 1 ≤ max la.length lb.length ∨ k + 1 = max la.length lb.length + 1 ∧ d = 0)) := by
        refine ⟨ok_snoc AT.out.ok (by omega) (by omega), by omega, by omega, ?_, ?_⟩
        · rw [ht, hd]; exact add_round hx hy rfl AT.out.len AT.out.eq
        · by_cases hk : k < max la.length lb.length
          · exact .inl (by omega)
          · have z1 := at_out (l := la) (k := k) (by omega)
            have z2 := at_out (l := lb) (k := k) (by omega)
            exact .inr ⟨by omega, by omega⟩
      have sz := AT.out.below.size
      obtain ⟨i0, hi0, hz0, hz1, hz2⟩ := info_parts info_u32
      have HI : Hid (Try.prog.info? 88 = some i0 ∧ i0.zero = some (.int .u32 0) ∧ i0.size = 1 ∧ i0.bytes = 4) := ⟨hi0, hz0, hz1, hz2⟩
      have kb : k + 1 ≤ maxLen := by unfold maxLen; omega
      clear hi0 hz0 hz1 hz2 hx hy ht hd
      rcases (by omega : k < la.length ∨ (¬ k < la.length ∧ k < lb.length) ∨ (¬ k < la.length ∧ ¬ k < lb.length ∧ 0 < cc)) with h1 | ⟨h1, h2⟩ | ⟨h1, h2, h3⟩
      all_goals
        go_wp2_with fail
        refine c1.mono ?_
        rintro e w' ⟨rfl, rfl⟩
        go_wp2_with fail
        refine c2.mono ?_
        rintro e w' ⟨rfl, rfl⟩
        go_wp2_with (at_builtin; go_loud (refine wpList_append_own _ rfl _ _ 55 rfl w.heap.size 88 i0 (.int .u32 0) 1 4 Try.underlying55 HI.out.1 HI.out.2.1 HI.out.2.2.1 HI.out.2.2.2 rfl (by decide) u5 k (o.map (Value.int .u32)) rfl (AT.out.own.alloc _) ⟨wr.heap.size, 0, none⟩ 1 1 [.int .u32 t] rfl rfl (cell_one_new _ _ _) one_u32 kb (by omega) (by simp; omega) ?_); intro v' w1 hown' hgrow hnil)
        go_roundw
        case rel =>
          refine ⟨k + 1, d, o ++ [t], by go_num, rfl, ⟨by rw [List.map_append]; exact hown', ST.out.1, by rw [List.length_append, AT.out.len]; rfl, ST.out.2.1, ST.out.2.2.1, ST.out.2.2.2.1, ST.out.2.2.2.2, (AT.out.below.alloc sz _).grown hgrow (by simp; omega) (fun j hj => (AT.out.own.lt j hj).1)⟩⟩
        case measure => simp [intOf]; omega
    · have h1 : ¬ k < la.length := by omega
      have h2 : ¬ k < lb.length := by omega
      obtain rfl : cc = 0 := by omega
      obtain ⟨L, hn⟩ := Limbs.of_own AT.out.own
      obtain ⟨v', c3, L', fr⟩ := trim_own AT.out.own (by have := AT.out.len; omega)
      obtain ⟨pu, cu, hu⟩ := L.form
      have e := AT.out.eq
      rw [List.take_of_length_le (by omega), List.take_of_length_le (by omega)] at e
      have FIN : Hid (MagPost w (val la + val lb) (.returned v') wr) := ⟨v', _, rfl, L', by have := Mag.of_top AT.out.ok; rwa [show Lb.val o = val la + val lb by omega] at this, AT.out.below, fr⟩
      clear L L' hu hn e hg
      go_wp2_with fail
      refine c3.mono ?_
      rintro e w' ⟨rfl, rfl⟩
      go_wp2_with fail
      go_returns
      exact FIN.out
end Go.Proofs.Ythcgkpmlfbjagaa
