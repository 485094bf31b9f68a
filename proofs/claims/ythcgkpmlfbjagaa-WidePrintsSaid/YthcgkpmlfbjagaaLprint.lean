/- The reference of layer 1: PrintN. -/
import Derived.Test.YthcgkpmlfbjagaaLmul
import Derived.Test.YthcgkpmlfbjagaaWprint
namespace Go.Proofs.Ythcgkpmlfbjagaa
set_option linter.unusedVariables false
open Go.RowKit W Lb
theorem drop_set (o : List Int) (j : Nat) (x : Int) (h : j < o.length) : (o.set j x).drop j = x :: o.drop (j + 1) := by
  rw [List.drop_eq_getElem_cons (by simpa using h)]
  simp [List.drop_set]
structure TenAt (w wi : World) (ls : List Int) (n k : Nat) (r : Int) (o : List Int) : Prop where
  row : Row w wi w.heap.size n o
  kk : k ≤ n
  r0 : 0 ≤ r
  r1 : r < 10
  eq : val (ls.drop k) = 10 * val (o.drop k) + r
theorem TenAt.step {w wi : World} {ls : List Int} {n j : Nat} {r v : Int} {o : List Int} (h : TenAt w wi ls n (j + 1) r o) (hl : ls.length = n) (ok : Ok ls) (hv : v = r * 65536 + ls.getD j 0) :
    TenAt w (wi.setCell ⟨w.heap.size, j, none⟩ (.int .u32 (v / 10))) ls n j (v % 10) (o.set j (v / 10)) := by
  obtain ⟨x0, x1⟩ := ok_at ok j
  have k := h.kk
  have a := h.r0
  have b := h.r1
  refine ⟨h.row.set j (v / 10) (by omega) (by omega) 0, by omega, by omega, by omega, ?_⟩
  rw [drop_set _ _ _ (by rw [h.row.len]; omega), drop_val ls j (by omega)]
  exact ten_round h.eq hv
theorem TenAt.done {w wi : World} {ls : List Int} {n : Nat} {r : Int} {o : List Int} (h : TenAt w wi ls n 0 r o) : val o = val ls / 10 ∧ r = val ls % 10 := by
  have e := h.eq
  have a := h.r0
  have b := h.r1
  simp only [List.drop_zero] at e
  omega
theorem one_byte (W : World) (c : Int) (d : UInt8) (h : c = (d.toNat : Int)) : (convert 84 9 (.slice (some ⟨W.heap.size, 0, none⟩) 1 1)).run Try.prog (W.alloc (.cells #[.int .u8 c] 5)) = .ok (.string ⟨#[d]⟩) (W.alloc (.cells #[.int .u8 c] 5)) :=
  conv_text W.heap.size 0 [d] _ (fun j hj => by simp at hj; subst hj; rw [h]; simp [go_sem])
def strLen : Value → Nat | .string t => t.size | _ => 0
theorem str_len {N : Nat} {M : Int} {l : List UInt8} (hN : N < 10 ^ 39) (h : Dc.dec N = Dc.pre M.toNat ++ l) : l.length ≤ 39 := by
  have h1 := dec_len hN
  have h2 := congrArg List.length h
  simp at h2; omega
theorem pre_step {N : Nat} {M : Int} {l : List UInt8} (m0 : 0 ≤ M) (q : M ≠ 0) (h : Dc.dec N = Dc.pre M.toNat ++ l) : Dc.dec N = Dc.pre (M / 10).toNat ++ Dc.ch (M % 10).toNat :: l := by
  have e : (M / 10).toNat = M.toNat / 10 := by omega
  have e2 : (M % 10).toNat = M.toNat % 10 := by omega
  rw [h, Dc.pre_pos (by omega), e, e2]; simp
/-- The state of PrintN's loop. -/
structure PNInv (w wr : World) (s : Bool) (N : Nat) (lv : Value) (ls : List Int) (M : Int) (t : List UInt8) : Prop where
  lim : Limbs wr lv ls
  mag : Mag ls M
  dig : Dc.dec N = Dc.pre M.toNat ++ t
  c0 : wr.cell? ⟨w.heap.size, 0, none⟩ = some (.bool s)
  lt : w.heap.size < wr.heap.size
  below : Below w.heap.size w wr
  few : ls.length ≤ 100
set_option maxRecDepth 100000 in
set_option maxHeartbeats 8000000 in
theorem printN_some (s : Bool) (p : Option Addr) (c : Nat) (l : List Int) (N : Nat) (w : World) (L : Limbs w (.slice p l.length c) l) (M : Mag l (N : Int)) (n0 : N ≠ 0) (hN : N < 10 ^ 39) (hl : l.length ≤ 100) :
    Calls Try.prog 60 #[.agg #[.bool s, .slice p l.length c]] w fun e w' => e = .returned (.string ⟨(if s = true then 45 :: Dc.dec N else Dc.dec N).toArray⟩) ∧ Below w.heap.size w w' := by
  have LL := hide L
  have MM := hide M
  have HN := hide hN
  have HN0 := hide n0
  have ne : ¬ l.length = 0 := fun e => by have := List.eq_nil_of_length_eq_zero e; have := M.nil_iff.1 this; omega
  have ne' : ((l.length : Int) == 0) = false := by simpa using ne
  clear L M hN n0
  go_enter Try.func60, Try.ntmps60
  go_wp2_with fail
  go_loopw [3, 4] (fun sv lv wr => ∃ (t : List UInt8) (ls : List Int) (M : Int), sv = .string ⟨t.toArray⟩ ∧ PNInv w wr s N lv ls M t) (fun sv _ _ => 50 - strLen sv)
  case atStart => exact ⟨[], l, N, rfl, ⟨LL.out.later (by go_grown), MM.out, by rw [Dc.dec_pos HN0.out]; simp, by simp [go_sem], by simp, by go_grown, hl⟩⟩
  case round =>
    obtain ⟨t, ls, M, rfl, inv⟩ := hrel
    have I := hide inv
    clear inv
    have tl := str_len HN.out I.out.dig
    have c0 := I.out.c0
    have lt := I.out.lt
    rcases I.out.lim with ⟨p1, c1, rfl, rfl⟩ | ⟨b, o, cap, rfl, hc, hb, hs, hh⟩
    · have M0 : M = 0 := I.out.mag.nil_iff.1 rfl
      have D := hide (show Dc.dec N = t by have := I.out.dig; rw [M0] at this; simpa [Dc.pre_zero] using this)
      have dash : ∀ w, (Op.stringOp .add ⟨#[45]⟩ ⟨t.toArray⟩).run Try.prog w = .ok (.string ⟨(45 :: t).toArray⟩) w := fun w => run_string_add_lists w [45] t (by simp) (by omega)
      have BL := hide I.out.below
      clear I M0
      cases s
      · go_wp2_with fail
        go_returns
        exact ⟨by rw [D.out]; rfl, BL.out⟩
      · go_wp2_with fail
        go_returns
        exact ⟨by rw [D.out]; rfl, BL.out⟩
    · by_cases M0 : M = 0
      · have := I.out.mag.nil_iff.2 M0
        subst this
        have D := hide (show Dc.dec N = t by have := I.out.dig; rw [M0] at this; simpa [Dc.pre_zero] using this)
        have dash : ∀ w, (Op.stringOp .add ⟨#[45]⟩ ⟨t.toArray⟩).run Try.prog w = .ok (.string ⟨(45 :: t).toArray⟩) w := fun w => run_string_add_lists w [45] t (by simp) (by omega)
        have BL := hide I.out.below
        clear I M0 hh
        simp only [List.length_nil]
        cases s
        · go_wp2_with fail
          go_returns
          exact ⟨by rw [D.out]; rfl, BL.out⟩
        · go_wp2_with fail
          go_returns
          exact ⟨by rw [D.out]; rfl, BL.out⟩
      have DS := hide (pre_step I.out.mag.nonneg M0 I.out.dig)
      have ML := hide I.out.few
      have n1 : 1 ≤ ls.length := by
        apply Decidable.byContradiction; intro g
        have := List.eq_nil_of_length_eq_zero (show ls.length = 0 by omega)
        exact M0 (I.out.mag.nil_iff.1 this)
      obtain ⟨n, hn⟩ : ∃ n, n = ls.length := ⟨_, rfl⟩
      have HLN := hide hn
      have HH := hide hh
      rw [← hn] at hc n1 ⊢
      have nl : n ≤ 100 := by have := ML.out; omega
      have n0 : ¬ (n : Int) ≤ 0 := by omega
      have hmk := run_make_row' (P := Try.prog) 55 88 (.int .u32 0) 4 Try.underlying55 info_u32 rfl .i64 .i64 n (by omega) (by omega)
      have MD := hide (Row.made wr n (by unfold maxLen; omega))
      have MG := hide I.out.mag
      have BL := hide I.out.below
      clear I hs hh hn M0
      obtain ⟨wo, rfl⟩ : ∃ wo : World, wo = wr := ⟨_, rfl⟩
      go_wp2_with fail
      clear hmk
      go_loopw [6, 7] (fun rv iv wi => ∃ (k : Nat) (r : Int) (q : List Int), iv = .int .i64 ((k : Int) - 1) ∧ rv = .int .u32 r ∧ TenAt wo wi ls n k r q) (fun _ iv _ => (intOf iv + 1).toNat)
      case atStart => exact ⟨n, 0, List.replicate n 0, by go_num, rfl, ⟨MD.out, by omega, by omega, by omega, by rw [List.drop_of_length_le (by rw [← HLN.out]; omega), List.drop_of_length_le (by simp)]; simp [val]⟩⟩
      case round =>
        obtain ⟨k, r, q, rfl, rfl, at0⟩ := hrel
        have AT := hide at0
        clear at0
        rcases k with _ | k
        · have e0 : ((0 : Nat) : Int) - 1 = -1 := by omega
          rw [e0]
          clear e0
          obtain ⟨D1, D2⟩ := AT.out.done
          rw [MG.out.val] at D1 D2
          have m0 := MG.out.nonneg
          have r0 := AT.out.r0
          have r1 := AT.out.r1
          have em : (M % 10).toNat = r.toNat := by omega
          obtain ⟨c, hcc⟩ : ∃ c : Int, c = ((Dc.ch r.toNat).toNat : Int) := ⟨_, rfl⟩
          have c1 : 48 + r = c := by rw [hcc, Dc.ch_toNat (by omega)]; omega
          have c2 : c % 256 = c := by omega
          have c3 : IntKind.u8.wrap c = c := by rw [IntKind.wrap_u8]; omega
          have ob := fun W => one_byte W c (Dc.ch r.toNat) hcc
          have cat : ∀ w, (Op.stringOp .add ⟨#[Dc.ch r.toNat]⟩ ⟨t.toArray⟩).run Try.prog w = .ok (.string ⟨(Dc.ch r.toNat :: t).toArray⟩) w := fun w => run_string_add_lists w [Dc.ch r.toNat] t (by simp) (by omega)
          have ql := AT.out.row.len
          have T1 := fun (W : World) (h : Below wr.heap.size wr W) => trim_at (some ⟨wo.heap.size, 0, none⟩) n q W (by rw [ql]; exact AT.out.row.limbs.later h) (by omega)
          rw [ql] at T1
          have DS2 : Hid (Dc.dec N = Dc.pre (M / 10).toNat ++ Dc.ch r.toNat :: t) := by have := DS.out; rwa [em] at this
          have M2 := Mag.of_top AT.out.row.ok
          rw [D1, ql] at M2
          have lq : (q.take (top q n)).length ≤ 100 := by have := top_le q n; simp; omega
          have TT := hide T1
          have FIN : Hid (∀ W, Below wr.heap.size wr W → PNInv w W s N (.slice (some ⟨wo.heap.size, 0, none⟩) (top q n) n) (q.take (top q n)) (M / 10) (Dc.ch r.toNat :: t)) := fun W h =>
            ⟨(AT.out.row.limbs.later h).take _ (top_le _ _), M2, DS2.out, ((AT.out.row.below.trans (h.mono AT.out.row.below.size)).cell (p := ⟨w.heap.size, 0, none⟩) lt).trans c0, Nat.lt_of_lt_of_le lt (AT.out.row.below.trans (h.mono AT.out.row.below.size)).size, BL.out.trans ((AT.out.row.below.trans (h.mono AT.out.row.below.size)).mono BL.out.size), lq⟩
          clear AT D1 D2 T1 M2 hcc DS DS2 ql lq em
          go_wp2_with fail
          refine (TT.out _ (by go_grown)).mono ?_
          rintro e w' ⟨rfl, rfl⟩
          clear TT
          go_wp2_with fail
          go_roundw
          case rel => exact ⟨_, _, _, rfl, FIN.out _ (by go_grown)⟩
          case measure => simp [strLen, ByteArray.size]; omega
        · have ei : ((k + 1 : Nat) : Int) - 1 = k := by omega
          rw [ei]
          clear ei
          have kn : k < n := AT.out.kk
          have e3 : wr.cell? ⟨b, o + k, none⟩ = some (.int .u32 (ls.getD k 0)) := (AT.out.row.below.cell (p := ⟨b, o + k, none⟩) hb).trans (HH.out k (by rw [← HLN.out]; exact kn))
          obtain ⟨f1, f2⟩ := AT.out.row.at_ k kn
          have r0 := AT.out.r0
          have r1 := AT.out.r1
          have lt2 := AT.out.row.lt
          obtain ⟨x0, x1⟩ := ok_at MG.out.ok k
          obtain ⟨v, hv⟩ : ∃ v, v = r * 65536 + ls.getD k 0 := ⟨_, rfl⟩
          have ST := hide (AT.out.step HLN.out.symm MG.out.ok hv)
          obtain ⟨x, hx⟩ : ∃ x, x = ls.getD k 0 := ⟨_, rfl⟩
          rw [← hx] at e3 x0 x1 hv
          have v0 : 0 ≤ v := by omega
          have v1 : v < 1000000 := by omega
          have e4 : r * 65536 + x = v := hv.symm
          clear hx hv AT
          go_wp2_with fail
          go_roundw
          case rel => exact ⟨k, _, _, by go_num, rfl, ST.out⟩
          case measure => simp [intOf]
end Go.Proofs.Ythcgkpmlfbjagaa
