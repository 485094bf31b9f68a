/- due: the reference's Set with room. -/
import Derived.Test.YtdfmfkibafcbcaaRdh
import Derived.Deep.CutRange
namespace Go.Proofs.Ytdfmfkibafcbcaa
set_option linter.unusedVariables false
set_option linter.unusedSimpArgs false
open Go.RowKit W Go.Maps
theorem insE_len (r : List En) (d : En) : (insE r d).length = r.length + 1 := (insE_perm r d).length_eq
/-- The cells of a list's head and tail, though the list may be empty. -/
theorem IsE.head {w : World} {g o : Nat} {L : List En} (h : IsE w (some ⟨g, o, none⟩) L) (i : Nat) : ∀ j u, (dues (L.take i))[j]? = some u → w.cell? ((⟨g, o, none⟩ : Addr).add j) = some u := by
  rcases h with h | ⟨g', o', e, l⟩
  · subst h; intro j u e; simp [dues] at e
  · injection e with e; injection e with e1 e2; subst e1 e2; exact l.head i
theorem tail_any {w : World} {g o k n : Nat} {L : List En} (h : IsE w (some ⟨g, o, none⟩) L) (hn : n = L.length) {ad : Addr} (e0 : k < n → ad = ⟨g, o + k * 2, none⟩) : ∀ j u, (dues (L.drop k))[j]? = some u → w.cell? (ad.add j) = some u := by
  rcases h with h | ⟨g', o', e, l⟩
  · subst h; intro j u e; simp [dues] at e
  · injection e with e; injection e with e1 e2; subst e1 e2; exact l.tail hn e0
def RSetP (rb : Nat) (lim : Int) (a : Option Addr) (L : List En) (key : ByteArray) (t : Int) (w : World) (e : Ending) (w' : World) : Prop :=
  e = .returned (.int .i64 0) ∧ ∃ a' c', RQ w' rb lim a' c' (setR L key t) ∧ Chg (· = rb) w w' ∧ MvA w a a'
set_option maxRecDepth 100000 in
set_option maxHeartbeats 8000000 in
theorem rset7_room {w : World} {rb c : Nat} {lim : Int} {a : Option Addr} {L : List En} (h : RQ w rb lim a c L) (hK : Keys L) (hl : L.length ≤ 65536) (key : ByteArray) (t : Int) (hf : hasK L key = true ∨ (L.length : Int) < lim) :
    Calls Try.prog 14 #[.pointer (some ⟨rb, 0, none⟩), .string key, .int .i64 t] w (RSetP rb lim a L key t w) := by
  have kf := rfind7_spec h hK hl key
  obtain ⟨z, hz⟩ : ∃ z, z = fdI L key := ⟨_, rfl⟩
  rw [← hz] at kf
  obtain ⟨D, hD⟩ : ∃ D, D = delK L key := ⟨_, rfl⟩
  have dl : D.length ≤ 65536 := by rw [hD]; exact Nat.le_trans (List.length_filter_le _ _) hl
  have HH := hide h
  have HK := hide hK
  have HLT0 : Hid (∀ V, Below w.heap.size w V → V.cell? ⟨rb, 0, none⟩ = some (.int .i64 lim) ∧ V.cell? ⟨rb, 1, none⟩ = some (.slice a L.length c) ∧ rb < V.heap.size) := fun V b => ⟨(h.later b).r.cell 0 _ rfl, (h.later b).r.cell 1 _ rfl, (h.later b).r.lt⟩
  obtain ⟨t0, ht0⟩ : ∃ t0, t0 = hasK L key := ⟨_, rfl⟩
  rw [← ht0] at hf
  -- what 'without' makes of it
  have KW : Hid (t0 = true → ∃ i : Nat, z = (i : Int) ∧ ∀ w1, Below w.heap.size w w1 → Calls Try.prog 29 #[.pointer (some ⟨rb, 0, none⟩), .int .i64 (i : Int)] w1 fun e w' => ∃ A c' n', e = .returned (.slice A n' c') ∧ Hid (w'.ownsRow w.heap.size 43 2 (.slice A n' c') n' (dues D)) ∧ Hid (n' = D.length) ∧ Hid (Below w.heap.size w w') ∧ w'.frozen? ⟨rb, 1, none⟩ = false ∧ w'.cell? ⟨rb, 1, none⟩ = some (.slice a L.length c) ∧ rb < w'.heap.size) := fun et => by
    rw [ht0] at et
    obtain ⟨i, hi, e1, e2, e3⟩ := fdI_pos hK et
    refine ⟨i, hz.trans e1, fun w1 b => ?_⟩
    have h1 := h.later b
    refine (rwithout7_spec h1 hl hi).mono ?_
    rintro e w' ⟨v', rfl, o, b2⟩
    obtain ⟨A, c', rfl, _, _⟩ := own_form o
    have bb := b.trans (b2.mono b.size)
    have ld : (L.take i ++ L.drop (i + 1)).length = L.length - 1 := by rw [List.length_append, List.length_take, List.length_drop]; omega
    rw [del_at hK hi, e2] at o ld
    rw [← hD] at o ld
    exact ⟨A, c', _, rfl, own_mono7 o b.size, ld.symm, bb, (h.later bb).r.frz 1, (h.later bb).r.cell 1 _ rfl, (h.later bb).r.lt⟩
  have Z0 : Hid (t0 = false → z = -1 ∧ D = L) := fun et => by
    rw [ht0] at et
    exact ⟨hz.trans (fdI_neg et), by rw [hD, delK_none et]⟩
  have F0 : Hid (t0 = false → decide (lim ≤ (L.length : Int)) = false) := fun et => by
    rw [et] at hf
    rcases hf with q | q
    · cases q
    · rw [decide_eq_false_iff_not]; omega
  have PF : Hid (∀ e w', (e = .returned (.int .i64 0) ∧ ∃ a' c', RQ w' rb lim a' c' (insE D (key, t)) ∧ Chg (· = rb) w w' ∧ MvA w a a') → RSetP rb lim a L key t w e w') := fun e w' q => by rw [hD] at q; exact q
  generalize RSetP rb lim a L key t w = P at PF ⊢
  have fin_ : ∀ (W2 w7 : World) (a2 : Option Addr) (c2 : Nat), Hid (RQ W2 rb lim a2 c2 D) → Hid (Chg (· = rb) w W2) → Hid (MvA w a a2) → Below W2.heap.size W2 w7 → ∀ {v : Value} {m : Nat}, w7.ownsRow W2.heap.size 43 2 v m (dues (insE D (key, t))) → m = (insE D (key, t)).length → P (.returned (.int .i64 0)) (w7.setCell ⟨rb, 1, none⟩ v) := fun W2 w7 a2 c2 R2 C2 M2 B7 v m O7 hm => by
    obtain ⟨a', c', r, C, M⟩ := R2.out.put B7 O7 hm
    exact PF.out _ _ ⟨rfl, a', c', r, C2.out.trans C (fun _ _ q => q), M2.out.trans C2.out.size M⟩
  have fin_ := hide fin_
  obtain ⟨n0, hn0⟩ : ∃ n0, n0 = L.length := ⟨_, rfl⟩
  rw [← hn0] at HLT0 hl KW F0
  obtain ⟨i0, hi0⟩ : ∃ i0, Hid (Try.prog.info? 43 = some i0 ∧ i0.zero = some (.agg #[.string ByteArray.empty, .int .i64 0]) ∧ i0.size = 2 ∧ i0.bytes = 24) := by
    obtain ⟨i0, h1, h2, h3, h4⟩ := info_parts info_due
    exact ⟨i0, h1, h2, h3, h4⟩
  clear h hK hz hD ht0 hf hn0
  go_enter Try.func14, Try.ntmps14
  go_wp2_with (go_at_call 28; refine kf.mono ?_; rintro e w1 ⟨rfl, b1⟩; obtain ⟨y0, y1, y2⟩ := HLT0.out w1 b1)
  go_cut [27] from 14 to 28 (fun s27 w2 => s27 = .bool false ∧ Hid (Below w.heap.size w w2))
  case first =>
    cases t0 with
    | false =>
      obtain ⟨rfl, _⟩ := Z0.out rfl
      have d1 := F0.out rfl
      go_quiet (fail)
      go_wp2_with fail
      go_meet
      case rel => exact ⟨rfl, hide (by first | exact b1 | exact below_drewN b1 _)⟩
    | true =>
      obtain ⟨i, rfl, _⟩ := KW.out rfl
      have d1 : decide ((i : Int) < 0) = false := by rw [decide_eq_false_iff_not]; omega
      go_quiet (fail)
      go_wp2_with fail
      go_meet
      case rel => exact ⟨rfl, hide (by first | exact b1 | exact below_drewN b1 _)⟩
  rename World => w2
  obtain ⟨rfl, B2⟩ := hcut
  obtain ⟨z0, z1, z2⟩ := HLT0.out w2 B2.out
  clear y0 y1 y2 kf
  go_upto_if 29 with fail
  go_cut [] from 30 to 36 (fun w3 => ∃ a2 c2, Hid (RQ w3 rb lim a2 c2 D) ∧ Hid (Chg (· = rb) w w3) ∧ Hid (MvA w a a2))
  case first =>
    cases t0 with
    | false =>
      obtain ⟨rfl, eD⟩ := Z0.out rfl
      have ED := hide eD
      clear eD
      go_wp2_with fail
      go_meet
      case rel =>
        have r := HH.out.later B2.out
        rw [← ED.out] at r
        exact ⟨_, _, hide r, hide (Chg.of_below B2.out), hide (MvA.refl _ _)⟩
    | true =>
      obtain ⟨i, rfl, kw⟩ := KW.out rfl
      have d1 : decide ((i : Int) < 0) = false := by rw [decide_eq_false_iff_not]; omega
      go_wp2_with (go_at_call 29; refine (kw _ B2.out).mono ?_; rintro e w3 ⟨A, c', n', rfl, O3, N3, B3, fz, c1, l3⟩)
      go_meet
      case rel =>
        obtain ⟨a', c9, r, C, mv⟩ := HH.out.put B3.out O3.out N3.out
        exact ⟨a', c9, hide r, hide C, hide mv⟩
  rename World => W2
  obtain ⟨a2, c2, R2, C2, M2⟩ := hcut
  clear z0 z1 z2 B2 b1 KW Z0 F0 HLT0 HH HK
  have cp := R2.out.cap
  have cm := R2.out.capm
  have IS2 := hide R2.out.is
  have NI2 := hide R2.out.nil
  have AD2 := hide R2.out.adr
  have HLT : Hid (∀ V, Below W2.heap.size W2 V → V.cell? ⟨rb, 1, none⟩ = some (.slice a2 D.length c2) ∧ V.frozen? ⟨rb, 1, none⟩ = false ∧ rb < V.heap.size) := fun V b => ⟨(R2.out.later b).r.cell 1 _ rfl, (R2.out.later b).r.frz 1, (R2.out.later b).r.lt⟩
  obtain ⟨n, hn⟩ : ∃ n, n = D.length := ⟨_, rfl⟩
  have HN := hide hn
  rw [← hn] at HLT cp dl
  have kb := fun (x : En) W => before_spec x (key, t) W
  obtain ⟨m, hm⟩ : ∃ m, m = insK D (key, t) := ⟨_, rfl⟩
  have HM := hide hm
  have mn : m ≤ n := by rw [hm, hn]; exact insK_le _ _
  obtain ⟨z0, z1, z2⟩ := HLT.out W2 (Below.refl _ _)
  have b0 : Hid (Below W2.heap.size W2 (W2.alloc (.cells #[.string key, .int .i64 t] 43))) := hide ((Below.refl _ _).alloc (Nat.le_refl _) _)
  clear hm hn
  go_wp2_with fail
  go_loopw [9] (fun s9 wr => ∃ k : Nat, s9 = .int .i64 (k : Int) ∧ k ≤ m ∧ Hid (Below W2.heap.size W2 wr) ∧ wr.cell? ⟨W2.heap.size, 0, none⟩ = some (.string key) ∧ wr.cell? ⟨W2.heap.size, 1, none⟩ = some (.int .i64 t) ∧ W2.heap.size < wr.heap.size) (fun s9 _ => m - (intOf s9).toNat)
  case atStart =>
    exact ⟨0, rfl, by omega, b0, by simp [go_sem], by simp [go_sem], by simp⟩
  case round =>
    obtain ⟨k, rfl, hk, BR, x0, x1, xl⟩ := hrel
    obtain ⟨y0, y1, y2⟩ := HLT.out _ BR.out
    have zr := BR.out.size
    clear z0 z1 z2
    by_cases hlt : k < n
    · have f1 : decide ((k : Int) < (n : Int)) = true := by rw [decide_eq_true_eq]; omega
      have f2 : decide (k < n) = true := by rw [decide_eq_true_eq]; omega
      have kl : k < D.length := by have := HN.out; omega
      obtain ⟨g, o, rfl, gl, e0, e1⟩ := (IS2.out.later BR.out).at_ kl
      obtain ⟨⟨ek, ea⟩, he⟩ : ∃ e, e = D[k] := ⟨_, rfl⟩
      rw [← he] at e0 e1
      dsimp only at e0 e1
      have HE := hide he
      have kb1 := kb (ek, ea)
      clear he kb
      have CE : Hid (∀ V, Below wr.heap.size wr V → V.cell? ⟨rb, 1, none⟩ = some (.slice (some ⟨g, o, none⟩) n c2) ∧ V.cell? ⟨g, o + k * 2, none⟩ = some (.string ek) ∧ V.cell? ⟨g, o + k * 2 + 1, none⟩ = some (.int .i64 ea) ∧ V.cell? ⟨W2.heap.size, 0, none⟩ = some (.string key) ∧ V.cell? ⟨W2.heap.size, 1, none⟩ = some (.int .i64 t)) := fun V q => ⟨(q.cell (p := ⟨rb, 1, none⟩) y2).trans y0, (q.cell (p := ⟨g, o + k * 2, none⟩) gl).trans e0, (q.cell (p := ⟨g, o + k * 2 + 1, none⟩) gl).trans e1, (q.cell (p := ⟨W2.heap.size, 0, none⟩) xl).trans x0, (q.cell (p := ⟨W2.heap.size, 1, none⟩) xl).trans x1⟩
      have S0 : wr.cell? ⟨rb, 1, none⟩ = some (.slice (some ⟨g, o, none⟩) n c2) ∧ wr.cell? ⟨g, o + k * 2, none⟩ = some (.string ek) ∧ wr.cell? ⟨g, o + k * 2 + 1, none⟩ = some (.int .i64 ea) ∧ wr.cell? ⟨W2.heap.size, 0, none⟩ = some (.string key) ∧ wr.cell? ⟨W2.heap.size, 1, none⟩ = some (.int .i64 t) := ⟨y0, e0, e1, x0, x1⟩
      obtain ⟨q, hq⟩ : ∃ q, q = ltE (ek, ea) (key, t) := ⟨_, rfl⟩
      rw [← hq] at kb1
      have HQ := hide hq
      have kb2 : ∀ V, Below wr.heap.size wr V → Calls Try.prog 30 #[enV (ek, ea), enV (key, t)] V fun e w' => e = .returned (.bool q) ∧ Hid (Below wr.heap.size wr w') := fun V q' => (kb1 V).mono (fun e w' h => ⟨h.1, q'.trans (h.2.mono q'.size)⟩)
      clear kb1 hq
      go_wp2_with fail
      go_cut [56] from 39 to 58 (fun s56 w5 => s56 = .bool q ∧ Hid (Below wr.heap.size wr w5))
      case first =>
        go_region_held3 (fun w' => w'.cell? ⟨rb, 1, none⟩ = some (.slice (some ⟨g, o, none⟩) n c2) ∧ w'.cell? ⟨g, o + k * 2, none⟩ = some (.string ek) ∧ w'.cell? ⟨g, o + k * 2 + 1, none⟩ = some (.int .i64 ea) ∧ w'.cell? ⟨W2.heap.size, 0, none⟩ = some (.string key) ∧ w'.cell? ⟨W2.heap.size, 1, none⟩ = some (.int .i64 t)) (first | exact S0 | exact S5) ((go_at_call 30; (with_reducible refine Calls.mono (kb2 _ (by first | exact Below.refl _ _ | exact (Below.refl _ _).drew | exact below_drewN (Below.refl _ _) _)) ?_); rintro e w5 ⟨rfl, b5⟩; have S5 := CE.out w5 b5.out))
        all_goals
          go_wp2_with fail
          go_meet
          case rel => exact ⟨rfl, hide (by first | exact b5.out | exact b5.out.drew | exact below_drewN b5.out _)⟩
      rename World => w5
      obtain ⟨rfl, B5⟩ := hcut
      obtain ⟨s1, s2, s3, s4, s5⟩ := CE.out w5 B5.out
      have BR5 : Hid (Below W2.heap.size W2 w5) := hide (BR.out.trans (B5.out.mono zr))
      have xl5 : W2.heap.size < w5.heap.size := Nat.lt_of_lt_of_le xl B5.out.size
      obtain ⟨y5, y6, y7⟩ := HLT.out w5 BR5.out
      clear S0 x0 x1 e0 e1 kb2
      by_cases hq : k < m
      · have tr : q = true := by rw [HQ.out, HE.out]; exact insK_in kl (by have := HM.out; omega)
        subst tr
        go_wp2_with fail
        go_roundw
        case rel => exact ⟨k + 1, by go_num, by omega, BR5, s4, s5, xl5⟩
        case measure => (first | (simp [intOf]; done) | (simp [intOf]; omega))
      · have KM : Hid (k = m) := by show _ = _; omega
        have tr : q = false := by rw [HQ.out, HE.out]; exact insK_out kl (by rw [KM.out, HM.out])
        subst tr
        clear CE y0 y1 y2 BR xl zr s2 s3 gl
        have zr5 := BR5.out.size
        have IR := hide (IS2.out.later BR5.out)
        have EI : Hid (D.take k ++ [(key, t)] ++ D.drop k = insE D (key, t)) := by
          show _ = _
          rw [insE_at, KM.out, HM.out, List.append_assoc]; rfl
        obtain ⟨ad, sl2, e1, e2, e3⟩ := dues_from (g := g) (o := o) (n := n) (c := c2) (k := k) (by omega) cp cm
        have E1 := hide e1
        have sl1 := fun v => dues_to (a := some ⟨g, o, none⟩) (n := n) (c := c2) (e := k) (by omega) cp v
        clear e1 e2 e3
        go_wp2_with (first
            | (at_builtin
               refine wpList_append_own_at _ rfl _ _ 27 rfl W2.heap.size 43 i0 (.agg #[.string ByteArray.empty, .int .i64 0]) 2 24 Try.underlying27 hi0.out.1 hi0.out.2.1 hi0.out.2.2.1 hi0.out.2.2.2 ?a1 ?a2 (.slice none 0 0) 0 [] ?a3 ?a4 ⟨g, o, none⟩ k c2 (dues (D.take k)) ?a5 ?a6 ?a7 ?a8 ?a9 ?b1 ?b2 ?_
               case a1 => rfl
               case a2 => decide
               case a3 => rfl
               case a4 => exact World.ownsRow_nil _ _ _ _
               case a5 => rfl
               case a6 => (rw [dues_len, List.length_take]; have := HN.out; rw [Nat.min_eq_left (by omega)])
               case a7 => exact IR.out.head k
               case a8 => exact dues_one _
               case a9 => (unfold maxLen; omega)
               case b1 => omega
               case b2 => exact zr5
               intro v3 w3 hown hgrow _ hat
               obtain ⟨A3, c3, rfl, _, _⟩ := own_form hown
               rw [Nat.zero_add] at hown ⊢
               have O3 : Hid (w3.ownsRow W2.heap.size 43 2 (.slice A3 k c3) k (dues (D.take k))) := hown
               have b3 : Below w5.heap.size w5 w3 := (Below.refl _ _).grown hgrow (Nat.le_refl _) (fun j e => by cases e)
               have B3 : Hid (Below W2.heap.size W2 w3) := hide (BR5.out.trans (b3.mono zr5))
               have z3 : W2.heap.size ≤ w3.heap.size := B3.out.size
               have q0 : w3.cell? ⟨W2.heap.size, 0, none⟩ = some (.string key) := (b3.cell (p := ⟨W2.heap.size, 0, none⟩) xl5).trans s4
               have q1 : w3.cell? ⟨W2.heap.size, 1, none⟩ = some (.int .i64 t) := (b3.cell (p := ⟨W2.heap.size, 1, none⟩) xl5).trans s5
               have q2 : W2.heap.size < w3.heap.size := Nat.lt_of_lt_of_le xl5 b3.size
               obtain ⟨p1, p2, p3⟩ := HLT.out _ B3.out
               clear hown hgrow hat b3)
            | (at_builtin
               refine wpList_append_own_at _ rfl _ _ 27 rfl W2.heap.size 43 i0 (.agg #[.string ByteArray.empty, .int .i64 0]) 2 24 Try.underlying27 hi0.out.1 hi0.out.2.1 hi0.out.2.2.1 hi0.out.2.2.2 ?a1 ?a2 (.slice A3 k c3) k (dues (D.take k)) ?a3 ?a4 ⟨w3.heap.size, 0, none⟩ 1 1 [.string key, .int .i64 t] ?a5 ?a6 ?a7 ?a8 ?a9 ?b1 ?b2 ?_
               case a1 => rfl
               case a2 => decide
               case a3 => rfl
               case a4 => exact O3.out.alloc _
               case a5 => rfl
               case a6 => rfl
               case a7 => exact cells_new' _ _ _ _ (by simp)
               case a8 => (intro u hu; simp at hu; rcases hu with rfl | rfl <;> rfl)
               case a9 => (unfold maxLen; omega)
               case b1 => omega
               case b2 => (simp; omega)
               intro v5 w6 hown hgrow _ hat
               obtain ⟨A5, c5, rfl, _, _⟩ := own_form hown
               have O5 : Hid (w6.ownsRow W2.heap.size 43 2 (.slice A5 (k + 1) c5) (k + 1) (dues (D.take k ++ [(key, t)]))) := by
                 show w6.ownsRow _ _ _ _ _ _
                 rw [dues_app]; exact hown
               have B6 : Hid (Below W2.heap.size W2 w6) := hide ((B3.out.alloc z3 _).grown hgrow (by simp; omega) (fun j e => (own_old O3.out e).1))
               have z6 : W2.heap.size ≤ w6.heap.size := B6.out.size
               obtain ⟨p4, p5, p6⟩ := HLT.out _ B6.out
               have I5 := hide (IS2.out.later B6.out)
               clear hown hgrow hat)
            | (at_builtin
               refine wpList_append_own_at _ rfl _ _ 27 rfl W2.heap.size 43 i0 (.agg #[.string ByteArray.empty, .int .i64 0]) 2 24 Try.underlying27 hi0.out.1 hi0.out.2.1 hi0.out.2.2.1 hi0.out.2.2.2 ?a1 ?a2 (.slice A5 (k + 1) c5) (k + 1) (dues (D.take k ++ [(key, t)])) ?a3 ?a4 ad (n - k) (c2 - k) (dues (D.drop k)) ?a5 ?a6 ?a7 ?a8 ?a9 ?b1 ?b2 ?_
               case a1 => rfl
               case a2 => decide
               case a3 => rfl
               case a4 => exact O5.out
               case a5 => rfl
               case a6 => (rw [dues_len, List.length_drop]; have := HN.out; rw [this])
               case a7 => exact tail_any I5.out HN.out E1.out
               case a8 => exact dues_one _
               case a9 => (unfold maxLen; omega)
               case b1 => omega
               case b2 => exact z6
               intro v7 w7 hown hgrow _ hat
               rw [← dues_app, EI.out, show k + 1 + (n - k) = n + 1 from by omega] at hown
               obtain ⟨A7, c7, rfl, _, _⟩ := own_form hown
               have O7 : Hid (w7.ownsRow W2.heap.size 43 2 (.slice A7 (n + 1) c7) (n + 1) (dues (insE D (key, t)))) := hown
               have B7 : Hid (Below W2.heap.size W2 w7) := hide (B6.out.grown hgrow z6 (fun j e => (own_old O5.out e).1))
               obtain ⟨p7, p8, p9⟩ := HLT.out _ B7.out
               clear hown hgrow hat))

        exact fin_.out W2 _ _ _ R2 C2 M2 B7.out O7.out (by have := HN.out; have := insE_len D (key, t); omega)
    · have f1 : decide ((k : Int) < (n : Int)) = false := by rw [decide_eq_false_iff_not]; omega
      have f2 : decide (k < n) = false := by rw [decide_eq_false_iff_not]; omega
      have KM : Hid (k = m) := by show _ = _; omega
      have kn : k = n := by omega
      go_wp2_with fail
      go_cut [56] from 39 to 58 (fun s56 w5 => s56 = .bool false ∧ Hid (Below wr.heap.size wr w5))
      case first =>
        go_quiet (fail)
        go_wp2_with fail
        go_meet
        case rel => exact ⟨rfl, hide (by first | exact Below.refl _ _ | exact (Below.refl _ _).drew | exact below_drewN (Below.refl _ _) _)⟩
      rename World => w5
      obtain ⟨rfl, B5⟩ := hcut
      have s4 := (B5.out.cell (p := ⟨W2.heap.size, 0, none⟩) xl).trans x0
      have s5 := (B5.out.cell (p := ⟨W2.heap.size, 1, none⟩) xl).trans x1
      have BR5 : Hid (Below W2.heap.size W2 w5) := hide (BR.out.trans (B5.out.mono zr))
      have xl5 : W2.heap.size < w5.heap.size := Nat.lt_of_lt_of_le xl B5.out.size
      obtain ⟨y5, y6, y7⟩ := HLT.out w5 BR5.out
      clear y0 y1 y2 BR xl zr x0 x1
      have zr5 := BR5.out.size
      cases a2 with
      | some ad0 =>
        obtain ⟨g, o, e9, ng⟩ := AD2.out _ rfl
        subst e9
        clear kn
        have IR := hide (IS2.out.later BR5.out)
        have EI : Hid (D.take k ++ [(key, t)] ++ D.drop k = insE D (key, t)) := by
          show _ = _
          rw [insE_at, KM.out, HM.out, List.append_assoc]; rfl
        obtain ⟨ad, sl2, e1, e2, e3⟩ := dues_from (g := g) (o := o) (n := n) (c := c2) (k := k) (by omega) cp cm
        have E1 := hide e1
        have sl1 := fun v => dues_to (a := some ⟨g, o, none⟩) (n := n) (c := c2) (e := k) (by omega) cp v
        clear e1 e2 e3
        go_wp2_with (first
            | (at_builtin
               refine wpList_append_own_at _ rfl _ _ 27 rfl W2.heap.size 43 i0 (.agg #[.string ByteArray.empty, .int .i64 0]) 2 24 Try.underlying27 hi0.out.1 hi0.out.2.1 hi0.out.2.2.1 hi0.out.2.2.2 ?a1 ?a2 (.slice none 0 0) 0 [] ?a3 ?a4 ⟨g, o, none⟩ k c2 (dues (D.take k)) ?a5 ?a6 ?a7 ?a8 ?a9 ?b1 ?b2 ?_
               case a1 => rfl
               case a2 => decide
               case a3 => rfl
               case a4 => exact World.ownsRow_nil _ _ _ _
               case a5 => rfl
               case a6 => (rw [dues_len, List.length_take]; have := HN.out; rw [Nat.min_eq_left (by omega)])
               case a7 => exact IR.out.head k
               case a8 => exact dues_one _
               case a9 => (unfold maxLen; omega)
               case b1 => omega
               case b2 => exact zr5
               intro v3 w3 hown hgrow _ hat
               obtain ⟨A3, c3, rfl, _, _⟩ := own_form hown
               rw [Nat.zero_add] at hown ⊢
               have O3 : Hid (w3.ownsRow W2.heap.size 43 2 (.slice A3 k c3) k (dues (D.take k))) := hown
               have b3 : Below w5.heap.size w5 w3 := (Below.refl _ _).grown hgrow (Nat.le_refl _) (fun j e => by cases e)
               have B3 : Hid (Below W2.heap.size W2 w3) := hide (BR5.out.trans (b3.mono zr5))
               have z3 : W2.heap.size ≤ w3.heap.size := B3.out.size
               have q0 : w3.cell? ⟨W2.heap.size, 0, none⟩ = some (.string key) := (b3.cell (p := ⟨W2.heap.size, 0, none⟩) xl5).trans s4
               have q1 : w3.cell? ⟨W2.heap.size, 1, none⟩ = some (.int .i64 t) := (b3.cell (p := ⟨W2.heap.size, 1, none⟩) xl5).trans s5
               have q2 : W2.heap.size < w3.heap.size := Nat.lt_of_lt_of_le xl5 b3.size
               obtain ⟨p1, p2, p3⟩ := HLT.out _ B3.out
               clear hown hgrow hat b3)
            | (at_builtin
               refine wpList_append_own_at _ rfl _ _ 27 rfl W2.heap.size 43 i0 (.agg #[.string ByteArray.empty, .int .i64 0]) 2 24 Try.underlying27 hi0.out.1 hi0.out.2.1 hi0.out.2.2.1 hi0.out.2.2.2 ?a1 ?a2 (.slice A3 k c3) k (dues (D.take k)) ?a3 ?a4 ⟨w3.heap.size, 0, none⟩ 1 1 [.string key, .int .i64 t] ?a5 ?a6 ?a7 ?a8 ?a9 ?b1 ?b2 ?_
               case a1 => rfl
               case a2 => decide
               case a3 => rfl
               case a4 => exact O3.out.alloc _
               case a5 => rfl
               case a6 => rfl
               case a7 => exact cells_new' _ _ _ _ (by simp)
               case a8 => (intro u hu; simp at hu; rcases hu with rfl | rfl <;> rfl)
               case a9 => (unfold maxLen; omega)
               case b1 => omega
               case b2 => (simp; omega)
               intro v5 w6 hown hgrow _ hat
               obtain ⟨A5, c5, rfl, _, _⟩ := own_form hown
               have O5 : Hid (w6.ownsRow W2.heap.size 43 2 (.slice A5 (k + 1) c5) (k + 1) (dues (D.take k ++ [(key, t)]))) := by
                 show w6.ownsRow _ _ _ _ _ _
                 rw [dues_app]; exact hown
               have B6 : Hid (Below W2.heap.size W2 w6) := hide ((B3.out.alloc z3 _).grown hgrow (by simp; omega) (fun j e => (own_old O3.out e).1))
               have z6 : W2.heap.size ≤ w6.heap.size := B6.out.size
               obtain ⟨p4, p5, p6⟩ := HLT.out _ B6.out
               have I5 := hide (IS2.out.later B6.out)
               clear hown hgrow hat)
            | (at_builtin
               refine wpList_append_own_at _ rfl _ _ 27 rfl W2.heap.size 43 i0 (.agg #[.string ByteArray.empty, .int .i64 0]) 2 24 Try.underlying27 hi0.out.1 hi0.out.2.1 hi0.out.2.2.1 hi0.out.2.2.2 ?a1 ?a2 (.slice A5 (k + 1) c5) (k + 1) (dues (D.take k ++ [(key, t)])) ?a3 ?a4 ad (n - k) (c2 - k) (dues (D.drop k)) ?a5 ?a6 ?a7 ?a8 ?a9 ?b1 ?b2 ?_
               case a1 => rfl
               case a2 => decide
               case a3 => rfl
               case a4 => exact O5.out
               case a5 => rfl
               case a6 => (rw [dues_len, List.length_drop]; have := HN.out; rw [this])
               case a7 => exact tail_any I5.out HN.out E1.out
               case a8 => exact dues_one _
               case a9 => (unfold maxLen; omega)
               case b1 => omega
               case b2 => exact z6
               intro v7 w7 hown hgrow _ hat
               rw [← dues_app, EI.out, show k + 1 + (n - k) = n + 1 from by omega] at hown
               obtain ⟨A7, c7, rfl, _, _⟩ := own_form hown
               have O7 : Hid (w7.ownsRow W2.heap.size 43 2 (.slice A7 (n + 1) c7) (n + 1) (dues (insE D (key, t)))) := hown
               have B7 : Hid (Below W2.heap.size W2 w7) := hide (B6.out.grown hgrow z6 (fun j e => (own_old O5.out e).1))
               obtain ⟨p7, p8, p9⟩ := HLT.out _ B7.out
               clear hown hgrow hat))

        exact fin_.out W2 _ _ _ R2 C2 M2 B7.out O7.out (by have := HN.out; have := insE_len D (key, t); omega)
      | none =>
        have c0 := NI2.out rfl
        subst c0
        have DN : Hid (D = []) := IS2.out.resolve_right (fun ⟨_, _, z, _⟩ => by cases z)
        have n0' : n = 0 := by rw [HN.out, DN.out]; rfl
        subst n0'
        subst kn
        have EI : Hid (D.take 0 ++ [(key, t)] = insE D (key, t)) := by
          show _ = _
          rw [DN.out]; rfl
        have sl1 := fun v => dues_to (a := none) (n := 0) (c := 0) (e := 0) (Nat.le_refl _) (Nat.le_refl _) v
        have sl2 := fun v => dues_from0 (c := 0) v
        simp only [show ((0 : Nat) : Int) = 0 from rfl] at sl1
        go_wp2_with (first
            | (at_builtin
               refine wpList_append_own_none rfl _ _ 27 rfl W2.heap.size 43 i0 2 Try.underlying27 hi0.out.1 (.slice none 0 0) 0 [] rfl (World.ownsRow_nil _ _ _ _) rfl ?_
               have O3 : Hid (w5.ownsRow W2.heap.size 43 2 (.slice none 0 0) 0 (dues (D.take 0))) := World.ownsRow_nil _ _ _ _)
            | (at_builtin
               refine wpList_append_own_at _ rfl _ _ 27 rfl W2.heap.size 43 i0 (.agg #[.string ByteArray.empty, .int .i64 0]) 2 24 Try.underlying27 hi0.out.1 hi0.out.2.1 hi0.out.2.2.1 hi0.out.2.2.2 ?a1 ?a2 (.slice none 0 0) 0 (dues (D.take 0)) ?a3 ?a4 ⟨w5.heap.size, 0, none⟩ 1 1 [.string key, .int .i64 t] ?a5 ?a6 ?a7 ?a8 ?a9 ?b1 ?b2 ?_
               case a1 => rfl
               case a2 => decide
               case a3 => rfl
               case a4 => exact O3.out.alloc _
               case a5 => rfl
               case a6 => rfl
               case a7 => exact cells_new' _ _ _ _ (by simp)
               case a8 => (intro u hu; simp at hu; rcases hu with rfl | rfl <;> rfl)
               case a9 => (unfold maxLen; omega)
               case b1 => omega
               case b2 => (simp; omega)
               intro v5 w6 hown hgrow _ hat
               obtain ⟨A5, c5, rfl, _, _⟩ := own_form hown
               have O5 : Hid (w6.ownsRow W2.heap.size 43 2 (.slice A5 (0 + 1) c5) (0 + 1) (dues (D.take 0 ++ [(key, t)]))) := by
                 show w6.ownsRow _ _ _ _ _ _
                 rw [dues_app]; exact hown
               have B6 : Hid (Below W2.heap.size W2 w6) := hide ((BR5.out.alloc zr5 _).grown hgrow (by simp; omega) (fun j e => (own_old O3.out e).1))
               have z6 : W2.heap.size ≤ w6.heap.size := B6.out.size
               obtain ⟨p4, p5, p6⟩ := HLT.out _ B6.out
               have I5 := hide (IS2.out.later B6.out)
               clear hown hgrow hat)
            | (at_builtin
               refine wpList_append_own_none rfl _ _ 27 rfl W2.heap.size 43 i0 2 Try.underlying27 hi0.out.1 (.slice A5 (0 + 1) c5) (0 + 1) (dues (D.take 0 ++ [(key, t)])) rfl O5.out rfl ?_
               have O7 : Hid (w6.ownsRow W2.heap.size 43 2 (.slice A5 (0 + 1) c5) (0 + 1) (dues (insE D (key, t)))) := by
                 show w6.ownsRow _ _ _ _ _ _
                 rw [← EI.out]; exact O5.out
               have B7 := B6))

        exact fin_.out W2 _ _ _ R2 C2 M2 B7.out O7.out (by rw [insE_len, DN.out]; rfl)
end Go.Proofs.Ytdfmfkibafcbcaa
