/- sink: SinkPlays. -/
import Derived.Test.YtbahhlgcebgfeaaDoorSnk29
import Derived.Test.YtbahhlgcebgfeaaDoorSnk31
import Derived.Deep.DeepCutAuto
namespace Go.Proofs.YtbahhlgcebgfeaaDoor
set_option linter.unusedVariables false
set_option linter.unusedSimpArgs false
open Go.RowKit W
set_option maxRecDepth 100000 in
set_option maxHeartbeats 8000000 in
theorem sink_plays {w : World} {ea : Addr} (ef : w.cell? ⟨0, 0, none⟩ = some (EV ea)) {a : Option Addr} {c : Nat} {P : List Ch} (hp : IsCh w a P) (hn : a = none → P.length = 0 ∧ c = 0) (sp : P.length ≤ 1048576) {la : Option Addr} {lc : Nat} {L : List (Int × List UInt8)} (hl : IsFrs w la L) (sl : L.length ≤ 1048576) (sb : ∀ b ∈ L, b.2.length ≤ 1048576) :
    Calls Tryd.prog 3 #[.slice a P.length c, .slice la L.length lc] w fun e w' => e = .returned (.bool true) ∧ Below w.heap.size w w' := by
  have EF := hide ef
  have KN := hide (new_spec (c := c) hp hn (Nat.le_trans sp (by omega)))
  have KR := fun (X : World) (b : Below w.heap.size w X) => rnew_spec b hp c
  have HL := hide hl
  have SB := hide sb
  have SP := hide sp
  obtain ⟨np, hnp⟩ : ∃ np, np = P.length := ⟨_, rfl⟩
  rw [← hnp] at KN KR ⊢
  obtain ⟨nl, hnl⟩ : ∃ nl, nl = L.length := ⟨_, rfl⟩
  rw [← hnl] at sl ⊢
  have NL := hide hnl
  clear ef hp hn sp hl sb hnp hnl
  go_enter Tryd.func3, Tryd.ntmps3
  go_wp2_with (first
    | (go_at_call 10; go_loud (refine Calls.mono KN.out ?_); go_loud (rintro e w2 ⟨gA, M, rfl, s2, m2, b2⟩); clear KN)
    | (go_at_call 11; go_loud (refine Calls.mono (KR _ b2) ?_); go_loud (rintro e w3 ⟨gR, N, rfl, r3, n3, b3⟩); go_loud (have J3 := hide (Jn.make s2 m2 b2 r3 n3 b3)); clear s2 m2 b2 r3 n3 b3 KR))
  go_loopw [7] (fun i wr => ∃ k : Nat, k ≤ nl ∧ i = .int .i64 k ∧ Hid (Jn w wr gA gR P (fsS P L k) (fsS P L k))) (fun i _ => nl - (intOf i).toNat)
  case atStart => exact ⟨0, by omega, rfl, J3⟩
  case round =>
    clear J3
    obtain ⟨k, hk, rfl, J⟩ := hrel
    by_cases hlt : k < nl
    · have hkl : k < L.length := by rw [← NL.out]; exact hlt
      obtain ⟨gl, ol, ab, cb, rfl, ltl, x0, x1, x2, x3⟩ := frs_at HL.out k hkl
      have hbl : (L.getD k (0, [])).2.length ≤ 1048576 := by
        rw [show L.getD k (0, []) = L[k] by simp [hkl]]
        exact SB.out _ (List.getElem_mem hkl)
      have SM := hide (fs_sm P L SB.out k (L.getD k (0, [])).2.length (by omega) hbl)
      have SM0 : Hid (SmS (fsS P L (k + 1)) 0) := hide (fs_sm P L SB.out (k + 1) 0 (by omega) (by omega))
      have HB := hide x3
      have CB := hide x2
      have HS : Hid (frS (fsS P L k) (L.getD k (0, [])).1 (L.getD k (0, [])).2 = fsS P L (k + 1)) := hide rfl
      have hlt' : (k : Int) < (nl : Int) := by omega
      have hk0 : (0 : Int) ≤ (k : Int) := by omega
      generalize L.getD k (0, []) = fr at x0 x1 SM HB CB HS
      obtain ⟨id, bs⟩ := fr
      simp only at x0 x1 SM HB CB HS
      obtain ⟨q, hq⟩ : ∃ q, q = bs.length := ⟨_, rfl⟩
      rw [← hq] at x1
      have HQ := hide hq
      have X0 := hide x0
      have X1 := hide x1
      have LTL := hide ltl
      have CL : Hid (∀ Y, Below w.heap.size w Y → Y.cell? ⟨gl, ol + k * 2, none⟩ = some (.int .i64 id) ∧ Y.cell? ⟨gl, ol + k * 2 + 1, none⟩ = some (.slice ab q cb) ∧ gl < Y.heap.size) := fun Y b => ⟨(b.cell (p := ⟨gl, ol + k * 2, none⟩) LTL.out).trans X0.out, (b.cell (p := ⟨gl, ol + k * 2 + 1, none⟩) LTL.out).trans X1.out, Nat.lt_of_lt_of_le LTL.out b.size⟩
      have KA := fun (X : World) (E : Nat) (b : Below wr.heap.size wr X) (he : True) => (J.out.next b).frame EF.out SM.out HB.out CB.out id
      rw [← hq] at KA
      generalize he : frE (fsS P L k) id = er at KA
      have HE := hide he
      clear x0 x1 x2 x3 hbl hq he hkl ltl
      obtain ⟨y0, y1, y2⟩ := CL.out _ J.out.be
      go_upto_region 8 with (fail)
      go_cut [8] from 22 to 33 (fun v W' => v = .int .i64 er ∧ Hid (Jn w W' gA gR P (frS (fsS P L k) id bs) (fsS P L k)))
      case first =>
        go_region_law (go_simp; go_at_call 12; go_loud (refine Calls.mono (KA _ 0 (by (repeat (first | with_reducible exact Below.refl _ _ | with_reducible assumption | with_reducible refine Below.drew ?_))) trivial) ?_); go_loud (rintro e w4 ⟨rfl, J4⟩); have J4 := hide J4)
        all_goals
          go_wp2_with fail
          go_meet
          case rel => exact ⟨rfl, J4⟩
      case rest =>
        obtain ⟨rfl, J4⟩ := hcut
        clear KA y0 y1 y2
        obtain ⟨y0, y1, y2⟩ := CL.out _ J4.out.be
        have KB := fun (X : World) (b : Below wc.heap.size wc X) => (J4.out.next b).rframe EF.out SM.out SP.out HB.out CB.out id
        rw [← HQ.out, HE.out] at KB
        go_upto_region 9 with (fail)
        go_cut [9] from 34 to 45 (fun v W' => v = .int .i64 er ∧ Hid (Jn w W' gA gR P (frS (fsS P L k) id bs) (frS (fsS P L k) id bs)))
        case first =>
          go_region_law (go_simp; go_at_call 13; go_loud (refine Calls.mono (KB _ (by (repeat (first | with_reducible exact Below.refl _ _ | with_reducible assumption | with_reducible refine Below.drew ?_)))) ?_); go_loud (rintro e w5 ⟨rfl, J5⟩); have J5 := hide J5)
          all_goals
            go_wp2_with fail
            go_meet
            case rel => exact ⟨rfl, J5⟩
        case rest =>
          obtain ⟨rfl, J5⟩ := hcut
          clear KB y0 y1 y2 J4
          obtain ⟨w5, hw5⟩ : ∃ w5, w5 = wc := ⟨_, rfl⟩
          rw [← hw5] at J5 ⊢
          clear hw5
          rw [HS.out] at J5
          go_upto_region 10 with (fail)
          obtain ⟨a2, c2, aw2, cw2, al2, cl2, C2, hC2, RP2, e1, e2, e3, e4, lg⟩ := J5.out.seen
          have HC2 := hide hC2
          have RP2 := hide RP2
          have E1 := hide e1
          have E2 := hide e2
          have E3 := hide e3
          have E4 := hide e4
          have LG := hide lg
          have CF : Hid (∀ Y, Below w5.heap.size w5 Y → Y.cell? ⟨gR, 1, none⟩ = some (.slice a2 C2.length c2) ∧ Y.cell? ⟨gR, 2, none⟩ = some (.slice aw2 (fsS P L (k + 1)).wh.length cw2) ∧ Y.cell? ⟨gR, 3, none⟩ = some (.slice al2 (fsS P L (k + 1)).lo.length cl2) ∧ Y.cell? ⟨gR, 4, none⟩ = some (.int .i64 (fsS P L (k + 1)).n) ∧ gR < Y.heap.size) := fun Y b => ⟨(b.cell (p := ⟨gR, 1, none⟩) LG.out).trans E1.out, (b.cell (p := ⟨gR, 2, none⟩) LG.out).trans E2.out, (b.cell (p := ⟨gR, 3, none⟩) LG.out).trans E3.out, (b.cell (p := ⟨gR, 4, none⟩) LG.out).trans E4.out, Nat.lt_of_lt_of_le LG.out b.size⟩
          clear hC2
          go_region_law (first
            | (go_simp; go_at_call 15; go_loud (refine Calls.mono ((J5.out.next (by (repeat (first | with_reducible exact Below.refl _ _ | with_reducible assumption | with_reducible refine Below.drew ?_)))).report SM0.out) ?_); go_loud (rintro e w8 ⟨a8, c8, aw8, cw8, al8, cl8, C8, rfl, hC8, RP8, b8⟩); go_loud (have bb8 : Below w5.heap.size w5 w8 := below_then (by (repeat (first | with_reducible exact Below.refl _ _ | with_reducible assumption | with_reducible refine Below.drew ?_))) b8); go_loud (obtain ⟨f1, f2, f3, f4, f5⟩ := CF.out _ bb8); have RQ := hide (RP2.out.later bb8); have R8 := hide RP8.as_rep; have HC8 := hide hC8; have J8 := hide (J5.out.next bb8); clear hC8 b8 RP8)
            | (go_simp; go_at_call 14; go_loud (refine Calls.mono (rep_same (R8.out.later (by (repeat (first | with_reducible exact Below.refl _ _ | with_reducible assumption | with_reducible refine Below.drew ?_)))) (RQ.out.later (by (repeat (first | with_reducible exact Below.refl _ _ | with_reducible assumption | with_reducible refine Below.drew ?_)))) HC8.out HC2.out SM0.out) ?_); go_loud (rintro e w9 ⟨rfl, k9⟩); go_loud (have b9 : Below w8.heap.size w8 w9 := below_then (by (repeat (first | with_reducible exact Below.refl _ _ | with_reducible assumption | with_reducible refine Below.drew ?_))) k9); have J9 := hide (J8.out.next b9); clear k9))
          all_goals
            go_wp2_with fail
            go_roundw
            case rel => exact ⟨k + 1, by omega, by go_num, J9⟩
            case measure => simp [intOf]; omega
    · obtain rfl : k = nl := by omega
      have SM0 : Hid (SmS (fsS P L k) 0) := hide (fs_sm P L SB.out k 0 (by omega) (by omega))
      have hlt' : ¬ (k : Int) < (k : Int) := by omega
      go_upto_region 12 with (fail)
      obtain ⟨a2, c2, aw2, cw2, al2, cl2, C2, hC2, RP2, e1, e2, e3, e4, lg⟩ := J.out.seen
      have HC2 := hide hC2
      have RP2 := hide RP2
      have E1 := hide e1
      have E2 := hide e2
      have E3 := hide e3
      have E4 := hide e4
      have LG := hide lg
      have CF : Hid (∀ Y, Below wr.heap.size wr Y → Y.cell? ⟨gR, 1, none⟩ = some (.slice a2 C2.length c2) ∧ Y.cell? ⟨gR, 2, none⟩ = some (.slice aw2 (fsS P L k).wh.length cw2) ∧ Y.cell? ⟨gR, 3, none⟩ = some (.slice al2 (fsS P L k).lo.length cl2) ∧ Y.cell? ⟨gR, 4, none⟩ = some (.int .i64 (fsS P L k).n) ∧ gR < Y.heap.size) := fun Y b => ⟨(b.cell (p := ⟨gR, 1, none⟩) LG.out).trans E1.out, (b.cell (p := ⟨gR, 2, none⟩) LG.out).trans E2.out, (b.cell (p := ⟨gR, 3, none⟩) LG.out).trans E3.out, (b.cell (p := ⟨gR, 4, none⟩) LG.out).trans E4.out, Nat.lt_of_lt_of_le LG.out b.size⟩
      clear hC2
      go_region_law (first
        | (go_simp; go_at_call 15; go_loud (refine Calls.mono ((J.out.next (by (repeat (first | with_reducible exact Below.refl _ _ | with_reducible assumption | with_reducible refine Below.drew ?_)))).report SM0.out) ?_); go_loud (rintro e w8 ⟨a8, c8, aw8, cw8, al8, cl8, C8, rfl, hC8, RP8, b8⟩); go_loud (have bb8 : Below wr.heap.size wr w8 := below_then (by (repeat (first | with_reducible exact Below.refl _ _ | with_reducible assumption | with_reducible refine Below.drew ?_))) b8); go_loud (obtain ⟨f1, f2, f3, f4, f5⟩ := CF.out _ bb8); have RQ := hide (RP2.out.later bb8); have R8 := hide RP8.as_rep; have HC8 := hide hC8; have J8 := hide (J.out.next bb8); clear hC8 b8 RP8)
        | (go_simp; go_at_call 14; go_loud (refine Calls.mono (rep_same (R8.out.later (by (repeat (first | with_reducible exact Below.refl _ _ | with_reducible assumption | with_reducible refine Below.drew ?_)))) (RQ.out.later (by (repeat (first | with_reducible exact Below.refl _ _ | with_reducible assumption | with_reducible refine Below.drew ?_)))) HC8.out HC2.out SM0.out) ?_); go_loud (rintro e w9 ⟨rfl, k9⟩); go_loud (have b9 : Below w8.heap.size w8 w9 := below_then (by (repeat (first | with_reducible exact Below.refl _ _ | with_reducible assumption | with_reducible refine Below.drew ?_))) k9); have J9 := hide (J8.out.next b9); clear k9)
        | (go_simp; go_at_call 16; go_loud (refine Calls.mono (awake_is (((J9.out.next (by (repeat (first | with_reducible exact Below.refl _ _ | with_reducible assumption | with_reducible refine Below.drew ?_)))).be.cell (p := ⟨0, 0, none⟩) (cellb_lt EF.out)).trans EF.out)) ?_); go_loud (rintro e wx ⟨rfl, kx⟩); go_loud (have bx : Below w9.heap.size w9 wx := below_then (by (repeat (first | with_reducible exact Below.refl _ _ | with_reducible assumption | with_reducible refine Below.drew ?_))) kx); have JX := hide (J9.out.next bx); clear kx))
      all_goals
        go_wp2_with fail
        go_returns
        exact ⟨rfl, JX.out.be⟩
end Go.Proofs.YtbahhlgcebgfeaaDoor
