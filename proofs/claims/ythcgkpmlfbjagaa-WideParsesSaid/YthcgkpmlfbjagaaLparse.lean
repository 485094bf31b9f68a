/- The reference of layer 1: its faces: Parse. (gen_lparse.py) -/
import Derived.Test.YthcgkpmlfbjagaaLrdig
namespace Go.Proofs.Ythcgkpmlfbjagaa
set_option linter.unusedVariables false
set_option linter.unusedSimpArgs false
open Go.RowKit W Lb
set_option maxRecDepth 100000 in
set_option maxHeartbeats 16000000 in
theorem rparse_neg (s : ByteArray) (w : World) (hs : s.size ≤ 140737488355328) (h0 : 0 < s.size) (n1 : ¬ s.toList = []) (n2 : s.toList.isEmpty = false) (z : ((s[0].toNat : Int) == 45) = true) :
    Calls Try.prog 41 #[.string s] w fun e w' => e = parRes true (s.extract 1 s.size) ∧ Below w.heap.size w w' := by
  have hd : (s.extract 1 s.size).size ≤ 140737488355328 := by simp only [ByteArray.size_extract]; omega
  have kp := fun w' => rdig_spec (s.extract 1 s.size) w' hd
  by_cases pl : plainB (s.extract 1 s.size) = true
  · have HD := hide (plain_digits pl)
    have BIG := hide (fun h1 => wk_big pl h1)
    have LT := hide (wk_lt (s.extract 1 s.size) HD.out)
    by_cases one : ((s.extract 1 s.size).toList == [48]) = true
    · have F := hide (parRes_no (neg := true) (d := (s.extract 1 s.size)) (by rw [pl, one]; rfl))
      rw [pl] at kp
      clear HD BIG LT
      go_enter Try.func41, Try.ntmps41
      go_wp2_with fail
      refine (kp _).mono ?_
      rintro e w1 ⟨rfl, rfl⟩
      go_wp2_with fail
      go_returns
      exact ⟨F.out.symm, by go_grown⟩
    have one : ((s.extract 1 s.size).toList == [48]) = false := by simpa using one
    have PY := hide (parRes_yes (neg := true) (d := (s.extract 1 s.size)) (by rw [pl, one]; rfl))
    have OV := hide (fun h => (PY.out).trans (over_sg true h))
    rw [pl] at kp
    clear pl
    go_enter Try.func41, Try.ntmps41
    go_wp2_with fail
    refine (kp _).mono ?_
    rintro e w1 ⟨rfl, rfl⟩
    clear kp
    generalize hE : s.extract 1 s.size = D at *
    have HE := hide hE
    clear hE
    by_cases lng : 40 < D.size
    · have F := hide (OV.out (BIG.out lng))
      clear HD BIG LT PY OV
      go_wp2_with fail
      go_returns
      exact ⟨(by rw [HE.out]; exact F.out.symm), by go_grown⟩
    have lng' : D.size ≤ 40 := by omega
    have lngb : decide (40 < D.size) = false := decide_eq_false lng
    clear BIG OV
    go_wp2_with fail
    go_loopw [7] (fun i wr => ∃ (k : Nat) (sn : Bool) (p : Option Addr) (c : Nat) (lr : List Int), k ≤ D.size ∧ i = .int .i64 k ∧ RSum w wr sn p c lr (wk D k : Nat)) (fun i _ => D.size - (intOf i).toNat)
    case atStart =>
      refine ⟨0, false, none, 0, [], by omega, rfl, ?_⟩
      rw [wk_zero]
      refine ⟨⟨?_, ?_, ?_, ?_, ?_, ?_⟩, isNum_zero _, ?_, ?_, ?_, ?_, ?_⟩
      all_goals first | (go_grown; done) | (refine shape_top _ _ _ _ ?_; (first | rfl | (simp; done)); done) | (simp [go_sem]; done) | (simp; done) | (simp; omega)
    case round =>
      obtain ⟨k, sn, p, c, lr, hk, rfl, inv⟩ := hrel
      have I := hide inv
      clear inv
      by_cases hlt : k < D.size
      · have dd := HD.out k hlt
        obtain ⟨d0, d1⟩ : 48 ≤ (D[k].toNat : Int) ∧ (D[k].toNat : Int) ≤ 57 := by
          unfold Dc.isD at dd; simp at dd; omega
        obtain ⟨d, hdd⟩ : ∃ d : Int, d = (D[k].toNat : Int) - 48 := ⟨_, rfl⟩
        obtain ⟨M, hM⟩ : ∃ M : Int, M = (wk D k : Nat) := ⟨_, rfl⟩
        have lt1 := LT.out k (by omega)
        have pk : (10:Nat) ^ k ≤ 10 ^ 40 := Nat.pow_le_pow_right (by omega) (by omega)
        have p40 : (10:Nat) ^ 40 = 10000000000000000000000000000000000000000 := by decide
        have M0 : 0 ≤ M := by omega
        have M1 : M < 10000000000000000000000000000000000000000 := by omega
        have hw : Hid (((wk D (k + 1) : Nat) : Int) = M * 10 + d) := by
          have := wk_succ D k hlt
          show _ = _
          omega
        rw [← hM] at I
        have e9 : pw 9 = 22300745198530623141535718272648361505980416 := by decide
        have KD := rint_spec d ⟨by omega, by omega⟩
        have KT := rint_spec 10 ⟨by omega, by omega⟩
        have lrl := I.out.num.few 9 (by unfold Lb.ab; split <;> omega)
        have KM := fun (sx : Bool) (px : Option Addr) (cx : Nat) (lx : List Int) (w' : World) (K : Keeps wr.heap.size wr w') (N : IsNum w' sx px cx lx 10) => mulN_spec sn sx p px c cx lr lx M 10 w' (I.out.num.later K.below) N (by omega) (by have := N.few 9 (by unfold Lb.ab; split <;> omega); omega)
        have KA := fun (sx sy : Bool) (px py : Option Addr) (cx cy : Nat) (lx ly : List Int) (w' : World) (N : IsNum w' sx px cx lx (M * 10)) (N' : IsNum w' sy py cy ly d) => addN_spec sx sy px py cx cy lx ly (M * 10) d w' N N' (by have := N.few 9 (by unfold Lb.ab; split <;> omega); omega) (by have := N'.few 9 (by unfold Lb.ab; split <;> omega); omega)
        have bd : IntKind.u8.wrap ((D[k].toNat : Int) - 48) = d := by rw [← hdd, IntKind.wrap_u8]; omega
        have bd' : IntKind.i64.wrap d = d := by rw [IntKind.wrap_i64]; omega
        obtain ⟨q0, q1, q2, q3, q4, q5⟩ := I.out.n
        have K0 := Keeps.start (Nat.le_refl wr.heap.size)
        have K1 := K0.drew
        have J0 : Keeps (w.heap.size + 1) wr wr := Keeps.start (by omega)
        have J1 := J0.drew
        clear hM hdd dd e9 p40 pk lt1 M0 M1 HD LT lrl PY
        obtain ⟨wo, hwo⟩ : ∃ wo : World, wo = wr := ⟨_, rfl⟩
        clear hwo
        go_wp2_with fail
        go_region_with (first
          | (go_at_call 64; (with_reducible refine (KT _).mono ?_); rintro e v20 ⟨s1, p1, c1, l1, rfl, N1, hb20⟩; have K20 := Keeps.call (B := wr.heap.size) (W := wr) (by repeat (first | assumption | refine Keeps.alloc ?_ _ | refine Keeps.drew ?_ | refine Keeps.setCell ?_ (by first | (simp; done) | omega | (simp; omega)) _)) hb20; have n20 := K20.cell q0 q5; have m20 := K20.cell q1 q5; have g20 := K20.free q2 q5; have j20 := K20.free q3 q5)
          | (go_at_call 51; (with_reducible refine (KM _ _ _ _ _ (by repeat (first | assumption | refine Keeps.alloc ?_ _ | refine Keeps.drew ?_ | refine Keeps.setCell ?_ (by first | (simp; done) | omega | (simp; omega)) _)) (N1.later (by repeat (first | exact Below.refl _ _ | assumption | refine Below.setCell ?_ (by first | (simp; done) | omega | (simp; omega)) _ | refine Below.drew ?_ | refine below_drewN ?_ _ | refine Below.alloc ?_ (by first | (simp; done) | omega | (simp; omega)) _)))).mono ?_); rintro e v21 ⟨s2, p2, c2, l2, rfl, N2, hb21⟩; have K21 := Keeps.call (B := wr.heap.size) (W := wr) (by repeat (first | assumption | refine Keeps.alloc ?_ _ | refine Keeps.drew ?_ | refine Keeps.setCell ?_ (by first | (simp; done) | omega | (simp; omega)) _)) hb21; have n21 := K21.cell q0 q5; have m21 := K21.cell q1 q5; have g21 := K21.free q2 q5; have j21 := K21.free q3 q5)
          | (go_at_call 64; (with_reducible refine (KD _).mono ?_); rintro e v22 ⟨s3, p3, c3, l3, rfl, N3, hb22⟩; have K22 := Keeps.call (B := wr.heap.size) (W := wr) (by repeat (first | assumption | refine Keeps.alloc ?_ _ | refine Keeps.drew ?_ | refine Keeps.setCell ?_ (by first | (simp; done) | omega | (simp; omega)) _)) hb22; have n22 := K22.cell q0 q5; have m22 := K22.cell q1 q5; have g22 := K22.free q2 q5; have j22 := K22.free q3 q5)
          | (go_at_call 47; (with_reducible refine (KA _ _ _ _ _ _ _ _ _ ((N2.later hb22).later (by repeat (first | exact Below.refl _ _ | assumption | refine Below.setCell ?_ (by first | (simp; done) | omega | (simp; omega)) _ | refine Below.drew ?_ | refine below_drewN ?_ _ | refine Below.alloc ?_ (by first | (simp; done) | omega | (simp; omega)) _))) (N3.later (by repeat (first | exact Below.refl _ _ | assumption | refine Below.setCell ?_ (by first | (simp; done) | omega | (simp; omega)) _ | refine Below.drew ?_ | refine below_drewN ?_ _ | refine Below.alloc ?_ (by first | (simp; done) | omega | (simp; omega)) _)))).mono ?_); rintro e v23 ⟨s4, p4, c4, l4, rfl, N4, hb23⟩; have K23 := Keeps.call (B := wr.heap.size) (W := wr) (by repeat (first | assumption | refine Keeps.alloc ?_ _ | refine Keeps.drew ?_ | refine Keeps.setCell ?_ (by first | (simp; done) | omega | (simp; omega)) _)) hb23; have n23 := K23.cell q0 q5; have m23 := K23.cell q1 q5; have g23 := K23.free q2 q5; have j23 := K23.free q3 q5))
        all_goals
          have F := hide (I.out.next K23.below N4)
          clear K20 K21 K22 K23 N1 N2 N3 N4 KA KM KT KD I
          go_wp2_with fail
          go_roundw
          case rel => exact ⟨k + 1, _, _, _, _, by omega, by go_num, by rw [hw.out]; exact F.out⟩
          case measure => simp [intOf]; omega
      · obtain rfl : k = D.size := by omega
        have PP := PY.out
        have num := I.out.num
        obtain ⟨M, hM⟩ : ∃ M : Int, M = (wk D D.size : Nat) := ⟨_, rfl⟩
        have lt1 := LT.out D.size (by omega)
        have pk : (10:Nat) ^ D.size ≤ 10 ^ 40 := Nat.pow_le_pow_right (by omega) (by omega)
        have p40 : (10:Nat) ^ 40 = 10000000000000000000000000000000000000000 := by decide
        rw [← hM] at num PP
        have e9 : pw 9 = 22300745198530623141535718272648361505980416 := by decide
        have lrl := num.few 9 (by unfold Lb.ab; split <;> omega)
        have va := num.mag.val
        rw [show Lb.ab M = M by unfold Lb.ab; split <;> omega] at va
        have KM := fun w' (K : Below wr.heap.size wr w') => make2_spec true p c lr w' (num.lim.later K) num.mag.ok (by omega)
        rw [va, show mkZ true M = sg true M from rfl] at KM
        have KO := fun (sx : Bool) (px : Option Addr) (cx : Nat) (lx : List Int) (w' : World) (N : IsNum w' sx px cx lx (sg true M)) => over_spec sx px cx lx (sg true M) w' N (by have := N.few 9 (by unfold Lb.ab; rw [sg_t]; split <;> omega); omega)
        unfold sumRes at KO PP
        obtain ⟨x1, e1⟩ : ∃ q, q = hi (resV (sg true M)) := ⟨_, rfl⟩
        obtain ⟨x0, e0⟩ : ∃ q, q = lo (resV (sg true M)) := ⟨_, rfl⟩
        obtain ⟨x2, e2⟩ : ∃ q, q = resE (sg true M) := ⟨_, rfl⟩
        rw [← e1, ← e0, ← e2] at PP
        simp only [← e1, ← e0, ← e2] at KO
        have F := hide PP
        obtain ⟨q0, q1, q2, q3, q4, q5⟩ := I.out.n
        have r0 := I.out.r0
        have r1 := I.out.r1
        have g0 := I.out.g0
        have g1 := I.out.g1
        have BI := hide I.out.below
        clear num I PP hM va e1 e0 e2 e9 p40 pk lt1 lrl HD LT PY
        go_wp2_with fail
        refine (KM _ (by repeat (first | exact Below.refl _ _ | assumption | refine Below.setCell ?_ (by first | (simp; done) | omega | (simp; omega)) _ | refine Below.drew ?_ | refine below_drewN ?_ _ | refine Below.alloc ?_ (by first | (simp; done) | omega | (simp; omega)) _))).mono ?_
        clear KM
        rintro e w2 ⟨s2, p2, c2, l2, rfl, N2, h2⟩
        have H2 : Below wr.heap.size wr w2 := Below.trans (by repeat (first | exact Below.refl _ _ | assumption | refine Below.setCell ?_ (by first | (simp; done) | omega | (simp; omega)) _ | refine Below.drew ?_ | refine below_drewN ?_ _ | refine Below.alloc ?_ (by first | (simp; done) | omega | (simp; omega)) _)) (h2.mono (by first | (simp; done) | omega | (simp; omega)))
        have z00 : w.heap.size < wr.heap.size := by omega
        have r0' := (H2.cell (p := ⟨w.heap.size, 0, none⟩) z00).trans r0
        have r1' := (H2.cell (p := ⟨w.heap.size, 1, none⟩) z00).trans r1
        have g0' := (H2.frozen (p := ⟨w.heap.size, 0, none⟩) z00).trans g0
        have g1' := (H2.frozen (p := ⟨w.heap.size, 1, none⟩) z00).trans g1
        have y2 := H2.size
        clear h2
        go_wp2_with fail
        refine (KO _ _ _ _ _ (N2.later (by repeat (first | exact Below.refl _ _ | assumption | refine Below.setCell ?_ (by first | (simp; done) | omega | (simp; omega)) _ | refine Below.drew ?_ | refine below_drewN ?_ _ | refine Below.alloc ?_ (by first | (simp; done) | omega | (simp; omega)) _)))).mono ?_
        clear KO
        rintro e w3 ⟨rfl, h3⟩
        have z0 : w.heap.size < w2.heap.size := by omega
        have H3 : Below w2.heap.size w2 w3 := Below.trans (by repeat (first | exact Below.refl _ _ | assumption | refine Below.setCell ?_ (by first | (simp; done) | omega | (simp; omega)) _ | refine Below.drew ?_ | refine below_drewN ?_ _ | refine Below.alloc ?_ (by first | (simp; done) | omega | (simp; omega)) _)) (h3.mono (by first | (simp; done) | omega | (simp; omega)))
        have r0'' := (H3.cell (p := ⟨w.heap.size, 0, none⟩) z0).trans r0'
        have r1'' := (H3.cell (p := ⟨w.heap.size, 1, none⟩) z0).trans r1'
        have g0'' := (H3.frozen (p := ⟨w.heap.size, 0, none⟩) z0).trans g0'
        have g1'' := (H3.frozen (p := ⟨w.heap.size, 1, none⟩) z0).trans g1'
        have z1 : w.heap.size < w3.heap.size := Nat.lt_of_lt_of_le z0 H3.size
        have BE := BI.out.trans ((H2.trans (H3.mono y2)).mono BI.out.size)
        clear h3 H3 H2 r0 r1 g0 g1 q0 q1 q2 q3 r0' r1' g0' g1' N2
        go_wp2_with fail
        refine bodyPost_ret (by simp [results, Try.results41, go_sem, r0'', r1'', g0'', g1'', z1]; try rfl) rfl ?_
        refine ⟨(by rw [HE.out]; exact F.out.symm), ?_⟩
        repeat (first | exact Below.refl _ _ | assumption | refine Below.setCell ?_ (by first | (simp; done) | omega | (simp; omega)) _ | refine Below.drew ?_ | refine below_drewN ?_ _ | refine Below.alloc ?_ (by first | (simp; done) | omega | (simp; omega)) _)
  · have pl : plainB (s.extract 1 s.size) = false := by simpa using pl
    have F := hide (parRes_no (neg := true) (d := (s.extract 1 s.size)) (by rw [pl]; rfl))
    rw [pl] at kp
    go_enter Try.func41, Try.ntmps41
    go_wp2_with fail
    refine (kp _).mono ?_
    rintro e w1 ⟨rfl, rfl⟩
    go_wp2_with fail
    go_returns
    exact ⟨F.out.symm, by go_grown⟩
set_option maxRecDepth 100000 in
set_option maxHeartbeats 16000000 in
theorem rparse_pos (s : ByteArray) (w : World) (hs : s.size ≤ 140737488355328) (h0 : 0 < s.size) (n1 : ¬ s.toList = []) (n2 : s.toList.isEmpty = false) (z : ((s[0].toNat : Int) == 45) = false) :
    Calls Try.prog 41 #[.string s] w fun e w' => e = parRes false s ∧ Below w.heap.size w w' := by
  have hd : s.size ≤ 140737488355328 := by exact hs
  have kp := fun w' => rdig_spec s w' hd
  by_cases pl : plainB s = true
  · have HD := hide (plain_digits pl)
    have BIG := hide (fun h1 => wk_big pl h1)
    have LT := hide (wk_lt s HD.out)
    have PY := hide (parRes_yes (neg := false) (d := s) (by rw [pl]; rfl))
    have OV := hide (fun h => (PY.out).trans (over_sg false h))
    rw [pl] at kp
    clear pl
    go_enter Try.func41, Try.ntmps41
    go_wp2_with fail
    refine (kp _).mono ?_
    rintro e w1 ⟨rfl, rfl⟩
    clear kp
    by_cases lng : 40 < s.size
    · have F := hide (OV.out (BIG.out lng))
      clear HD BIG LT PY OV
      go_wp2_with fail
      go_returns
      exact ⟨F.out.symm, by go_grown⟩
    have lng' : s.size ≤ 40 := by omega
    have lngb : decide (40 < s.size) = false := decide_eq_false lng
    clear BIG OV
    go_wp2_with fail
    go_loopw [7] (fun i wr => ∃ (k : Nat) (sn : Bool) (p : Option Addr) (c : Nat) (lr : List Int), k ≤ s.size ∧ i = .int .i64 k ∧ RSum w wr sn p c lr (wk s k : Nat)) (fun i _ => s.size - (intOf i).toNat)
    case atStart =>
      refine ⟨0, false, none, 0, [], by omega, rfl, ?_⟩
      rw [wk_zero]
      refine ⟨⟨?_, ?_, ?_, ?_, ?_, ?_⟩, isNum_zero _, ?_, ?_, ?_, ?_, ?_⟩
      all_goals first | (go_grown; done) | (refine shape_top _ _ _ _ ?_; (first | rfl | (simp; done)); done) | (simp [go_sem]; done) | (simp; done) | (simp; omega)
    case round =>
      obtain ⟨k, sn, p, c, lr, hk, rfl, inv⟩ := hrel
      have I := hide inv
      clear inv
      by_cases hlt : k < s.size
      · have dd := HD.out k hlt
        obtain ⟨d0, d1⟩ : 48 ≤ (s[k].toNat : Int) ∧ (s[k].toNat : Int) ≤ 57 := by
          unfold Dc.isD at dd; simp at dd; omega
        obtain ⟨d, hdd⟩ : ∃ d : Int, d = (s[k].toNat : Int) - 48 := ⟨_, rfl⟩
        obtain ⟨M, hM⟩ : ∃ M : Int, M = (wk s k : Nat) := ⟨_, rfl⟩
        have lt1 := LT.out k (by omega)
        have pk : (10:Nat) ^ k ≤ 10 ^ 40 := Nat.pow_le_pow_right (by omega) (by omega)
        have p40 : (10:Nat) ^ 40 = 10000000000000000000000000000000000000000 := by decide
        have M0 : 0 ≤ M := by omega
        have M1 : M < 10000000000000000000000000000000000000000 := by omega
        have hw : Hid (((wk s (k + 1) : Nat) : Int) = M * 10 + d) := by
          have := wk_succ s k hlt
          show _ = _
          omega
        rw [← hM] at I
        have e9 : pw 9 = 22300745198530623141535718272648361505980416 := by decide
        have KD := rint_spec d ⟨by omega, by omega⟩
        have KT := rint_spec 10 ⟨by omega, by omega⟩
        have lrl := I.out.num.few 9 (by unfold Lb.ab; split <;> omega)
        have KM := fun (sx : Bool) (px : Option Addr) (cx : Nat) (lx : List Int) (w' : World) (K : Keeps wr.heap.size wr w') (N : IsNum w' sx px cx lx 10) => mulN_spec sn sx p px c cx lr lx M 10 w' (I.out.num.later K.below) N (by omega) (by have := N.few 9 (by unfold Lb.ab; split <;> omega); omega)
        have KA := fun (sx sy : Bool) (px py : Option Addr) (cx cy : Nat) (lx ly : List Int) (w' : World) (N : IsNum w' sx px cx lx (M * 10)) (N' : IsNum w' sy py cy ly d) => addN_spec sx sy px py cx cy lx ly (M * 10) d w' N N' (by have := N.few 9 (by unfold Lb.ab; split <;> omega); omega) (by have := N'.few 9 (by unfold Lb.ab; split <;> omega); omega)
        have bd : IntKind.u8.wrap ((s[k].toNat : Int) - 48) = d := by rw [← hdd, IntKind.wrap_u8]; omega
        have bd' : IntKind.i64.wrap d = d := by rw [IntKind.wrap_i64]; omega
        obtain ⟨q0, q1, q2, q3, q4, q5⟩ := I.out.n
        have K0 := Keeps.start (Nat.le_refl wr.heap.size)
        have K1 := K0.drew
        have J0 : Keeps (w.heap.size + 1) wr wr := Keeps.start (by omega)
        have J1 := J0.drew
        clear hM hdd dd e9 p40 pk lt1 M0 M1 HD LT lrl PY
        obtain ⟨wo, hwo⟩ : ∃ wo : World, wo = wr := ⟨_, rfl⟩
        clear hwo
        go_wp2_with fail
        go_region_with (first
          | (go_at_call 64; (with_reducible refine (KT _).mono ?_); rintro e v20 ⟨s1, p1, c1, l1, rfl, N1, hb20⟩; have K20 := Keeps.call (B := wr.heap.size) (W := wr) (by repeat (first | assumption | refine Keeps.alloc ?_ _ | refine Keeps.drew ?_ | refine Keeps.setCell ?_ (by first | (simp; done) | omega | (simp; omega)) _)) hb20; have n20 := K20.cell q0 q5; have m20 := K20.cell q1 q5; have g20 := K20.free q2 q5; have j20 := K20.free q3 q5)
          | (go_at_call 51; (with_reducible refine (KM _ _ _ _ _ (by repeat (first | assumption | refine Keeps.alloc ?_ _ | refine Keeps.drew ?_ | refine Keeps.setCell ?_ (by first | (simp; done) | omega | (simp; omega)) _)) (N1.later (by repeat (first | exact Below.refl _ _ | assumption | refine Below.setCell ?_ (by first | (simp; done) | omega | (simp; omega)) _ | refine Below.drew ?_ | refine below_drewN ?_ _ | refine Below.alloc ?_ (by first | (simp; done) | omega | (simp; omega)) _)))).mono ?_); rintro e v21 ⟨s2, p2, c2, l2, rfl, N2, hb21⟩; have K21 := Keeps.call (B := wr.heap.size) (W := wr) (by repeat (first | assumption | refine Keeps.alloc ?_ _ | refine Keeps.drew ?_ | refine Keeps.setCell ?_ (by first | (simp; done) | omega | (simp; omega)) _)) hb21; have n21 := K21.cell q0 q5; have m21 := K21.cell q1 q5; have g21 := K21.free q2 q5; have j21 := K21.free q3 q5)
          | (go_at_call 64; (with_reducible refine (KD _).mono ?_); rintro e v22 ⟨s3, p3, c3, l3, rfl, N3, hb22⟩; have K22 := Keeps.call (B := wr.heap.size) (W := wr) (by repeat (first | assumption | refine Keeps.alloc ?_ _ | refine Keeps.drew ?_ | refine Keeps.setCell ?_ (by first | (simp; done) | omega | (simp; omega)) _)) hb22; have n22 := K22.cell q0 q5; have m22 := K22.cell q1 q5; have g22 := K22.free q2 q5; have j22 := K22.free q3 q5)
          | (go_at_call 47; (with_reducible refine (KA _ _ _ _ _ _ _ _ _ ((N2.later hb22).later (by repeat (first | exact Below.refl _ _ | assumption | refine Below.setCell ?_ (by first | (simp; done) | omega | (simp; omega)) _ | refine Below.drew ?_ | refine below_drewN ?_ _ | refine Below.alloc ?_ (by first | (simp; done) | omega | (simp; omega)) _))) (N3.later (by repeat (first | exact Below.refl _ _ | assumption | refine Below.setCell ?_ (by first | (simp; done) | omega | (simp; omega)) _ | refine Below.drew ?_ | refine below_drewN ?_ _ | refine Below.alloc ?_ (by first | (simp; done) | omega | (simp; omega)) _)))).mono ?_); rintro e v23 ⟨s4, p4, c4, l4, rfl, N4, hb23⟩; have K23 := Keeps.call (B := wr.heap.size) (W := wr) (by repeat (first | assumption | refine Keeps.alloc ?_ _ | refine Keeps.drew ?_ | refine Keeps.setCell ?_ (by first | (simp; done) | omega | (simp; omega)) _)) hb23; have n23 := K23.cell q0 q5; have m23 := K23.cell q1 q5; have g23 := K23.free q2 q5; have j23 := K23.free q3 q5))
        all_goals
          have F := hide (I.out.next K23.below N4)
          clear K20 K21 K22 K23 N1 N2 N3 N4 KA KM KT KD I
          go_wp2_with fail
          go_roundw
          case rel => exact ⟨k + 1, _, _, _, _, by omega, by go_num, by rw [hw.out]; exact F.out⟩
          case measure => simp [intOf]; omega
      · obtain rfl : k = s.size := by omega
        have PP := PY.out
        have num := I.out.num
        obtain ⟨M, hM⟩ : ∃ M : Int, M = (wk s s.size : Nat) := ⟨_, rfl⟩
        have lt1 := LT.out s.size (by omega)
        have pk : (10:Nat) ^ s.size ≤ 10 ^ 40 := Nat.pow_le_pow_right (by omega) (by omega)
        have p40 : (10:Nat) ^ 40 = 10000000000000000000000000000000000000000 := by decide
        rw [← hM] at num PP
        have e9 : pw 9 = 22300745198530623141535718272648361505980416 := by decide
        have lrl := num.few 9 (by unfold Lb.ab; split <;> omega)
        have va := num.mag.val
        rw [show Lb.ab M = M by unfold Lb.ab; split <;> omega] at va
        have KM := fun w' (K : Below wr.heap.size wr w') => make2_spec false p c lr w' (num.lim.later K) num.mag.ok (by omega)
        rw [va, show mkZ false M = sg false M from rfl] at KM
        have KO := fun (sx : Bool) (px : Option Addr) (cx : Nat) (lx : List Int) (w' : World) (N : IsNum w' sx px cx lx (sg false M)) => over_spec sx px cx lx (sg false M) w' N (by have := N.few 9 (by unfold Lb.ab; rw [sg_f]; split <;> omega); omega)
        unfold sumRes at KO PP
        obtain ⟨x1, e1⟩ : ∃ q, q = hi (resV (sg false M)) := ⟨_, rfl⟩
        obtain ⟨x0, e0⟩ : ∃ q, q = lo (resV (sg false M)) := ⟨_, rfl⟩
        obtain ⟨x2, e2⟩ : ∃ q, q = resE (sg false M) := ⟨_, rfl⟩
        rw [← e1, ← e0, ← e2] at PP
        simp only [← e1, ← e0, ← e2] at KO
        have F := hide PP
        obtain ⟨q0, q1, q2, q3, q4, q5⟩ := I.out.n
        have r0 := I.out.r0
        have r1 := I.out.r1
        have g0 := I.out.g0
        have g1 := I.out.g1
        have BI := hide I.out.below
        clear num I PP hM va e1 e0 e2 e9 p40 pk lt1 lrl HD LT PY
        go_wp2_with fail
        refine (KM _ (by repeat (first | exact Below.refl _ _ | assumption | refine Below.setCell ?_ (by first | (simp; done) | omega | (simp; omega)) _ | refine Below.drew ?_ | refine below_drewN ?_ _ | refine Below.alloc ?_ (by first | (simp; done) | omega | (simp; omega)) _))).mono ?_
        clear KM
        rintro e w2 ⟨s2, p2, c2, l2, rfl, N2, h2⟩
        have H2 : Below wr.heap.size wr w2 := Below.trans (by repeat (first | exact Below.refl _ _ | assumption | refine Below.setCell ?_ (by first | (simp; done) | omega | (simp; omega)) _ | refine Below.drew ?_ | refine below_drewN ?_ _ | refine Below.alloc ?_ (by first | (simp; done) | omega | (simp; omega)) _)) (h2.mono (by first | (simp; done) | omega | (simp; omega)))
        have z00 : w.heap.size < wr.heap.size := by omega
        have r0' := (H2.cell (p := ⟨w.heap.size, 0, none⟩) z00).trans r0
        have r1' := (H2.cell (p := ⟨w.heap.size, 1, none⟩) z00).trans r1
        have g0' := (H2.frozen (p := ⟨w.heap.size, 0, none⟩) z00).trans g0
        have g1' := (H2.frozen (p := ⟨w.heap.size, 1, none⟩) z00).trans g1
        have y2 := H2.size
        clear h2
        go_wp2_with fail
        refine (KO _ _ _ _ _ (N2.later (by repeat (first | exact Below.refl _ _ | assumption | refine Below.setCell ?_ (by first | (simp; done) | omega | (simp; omega)) _ | refine Below.drew ?_ | refine below_drewN ?_ _ | refine Below.alloc ?_ (by first | (simp; done) | omega | (simp; omega)) _)))).mono ?_
        clear KO
        rintro e w3 ⟨rfl, h3⟩
        have z0 : w.heap.size < w2.heap.size := by omega
        have H3 : Below w2.heap.size w2 w3 := Below.trans (by repeat (first | exact Below.refl _ _ | assumption | refine Below.setCell ?_ (by first | (simp; done) | omega | (simp; omega)) _ | refine Below.drew ?_ | refine below_drewN ?_ _ | refine Below.alloc ?_ (by first | (simp; done) | omega | (simp; omega)) _)) (h3.mono (by first | (simp; done) | omega | (simp; omega)))
        have r0'' := (H3.cell (p := ⟨w.heap.size, 0, none⟩) z0).trans r0'
        have r1'' := (H3.cell (p := ⟨w.heap.size, 1, none⟩) z0).trans r1'
        have g0'' := (H3.frozen (p := ⟨w.heap.size, 0, none⟩) z0).trans g0'
        have g1'' := (H3.frozen (p := ⟨w.heap.size, 1, none⟩) z0).trans g1'
        have z1 : w.heap.size < w3.heap.size := Nat.lt_of_lt_of_le z0 H3.size
        have BE := BI.out.trans ((H2.trans (H3.mono y2)).mono BI.out.size)
        clear h3 H3 H2 r0 r1 g0 g1 q0 q1 q2 q3 r0' r1' g0' g1' N2
        go_wp2_with fail
        refine bodyPost_ret (by simp [results, Try.results41, go_sem, r0'', r1'', g0'', g1'', z1]; try rfl) rfl ?_
        refine ⟨F.out.symm, ?_⟩
        repeat (first | exact Below.refl _ _ | assumption | refine Below.setCell ?_ (by first | (simp; done) | omega | (simp; omega)) _ | refine Below.drew ?_ | refine below_drewN ?_ _ | refine Below.alloc ?_ (by first | (simp; done) | omega | (simp; omega)) _)
  · have pl : plainB s = false := by simpa using pl
    have F := hide (parRes_no (neg := false) (d := s) (by rw [pl]; rfl))
    rw [pl] at kp
    go_enter Try.func41, Try.ntmps41
    go_wp2_with fail
    refine (kp _).mono ?_
    rintro e w1 ⟨rfl, rfl⟩
    go_wp2_with fail
    go_returns
    exact ⟨F.out.symm, by go_grown⟩
set_option maxRecDepth 100000 in
theorem rparse_none (w : World) : Calls Try.prog 41 #[.string ⟨#[]⟩] w fun e w' => e = parRes false ⟨#[]⟩ ∧ Below w.heap.size w w' := by
  have q : plainB ⟨#[]⟩ = false := by unfold plainB; rw [show (⟨#[]⟩ : ByteArray).toList = [] from ByteArray.toList_mk []]; rfl
  have kp := fun w' => rdig_empty w'
  have F := hide (parRes_no (neg := false) (d := ⟨#[]⟩) (by rw [q]; rfl))
  clear q
  go_enter Try.func41, Try.ntmps41
  go_wp2_with fail
  refine (kp _).mono ?_
  rintro e w1 ⟨rfl, rfl⟩
  go_wp2_with fail
  go_returns
  exact ⟨F.out.symm, by go_grown⟩
theorem rparse_spec (s : ByteArray) (w : World) (hs : s.size ≤ 140737488355328) :
    Calls Try.prog 41 #[.string s] w fun e w' => e = parRes (isNeg s) (digOf s) ∧ Below w.heap.size w w' := by
  by_cases h0 : s.size = 0
  · have e : s = ⟨#[]⟩ := by
      obtain ⟨d⟩ := s
      have : d.size = 0 := h0
      rw [Array.eq_empty_of_size_eq_zero this]
    subst e
    have q : isNeg ⟨#[]⟩ = false := by unfold isNeg; rw [show (⟨#[]⟩ : ByteArray).toList = [] from ByteArray.toList_mk []]; rfl
    unfold digOf
    rw [q]
    exact rparse_none w
  · have hl : s.toList.length = s.size := by rw [ByteArray.toList_eq]; simp
    have n1 : ¬ s.toList = [] := fun e => by rw [e] at hl; simp at hl; omega
    have n2 : s.toList.isEmpty = false := by simpa using n1
    have hh : s.toList.head? = some (s[0]'(by omega)) := by
      rw [ByteArray.toList_eq, List.head?_eq_getElem?, List.getElem?_eq_getElem (by rw [ByteArray.toList_eq] at hl; omega)]; rfl
    by_cases z : ((s[0]'(by omega)).toNat : Int) = 45
    · have z' : s[0]'(by omega) = 45 := UInt8.toNat_inj.1 (by show _ = 45; omega)
      have q : isNeg s = true := by unfold isNeg; rw [hh, z']; rfl
      unfold digOf
      rw [q]
      exact rparse_neg s w hs (by omega) n1 n2 (by simpa using z)
    · have z' : ¬ s[0]'(by omega) = 45 := fun e => z (by rw [e]; rfl)
      have q : isNeg s = false := by unfold isNeg; rw [hh]; simpa using z'
      unfold digOf
      rw [q]
      exact rparse_pos s w hs (by omega) n1 n2 (by simpa using z)
end Go.Proofs.Ythcgkpmlfbjagaa
