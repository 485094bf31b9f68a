/- The reference of layer 2: Text, Show, Print; MicroPrints, MicroShows. (gen_mtextb.py) -/
import Derived.Test.YtdjehbagnkfkpaaDoorMtext
import Derived.Test.YtdjehbagnkfkpaaDoorMback
import Derived.Test.YtdjehbagnkfkpaaDoorMparse
import Derived.Deep.DeepCutAuto
namespace Go.Proofs.YtdjehbagnkfkpaaDoor
set_option linter.unusedVariables false
set_option linter.unusedSimpArgs false
open Go.RowKit W
theorem toList_split (B : ByteArray) (k : Nat) (h : B.size = k + 1) : B.data.toList = (B.extract 0 k).data.toList ++ [B[k]'(by omega)] := by
  have hl : B.data.toList.length = k + 1 := by simpa using h
  have e : (B.extract 0 k).data.toList = B.data.toList.take k := by simp
  rw [e]
  have := List.take_succ_eq_append_getElem (l := B.data.toList) (i := k) (by omega)
  rw [List.take_of_length_le (by omega)] at this
  exact this
theorem trim_last (l : List UInt8) : Lib.trimRightB (l ++ [48]) 48 = Lib.trimRightB l 48 := by
  unfold Lib.trimRightB; simp
theorem trim_stop (l : List UInt8) (c : UInt8) (h : c ≠ 48) : Lib.trimRightB (l ++ [c]) 48 = l ++ [c] := by
  unfold Lib.trimRightB
  rw [List.reverse_append, List.reverse_singleton, List.singleton_append, List.dropWhile_cons_of_neg (by simpa using h)]
  simp
theorem ret_str {x y : ByteArray} (h : x = y) : Ending.returned (.string x) = .returned (.string y) := by rw [h]
def body (H Z : List UInt8) : List UInt8 := if Z = [] then H else H ++ 46 :: Z
set_option maxRecDepth 100000 in
set_option maxHeartbeats 4000000 in
theorem rtext_pos (p1 p0 : Int) (po : Bool) (P H F : List UInt8) (hP : 7 ≤ P.length) (hP2 : P.length ≤ 60) (hH : H.length ≤ 60) (hF : F.length ≤ 60)
    (k1 : ∀ w, Calls Tryd.prog 51 #[magV p1 p0 po] w fun e w' => e = .returned (.string ⟨P.toArray⟩) ∧ Below w.heap.size w w')
    (e0 : (⟨P.toArray⟩ : ByteArray).extract 0 (P.length - 6) = ⟨H.toArray⟩) (e1 : (⟨P.toArray⟩ : ByteArray).extract (P.length - 6) P.length = ⟨F.toArray⟩)
    (w : World) : Calls Tryd.prog 32 #[magV p1 p0 po, .bool false] w fun e w' => e = .returned (.string ⟨(body H (Lib.trimRightB F 48)).toArray⟩) ∧ Below w.heap.size w w' := by
  have E0 := hide e0
  have E1 := hide e1
  clear e0 e1
  go_enter Tryd.func32, Tryd.ntmps32
  go_wp2_with fail
  refine (k1 _).mono ?_
  rintro e w1 ⟨rfl, h1⟩
  have B1 : Below w.heap.size w w1 := Below.trans (by go_grown) (h1.mono (by first | (simp; done) | omega | (simp; omega)))
  have BL := hide B1
  clear h1 k1 B1
  go_wp2_with fail
  rw [E0.out, E1.out]
  go_loop [7] (fun v => ∃ B : ByteArray, v = .string B ∧ B.size ≤ 60 ∧ Hid (Lib.trimRightB F 48 = Lib.trimRightB B.data.toList 48)) (fun v => txtLen v)
  case atStart => exact ⟨⟨F.toArray⟩, rfl, by simpa [ByteArray.size] using hF, rfl⟩
  case round =>
    obtain ⟨B, rfl, hB, ht⟩ := hrel
    by_cases z : B.size = 0
    · have D : Hid ((body H (Lib.trimRightB F 48)) = H) := by
        have : B.data.toList = [] := List.eq_nil_of_length_eq_zero (by simpa using z)
        show _ = _
        rw [ht.out, this]; rfl
      have z' : ¬ 0 < B.size := by omega
      have zi : ¬ 0 < (B.size : Int) := by omega
      clear ht
      go_wp2_with fail
      go_returns
      rw [D.out]
      exact ⟨ret_str (by first | rfl | (apply ByteArray.ext; simp; done)), BL.out⟩
    · obtain ⟨k, hk⟩ : ∃ k, B.size = k + 1 := ⟨B.size - 1, by omega⟩
      have SP := hide (toList_split B k hk)
      by_cases c48 : ((B[k]'(by omega)).toNat : Int) = 48
      · have c1 : (((B[k]'(by omega)).toNat : Int) == 48) = true := by simpa using c48
        have N : Hid (Lib.trimRightB F 48 = Lib.trimRightB (B.extract 0 k).data.toList 48) := by
          have e : B[k]'(by omega) = 48 := UInt8.toNat_inj.1 (by show _ = 48; omega)
          show _ = _
          rw [ht.out, SP.out, e, trim_last]
        have ML : Hid ((B.extract 0 k).size < B.size ∧ (B.extract 0 k).size ≤ 60) := by
          show _ ∧ _
          rw [ByteArray.size_extract]; omega
        clear ht SP c48
        go_wp2_with fail
        go_round
        case rel => exact ⟨B.extract 0 k, rfl, ML.out.2, N⟩
        case measure => exact ML.out.1
      · have c1 : (((B[k]'(by omega)).toNat : Int) == 48) = false := by simpa using c48
        have D : Hid ((body H (Lib.trimRightB F 48)) = H ++ 46 :: B.data.toList) := by
          have e : B[k]'(by omega) ≠ 48 := fun h => c48 (by rw [h]; rfl)
          have st := trim_stop (B.extract 0 k).data.toList _ e
          rw [← SP.out] at st
          have ne : ¬ B.data.toList = [] := fun h => by
            have hl : B.data.toList.length = B.size := by simp
            rw [h] at hl; simp at hl; omega
          show _ = _
          rw [ht.out, st]; unfold body; rw [if_neg ne]
        have pos : 0 < B.size := by omega
        clear ht SP c48
        go_wp2_with fail
        go_returns
        rw [D.out]
        exact ⟨ret_str (by apply ByteArray.ext; simp), BL.out⟩
set_option maxRecDepth 100000 in
set_option maxHeartbeats 4000000 in
theorem rtext_neg (p1 p0 : Int) (po : Bool) (P H F : List UInt8) (hP : 7 ≤ P.length) (hP2 : P.length ≤ 60) (hH : H.length ≤ 60) (hF : F.length ≤ 60)
    (k1 : ∀ w, Calls Tryd.prog 51 #[magV p1 p0 po] w fun e w' => e = .returned (.string ⟨P.toArray⟩) ∧ Below w.heap.size w w')
    (e0 : (⟨P.toArray⟩ : ByteArray).extract 0 (P.length - 6) = ⟨H.toArray⟩) (e1 : (⟨P.toArray⟩ : ByteArray).extract (P.length - 6) P.length = ⟨F.toArray⟩)
    (w : World) : Calls Tryd.prog 32 #[magV p1 p0 po, .bool true] w fun e w' => e = .returned (.string ⟨(45 :: body H (Lib.trimRightB F 48)).toArray⟩) ∧ Below w.heap.size w w' := by
  have E0 := hide e0
  have E1 := hide e1
  clear e0 e1
  go_enter Tryd.func32, Tryd.ntmps32
  go_wp2_with fail
  refine (k1 _).mono ?_
  rintro e w1 ⟨rfl, h1⟩
  have B1 : Below w.heap.size w w1 := Below.trans (by go_grown) (h1.mono (by first | (simp; done) | omega | (simp; omega)))
  have BL := hide B1
  clear h1 k1 B1
  go_wp2_with fail
  rw [E0.out, E1.out]
  go_loop [7] (fun v => ∃ B : ByteArray, v = .string B ∧ B.size ≤ 60 ∧ Hid (Lib.trimRightB F 48 = Lib.trimRightB B.data.toList 48)) (fun v => txtLen v)
  case atStart => exact ⟨⟨F.toArray⟩, rfl, by simpa [ByteArray.size] using hF, rfl⟩
  case round =>
    obtain ⟨B, rfl, hB, ht⟩ := hrel
    by_cases z : B.size = 0
    · have D : Hid ((45 :: body H (Lib.trimRightB F 48)) = 45 :: H) := by
        have : B.data.toList = [] := List.eq_nil_of_length_eq_zero (by simpa using z)
        show _ = _
        rw [ht.out, this]; rfl
      have z' : ¬ 0 < B.size := by omega
      have zi : ¬ 0 < (B.size : Int) := by omega
      clear ht
      go_wp2_with fail
      go_returns
      rw [D.out]
      exact ⟨ret_str (by first | rfl | (apply ByteArray.ext; simp; done)), BL.out⟩
    · obtain ⟨k, hk⟩ : ∃ k, B.size = k + 1 := ⟨B.size - 1, by omega⟩
      have SP := hide (toList_split B k hk)
      by_cases c48 : ((B[k]'(by omega)).toNat : Int) = 48
      · have c1 : (((B[k]'(by omega)).toNat : Int) == 48) = true := by simpa using c48
        have N : Hid (Lib.trimRightB F 48 = Lib.trimRightB (B.extract 0 k).data.toList 48) := by
          have e : B[k]'(by omega) = 48 := UInt8.toNat_inj.1 (by show _ = 48; omega)
          show _ = _
          rw [ht.out, SP.out, e, trim_last]
        have ML : Hid ((B.extract 0 k).size < B.size ∧ (B.extract 0 k).size ≤ 60) := by
          show _ ∧ _
          rw [ByteArray.size_extract]; omega
        clear ht SP c48
        go_wp2_with fail
        go_round
        case rel => exact ⟨B.extract 0 k, rfl, ML.out.2, N⟩
        case measure => exact ML.out.1
      · have c1 : (((B[k]'(by omega)).toNat : Int) == 48) = false := by simpa using c48
        have D : Hid ((45 :: body H (Lib.trimRightB F 48)) = 45 :: (H ++ 46 :: B.data.toList)) := by
          have e : B[k]'(by omega) ≠ 48 := fun h => c48 (by rw [h]; rfl)
          have st := trim_stop (B.extract 0 k).data.toList _ e
          rw [← SP.out] at st
          have ne : ¬ B.data.toList = [] := fun h => by
            have hl : B.data.toList.length = B.size := by simp
            rw [h] at hl; simp at hl; omega
          show _ = _
          rw [ht.out, st]; unfold body; rw [if_neg ne]
        have pos : 0 < B.size := by omega
        clear ht SP c48
        go_wp2_with fail
        go_returns
        rw [D.out]
        exact ⟨ret_str (by apply ByteArray.ext; simp), BL.out⟩
theorem rtext_mg (x : Int) (neg : Bool) (x0 : 0 ≤ x) (x1 : x < 340282366920938463463374607431768211456) (w : World) :
    Calls Tryd.prog 32 #[mgV x, .bool neg] w fun e w' => e = .returned (.string ⟨(if neg = true then 45 :: showA x.toNat else showA x.toNat).toArray⟩) ∧ Below w.heap.size w w' := by
  have k1 := rdigits_spec x x0 x1
  rw [pad_pre] at k1
  have dl := dec_len (N := x.toNat) (by omega)
  have pl := pad7_len (Dc.dec x.toNat)
  have hA : showA x.toNat = body ((pad7 (Dc.dec x.toNat)).take ((pad7 (Dc.dec x.toNat)).length - 6)) (Lib.trimRightB ((pad7 (Dc.dec x.toNat)).drop ((pad7 (Dc.dec x.toNat)).length - 6)) 48) := rfl
  rw [hA]
  cases neg
  · exact rtext_pos _ _ _ _ _ _ (by omega) (by omega) (by simp; omega) (by simp; omega) k1 (ext_head _ _) (ext_all _ _ _ rfl) w
  · exact rtext_neg _ _ _ _ _ _ (by omega) (by omega) (by simp; omega) (by simp; omega) k1 (ext_head _ _) (ext_all _ _ _ rfl) w
theorem show_sgn (v : Int) : showT v = (if decide (v < 0) = true then 45 :: showA (ab v).toNat else showA (ab v).toNat) := by
  have e : (ab v).toNat = v.natAbs := by unfold ab; split <;> omega
  rw [e]
  unfold showT
  by_cases h : v < 0
  · rw [if_pos h, decide_eq_true h]; rfl
  · rw [if_neg h, decide_eq_false h]; rfl
theorem mg_of {x : Int} (x0 : 0 ≤ x) (x1 : x < 340282366920938463463374607431768211456) : magV (hi x) (lo x) false = mgV x := by
  obtain ⟨e1, e2⟩ := V_mag x0 x1
  have h1 : mh x = hi x := by unfold mh u hi; omega
  show _ = magV (mh x) (ml x) (mo x)
  rw [h1, show ml x = lo x from rfl, e2]
set_option maxRecDepth 100000 in
set_option maxHeartbeats 2000000 in
theorem rshow_walk (a b p1 p0 : Int) (po neg : Bool) (t : List UInt8)
    (k1 : ∀ w, Calls Tryd.prog 42 #[.agg #[.int .i64 a, .int .u64 b]] w fun e w' => e = .returned (.tuple #[magV p1 p0 po, .bool neg]) ∧ Below w.heap.size w w')
    (k2 : ∀ w, Calls Tryd.prog 32 #[magV p1 p0 po, .bool neg] w fun e w' => e = .returned (.string ⟨t.toArray⟩) ∧ Below w.heap.size w w')
    (w : World) : Calls Tryd.prog 21 #[.agg #[.int .i64 a, .int .u64 b]] w fun e w' => e = .returned (.string ⟨t.toArray⟩) ∧ Below w.heap.size w w' := by
  go_enter Tryd.func21, Tryd.ntmps21
  go_wp2_with fail
  refine (k1 _).mono ?_
  rintro e w1 ⟨rfl, h1⟩
  have B1 : Below w.heap.size w w1 := Below.trans (by go_grown) (h1.mono (by first | (simp; done) | omega | (simp; omega)))
  have y1 := B1.size
  clear h1 k1
  go_wp2_with fail
  refine (k2 _).mono ?_
  rintro e w2 ⟨rfl, h2⟩
  have B2 : Below w.heap.size w w2 := Below.trans (by go_grown) (h2.mono (by first | (simp; done) | omega | (simp; omega)))
  have y2 := B2.size
  clear h2 k2 B1
  go_wp2_with fail
  go_returns
  exact ⟨rfl, by go_grown⟩
set_option maxRecDepth 100000 in
set_option maxHeartbeats 2000000 in
theorem rprint_walk (v p1 p0 : Int) (po neg : Bool) (t : List UInt8)
    (k1 : ∀ w, Calls Tryd.prog 31 #[.int .i64 v] w fun e w' => e = .returned (.tuple #[magV p1 p0 po, .bool neg]) ∧ Below w.heap.size w w')
    (k2 : ∀ w, Calls Tryd.prog 32 #[magV p1 p0 po, .bool neg] w fun e w' => e = .returned (.string ⟨t.toArray⟩) ∧ Below w.heap.size w w')
    (w : World) : Calls Tryd.prog 17 #[.int .i64 v] w fun e w' => e = .returned (.string ⟨t.toArray⟩) ∧ Below w.heap.size w w' := by
  go_enter Tryd.func17, Tryd.ntmps17
  go_wp2_with fail
  refine (k1 _).mono ?_
  rintro e w1 ⟨rfl, h1⟩
  have B1 : Below w.heap.size w w1 := Below.trans (by go_grown) (h1.mono (by first | (simp; done) | omega | (simp; omega)))
  have y1 := B1.size
  clear h1 k1
  go_wp2_with fail
  refine (k2 _).mono ?_
  rintro e w2 ⟨rfl, h2⟩
  have B2 : Below w.heap.size w w2 := Below.trans (by go_grown) (h2.mono (by first | (simp; done) | omega | (simp; omega)))
  have y2 := B2.size
  clear h2 k2 B1
  go_wp2_with fail
  go_returns
  exact ⟨rfl, by go_grown⟩
theorem mrshow_spec (a b : Int) (i : IsW (a, b)) (w : World) :
    Calls Tryd.prog 21 #[.agg #[.int .i64 a, .int .u64 b]] w fun e w' => e = .returned (.string ⟨(showT (V a b)).toArray⟩) ∧ Below w.heap.size w w' := by
  have f : Fits (V a b) := fits_V i.a i.b
  have al := ab_le f
  have k1 := ramount_spec a b i
  have k2 := rtext_mg (ab (V a b)) (decide (a < 0)) (by omega) (by omega)
  rw [neg_hi i] at k1 k2
  rw [mg_of (by omega) (by omega)] at k1
  rw [← show_sgn] at k2
  exact rshow_walk a b _ _ _ _ _ k1 k2 w
theorem mrprint_spec (v : Int) (j : IsHi v) (w : World) :
    Calls Tryd.prog 17 #[.int .i64 v] w fun e w' => e = .returned (.string ⟨(showT v).toArray⟩) ∧ Below w.heap.size w w' := by
  have k1 := rof_spec v j
  have al : 0 ≤ ab v ∧ ab v < 340282366920938463463374607431768211456 := by obtain ⟨_, _⟩ := j; unfold ab; split <;> omega
  have k2 := rtext_mg (ab v) (decide (v < 0)) al.1 al.2
  rw [← show_sgn] at k2
  exact rprint_walk v _ _ _ _ _ k1 k2 w
set_option maxRecDepth 100000 in
set_option maxHeartbeats 2000000 in
theorem mprints_walk (v : Int) (t : List UInt8)
    (k1 : ∀ w, Calls Tryd.prog 16 #[.int .i64 v] w fun e w' => e = .returned (.string ⟨t.toArray⟩) ∧ Below w.heap.size w w')
    (k2 : ∀ w, Calls Tryd.prog 17 #[.int .i64 v] w fun e w' => e = .returned (.string ⟨t.toArray⟩) ∧ Below w.heap.size w w')
    (w : World) : Calls Tryd.prog 4 #[.int .i64 v] w fun e w' => e = .returned (.bool true) ∧ Below w.heap.size w w' := by
  go_enter Tryd.func4, Tryd.ntmps4
  go_wp2_with fail
  refine (k1 _).mono ?_
  rintro e w1 ⟨rfl, h1⟩
  have B1 : Below w.heap.size w w1 := Below.trans (by go_grown) (h1.mono (by first | (simp; done) | omega | (simp; omega)))
  have y1 := B1.size
  clear h1 k1
  go_wp2_with fail
  refine (k2 _).mono ?_
  rintro e w2 ⟨rfl, h2⟩
  have B2 : Below w.heap.size w w2 := Below.trans (by go_grown) (h2.mono (by first | (simp; done) | omega | (simp; omega)))
  have y2 := B2.size
  clear h2 k2 B1
  go_wp2_with fail
  go_returns
  exact ⟨rfl, by go_grown⟩
theorem law_MicroPrints (v : Int) (wv : (Lit.int .i64 v).wf = true) (w : World) :
    Calls Tryd.prog 4 #[.int .i64 v] w fun e w' => e = .returned (.bool true) ∧ Below w.heap.size w w' :=
  mprints_walk v _ (mprint_spec v (hi_of_wf wv)) (mrprint_spec v (hi_of_wf wv)) w
set_option maxHeartbeats 4000000 in
theorem mshows_walk (a b : Int) (t : List UInt8)
    (k1 : ∀ w, Calls Tryd.prog 20 #[.agg #[.int .i64 a, .int .u64 b]] w fun e w' => e = .returned (.string ⟨t.toArray⟩) ∧ Below w.heap.size w w')
    (k2 : ∀ w, Calls Tryd.prog 21 #[.agg #[.int .i64 a, .int .u64 b]] w fun e w' => e = .returned (.string ⟨t.toArray⟩) ∧ Below w.heap.size w w') (w : World) :
    Calls Tryd.prog 6 #[.agg #[.int .i64 a, .int .u64 b]] w fun e w' => e = .returned (.bool true) ∧ Below w.heap.size w w' := by
  go_enter Tryd.func6, Tryd.ntmps6
  go_wp2_with fail
  refine abs_wp (fun W => W.cell? ⟨w.heap.size, 0, none⟩ = some (.int .i64 a) ∧ W.cell? ⟨w.heap.size, 1, none⟩ = some (.int .u64 b) ∧ w.heap.size < W.heap.size ∧ Below w.heap.size w W) ?_ ?_
  · refine ⟨?_, ?_, ?_, ?_⟩
    all_goals first | assumption | (go_grown; done) | (simp [go_sem]; done) | (simp; done) | (simp; omega)
  rintro W ⟨c0, c1, zW, BW⟩
  have K0 := Keeps.start (Nat.le_refl W.heap.size)
  have K1 := K0.drew
  have J0 : Keeps (W.heap.size) W W := Keeps.start (by omega)
  have J1 := J0.drew
  go_region_held3 (fun w' => w'.cell? ⟨w.heap.size, 0, none⟩ = some (.int .i64 a) ∧ w'.cell? ⟨w.heap.size, 1, none⟩ = some (.int .u64 b) ∧ Keeps (W.heap.size) W w') ((refine (fun K => ⟨Keeps.cell K c0 (by omega), Keeps.cell K c1 (by omega), K⟩) (?_ : Keeps (W.heap.size) W _); (repeat (first | assumption | refine Keeps.alloc ?_ _ | refine Keeps.drew ?_ | refine Keeps.setCell ?_ (by first | (simp; done) | omega | (simp; omega)) _))))
    (first
    | (go_at_call 20; (with_reducible refine (k1 _).mono ?_); rintro e v20 ⟨rfl, hb20⟩; have K20 := Keeps.call (B := W.heap.size) (W := W) (by repeat (first | assumption | refine Keeps.alloc ?_ _ | refine Keeps.drew ?_ | refine Keeps.setCell ?_ (by first | (simp; done) | omega | (simp; omega)) _)) hb20; have J20 : Keeps (W.heap.size) W v20 := ⟨K20.below.mono (by omega), by omega⟩)
    | (go_at_call 21; (with_reducible refine (k2 _).mono ?_); rintro e v21 ⟨rfl, hb21⟩; have K21 := Keeps.call (B := W.heap.size) (W := W) (by repeat (first | assumption | refine Keeps.alloc ?_ _ | refine Keeps.drew ?_ | refine Keeps.setCell ?_ (by first | (simp; done) | omega | (simp; omega)) _)) hb21; have J21 : Keeps (W.heap.size) W v21 := ⟨K21.below.mono (by omega), by omega⟩; have zz : w.heap.size < v21.heap.size := (by have := K21.size; omega)))
  all_goals
    have BE : Below w.heap.size w v21 := BW.trans (K21.below.mono BW.size)
    go_wp2_with fail
    go_returns
    refine ⟨rfl, ?_⟩
    repeat (first | exact Below.refl _ _ | assumption | refine Below.setCell ?_ (by first | (simp; done) | omega | (simp; omega)) _ | refine Below.drew ?_ | refine below_drewN ?_ _ | refine Below.alloc ?_ (by first | (simp; done) | omega | (simp; omega)) _)
theorem law_MicroShows (a0 b0 : Int) (wa0 : (Lit.int .i64 a0).wf = true) (wb0 : (Lit.int .u64 b0).wf = true) (w : World) :
    Calls Tryd.prog 6 #[.agg #[.int .i64 a0, .int .u64 b0]] w fun e w' => e = .returned (.bool true) ∧ Below w.heap.size w w' := by
  have i : IsW (a0, b0) := ⟨hi_of_wf wa0, lo_of_wf wb0⟩
  exact mshows_walk a0 b0 _ (show_spec a0 b0 i) (mrshow_spec a0 b0 i) w
end Go.Proofs.YtdjehbagnkfkpaaDoor
