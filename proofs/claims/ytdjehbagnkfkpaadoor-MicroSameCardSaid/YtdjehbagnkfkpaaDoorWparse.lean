/- wide: Parse. -/
import Derived.Test.YtdjehbagnkfkpaaDoorWread
import Derived.Test.YtdjehbagnkfkpaaDoorWsig
namespace Go.Proofs.YtdjehbagnkfkpaaDoor
set_option linter.unusedVariables false
set_option linter.unusedSimpArgs false
open Go.RowKit W
/-- What Parse answers of a sign and digits. -/
def parRes (neg : Bool) (d : ByteArray) : Ending := if plainB d && !(neg && d.toList == [48]) then sumRes (sg neg (wk d d.size : Nat)) else .returned (.tuple #[.agg #[.int .i64 0, .int .u64 0], .int .i64 12])
theorem parRes_no {neg : Bool} {d : ByteArray} (h : (plainB d && !(neg && d.toList == [48])) = false) : parRes neg d = .returned (.tuple #[.agg #[.int .i64 0, .int .u64 0], .int .i64 12]) := by
  unfold parRes; rw [h]; rfl
theorem parRes_yes {neg : Bool} {d : ByteArray} (h : (plainB d && !(neg && d.toList == [48])) = true) : parRes neg d = sumRes (sg neg (wk d d.size : Nat)) := by
  unfold parRes; rw [h]; rfl
theorem over_sg (neg : Bool) {n : Nat} (h : ¬ n < 340282366920938463463374607431768211456) : sumRes (sg neg (n : Nat)) = .returned (.tuple #[.agg #[.int .i64 0, .int .u64 0], .int .i64 10]) := by
  have f : ¬ Fits (sg neg (n : Nat)) := by
    rintro ⟨a, b⟩
    cases neg
    · rw [sg_f] at a b; omega
    · rw [sg_t] at a b; omega
  unfold sumRes
  rw [resV_not f, resE_not f]; rfl
theorem plain_digits {d : ByteArray} (h : plainB d = true) : ∀ j (hj : j < d.size), Dc.isD d[j] = true := by
  intro j hj
  unfold plainB allD at h
  simp only [Bool.and_eq_true] at h
  have := List.all_eq_true.1 h.2
  refine this _ ?_
  rw [ByteArray.toList_eq]
  have hl : j < d.data.toList.length := by simpa using hj
  exact List.mem_iff_getElem.2 ⟨j, hl, rfl⟩
set_option maxRecDepth 100000 in
set_option maxHeartbeats 8000000 in
theorem parse_neg (s : ByteArray) (w : World) (hs : s.size ≤ 140737488355328) (h0 : 0 < s.size) (n1 : ¬ s.toList = []) (n2 : s.toList.isEmpty = false) (z : (s[0].toNat : Int) = 45) :
    Calls Tryd.prog 38 #[.string s] w fun e w' => e = parRes true (s.extract 1 s.size) ∧ Below w.heap.size w w' := by
  have hd : (s.extract 1 s.size).size ≤ 140737488355328 := by simp only [ByteArray.size_extract]; omega
  have kp := fun w' => plain_spec (s.extract 1 s.size) w' hd
  by_cases pl : plainB (s.extract 1 s.size) = true
  · have kr := fun w' => read_spec (s.extract 1 s.size) w' hd (plain_digits pl)
    rw [pl] at kp
    by_cases one : ((s.extract 1 s.size).toList == [48]) = true
    · have F := hide (parRes_no (neg := true) (d := s.extract 1 s.size) (by rw [pl, one]; rfl))
      clear kr
      go_enter Tryd.func38, Tryd.ntmps38
      go_wp2_with fail
      refine (kp _).mono ?_
      rintro e w1 ⟨rfl, rfl⟩
      go_wp2_with fail
      go_returns
      exact ⟨F.out.symm, by go_grown⟩
    · have one : ((s.extract 1 s.size).toList == [48]) = false := by simpa using one
      have PY := parRes_yes (neg := true) (d := s.extract 1 s.size) (by rw [pl, one]; rfl)
      by_cases lim : wk (s.extract 1 s.size) (s.extract 1 s.size).size < 340282366920938463463374607431768211456
      · obtain ⟨M, hM⟩ : ∃ M : Int, M = (wk (s.extract 1 s.size) (s.extract 1 s.size).size : Nat) := ⟨_, rfl⟩
        have ks := fun w' => signed_any true (hi M) (lo M) ⟨by unfold hi; omega, by unfold hi; omega⟩ (isLo_lo M) w'
        rw [V_hi_lo] at ks
        rw [rdRes_yes lim, ← hM] at kr
        rw [← hM] at PY
        obtain ⟨x1, e1⟩ : ∃ q, q = hi (resV (sg true M)) := ⟨_, rfl⟩
        obtain ⟨x0, e0⟩ : ∃ q, q = lo (resV (sg true M)) := ⟨_, rfl⟩
        obtain ⟨x2, e2⟩ : ∃ q, q = resE (sg true M) := ⟨_, rfl⟩
        unfold sumRes at ks PY
        rw [← e1, ← e0, ← e2] at ks PY
        have F := hide PY
        clear PY hM lim e1 e0 e2
        generalize lo M = y0 at *
        generalize hi M = y1 at *
        go_enter Tryd.func38, Tryd.ntmps38
        go_wp2_with fail
        refine (kp _).mono ?_
        rintro e w1 ⟨rfl, rfl⟩
        go_wp2_with fail
        refine (kr _).mono ?_
        rintro e w2 ⟨rfl, h2⟩
        have H2 : Hid (Below w.heap.size w w2) := hide (Below.trans (by go_grown) (h2.mono (by simp)))
        obtain ⟨r0, r1, g0, g1, lt⟩ : w2.cell? ⟨w.heap.size, 0, none⟩ = some (.int .i64 0) ∧ w2.cell? ⟨w.heap.size, 1, none⟩ = some (.int .u64 0) ∧ w2.frozen? ⟨w.heap.size, 0, none⟩ = false ∧ w2.frozen? ⟨w.heap.size, 1, none⟩ = false ∧ w.heap.size < w2.heap.size := by
          obtain ⟨a, b, c⟩ := live (.int .i64 0) h2 w.heap.size 0 (by simp) (by simp [go_sem]) (by simp [go_sem])
          obtain ⟨a', b', c'⟩ := live (.int .u64 0) h2 w.heap.size 1 (by simp) (by simp [go_sem]) (by simp [go_sem])
          exact ⟨a, a', b, b', c⟩
        clear h2
        go_wp2_with fail
        refine (ks _).mono ?_
        clear ks kr kp
        rintro e w3 ⟨rfl, h3⟩
        have H3 : Hid (Below w.heap.size w w3) := hide (Below.trans (H2.out.alloc (by first | exact Nat.le_refl _ | omega) _) (h3.mono (by first | (simp; done) | (simp; omega))))
        obtain ⟨q0, q1, f0, f1, lt3⟩ : w3.cell? ⟨w.heap.size, 0, none⟩ = some (.int .i64 0) ∧ w3.cell? ⟨w.heap.size, 1, none⟩ = some (.int .u64 0) ∧ w3.frozen? ⟨w.heap.size, 0, none⟩ = false ∧ w3.frozen? ⟨w.heap.size, 1, none⟩ = false ∧ w.heap.size < w3.heap.size := by
          obtain ⟨a, b, c⟩ := live (.int .i64 0) h3 w.heap.size 0 (by simp; omega) (by simp [go_sem, r0, lt]) (by simp [go_sem, g0, lt])
          obtain ⟨a', b', c'⟩ := live (.int .u64 0) h3 w.heap.size 1 (by simp; omega) (by simp [go_sem, r1, lt]) (by simp [go_sem, g1, lt])
          exact ⟨a, a', b, b', c⟩
        clear h3 r0 r1 g0 g1 lt
        go_wp2_with fail
        refine bodyPost_ret (by simp [results, Tryd.results38, go_sem, q0, q1, lt3]; try rfl) rfl ?_
        refine ⟨F.out.symm, ?_⟩
        repeat (first | exact H3.out | refine Below.setCell ?_ (by first | (simp; done) | omega | (simp; omega)) _ | refine Below.drew ?_ | refine below_drewN ?_ _ | refine Below.alloc ?_ (by first | (simp; done) | omega | (simp; omega)) _)
      · rw [rdRes_no lim] at kr
        rw [over_sg true lim] at PY
        have F := hide PY
        clear PY lim
        go_enter Tryd.func38, Tryd.ntmps38
        go_wp2_with fail
        refine (kp _).mono ?_
        rintro e w1 ⟨rfl, rfl⟩
        go_wp2_with fail
        refine (kr _).mono ?_
        rintro e w2 ⟨rfl, h2⟩
        have H2 : Hid (Below w.heap.size w w2) := hide (Below.trans (by go_grown) (h2.mono (by simp)))
        obtain ⟨r0, r1, g0, g1, lt⟩ : w2.cell? ⟨w.heap.size, 0, none⟩ = some (.int .i64 0) ∧ w2.cell? ⟨w.heap.size, 1, none⟩ = some (.int .u64 0) ∧ w2.frozen? ⟨w.heap.size, 0, none⟩ = false ∧ w2.frozen? ⟨w.heap.size, 1, none⟩ = false ∧ w.heap.size < w2.heap.size := by
          obtain ⟨a, b, c⟩ := live (.int .i64 0) h2 w.heap.size 0 (by simp) (by simp [go_sem]) (by simp [go_sem])
          obtain ⟨a', b', c'⟩ := live (.int .u64 0) h2 w.heap.size 1 (by simp) (by simp [go_sem]) (by simp [go_sem])
          exact ⟨a, a', b, b', c⟩
        clear h2
        go_wp2_with fail
        refine bodyPost_ret (by simp [results, Tryd.results38, go_sem, r0, r1, lt]; try rfl) rfl ?_
        refine ⟨F.out.symm, ?_⟩
        repeat (first | exact H2.out | refine Below.setCell ?_ (by first | (simp; done) | omega | (simp; omega)) _ | refine Below.drew ?_ | refine below_drewN ?_ _ | refine Below.alloc ?_ (by first | (simp; done) | omega | (simp; omega)) _)
  · have pl : plainB (s.extract 1 s.size) = false := by simpa using pl
    have F := hide (parRes_no (neg := true) (d := s.extract 1 s.size) (by rw [pl]; rfl))
    rw [pl] at kp
    go_enter Tryd.func38, Tryd.ntmps38
    go_wp2_with fail
    refine (kp _).mono ?_
    rintro e w1 ⟨rfl, rfl⟩
    go_wp2_with fail
    go_returns
    exact ⟨F.out.symm, by go_grown⟩
set_option maxRecDepth 100000 in
set_option maxHeartbeats 8000000 in
theorem parse_pos (s : ByteArray) (w : World) (hs : s.size ≤ 140737488355328) (h0 : 0 < s.size) (n1 : ¬ s.toList = []) (n2 : s.toList.isEmpty = false) (z : ¬ (s[0].toNat : Int) = 45) :
    Calls Tryd.prog 38 #[.string s] w fun e w' => e = parRes false (s) ∧ Below w.heap.size w w' := by
  have hd := hs
  have kp := fun w' => plain_spec s w' hd
  by_cases pl : plainB s = true
  · have kr := fun w' => read_spec s w' hd (plain_digits pl)
    rw [pl] at kp
    have PY := parRes_yes (neg := false) (d := s) (by rw [pl]; rfl)
    by_cases lim : wk s s.size < 340282366920938463463374607431768211456
    · obtain ⟨M, hM⟩ : ∃ M : Int, M = (wk s s.size : Nat) := ⟨_, rfl⟩
      have ks := fun w' => signed_any false (hi M) (lo M) ⟨by unfold hi; omega, by unfold hi; omega⟩ (isLo_lo M) w'
      rw [V_hi_lo] at ks
      rw [rdRes_yes lim, ← hM] at kr
      rw [← hM] at PY
      obtain ⟨x1, e1⟩ : ∃ q, q = hi (resV (sg false M)) := ⟨_, rfl⟩
      obtain ⟨x0, e0⟩ : ∃ q, q = lo (resV (sg false M)) := ⟨_, rfl⟩
      obtain ⟨x2, e2⟩ : ∃ q, q = resE (sg false M) := ⟨_, rfl⟩
      unfold sumRes at ks PY
      rw [← e1, ← e0, ← e2] at ks PY
      have F := hide PY
      clear PY hM lim e1 e0 e2
      generalize lo M = y0 at *
      generalize hi M = y1 at *
      go_enter Tryd.func38, Tryd.ntmps38
      go_wp2_with fail
      refine (kp _).mono ?_
      rintro e w1 ⟨rfl, rfl⟩
      go_wp2_with fail
      refine (kr _).mono ?_
      rintro e w2 ⟨rfl, h2⟩
      have H2 : Hid (Below w.heap.size w w2) := hide (Below.trans (by go_grown) (h2.mono (by simp)))
      obtain ⟨r0, r1, g0, g1, lt⟩ : w2.cell? ⟨w.heap.size, 0, none⟩ = some (.int .i64 0) ∧ w2.cell? ⟨w.heap.size, 1, none⟩ = some (.int .u64 0) ∧ w2.frozen? ⟨w.heap.size, 0, none⟩ = false ∧ w2.frozen? ⟨w.heap.size, 1, none⟩ = false ∧ w.heap.size < w2.heap.size := by
        obtain ⟨a, b, c⟩ := live (.int .i64 0) h2 w.heap.size 0 (by simp) (by simp [go_sem]) (by simp [go_sem])
        obtain ⟨a', b', c'⟩ := live (.int .u64 0) h2 w.heap.size 1 (by simp) (by simp [go_sem]) (by simp [go_sem])
        exact ⟨a, a', b, b', c⟩
      clear h2
      go_wp2_with fail
      refine (ks _).mono ?_
      clear ks kr kp
      rintro e w3 ⟨rfl, h3⟩
      have H3 : Hid (Below w.heap.size w w3) := hide (Below.trans (H2.out.alloc (by first | exact Nat.le_refl _ | omega) _) (h3.mono (by first | (simp; done) | (simp; omega))))
      obtain ⟨q0, q1, f0, f1, lt3⟩ : w3.cell? ⟨w.heap.size, 0, none⟩ = some (.int .i64 0) ∧ w3.cell? ⟨w.heap.size, 1, none⟩ = some (.int .u64 0) ∧ w3.frozen? ⟨w.heap.size, 0, none⟩ = false ∧ w3.frozen? ⟨w.heap.size, 1, none⟩ = false ∧ w.heap.size < w3.heap.size := by
        obtain ⟨a, b, c⟩ := live (.int .i64 0) h3 w.heap.size 0 (by simp; omega) (by simp [go_sem, r0, lt]) (by simp [go_sem, g0, lt])
        obtain ⟨a', b', c'⟩ := live (.int .u64 0) h3 w.heap.size 1 (by simp; omega) (by simp [go_sem, r1, lt]) (by simp [go_sem, g1, lt])
        exact ⟨a, a', b, b', c⟩
      clear h3 r0 r1 g0 g1 lt
      go_wp2_with fail
      refine bodyPost_ret (by simp [results, Tryd.results38, go_sem, q0, q1, lt3]; try rfl) rfl ?_
      refine ⟨F.out.symm, ?_⟩
      repeat (first | exact H3.out | refine Below.setCell ?_ (by first | (simp; done) | omega | (simp; omega)) _ | refine Below.drew ?_ | refine below_drewN ?_ _ | refine Below.alloc ?_ (by first | (simp; done) | omega | (simp; omega)) _)
    · rw [rdRes_no lim] at kr
      rw [over_sg false lim] at PY
      have F := hide PY
      clear PY lim
      go_enter Tryd.func38, Tryd.ntmps38
      go_wp2_with fail
      refine (kp _).mono ?_
      rintro e w1 ⟨rfl, rfl⟩
      go_wp2_with fail
      refine (kr _).mono ?_
      rintro e w2 ⟨rfl, h2⟩
      have H2 : Hid (Below w.heap.size w w2) := hide (Below.trans (by go_grown) (h2.mono (by simp)))
      obtain ⟨r0, r1, g0, g1, lt⟩ : w2.cell? ⟨w.heap.size, 0, none⟩ = some (.int .i64 0) ∧ w2.cell? ⟨w.heap.size, 1, none⟩ = some (.int .u64 0) ∧ w2.frozen? ⟨w.heap.size, 0, none⟩ = false ∧ w2.frozen? ⟨w.heap.size, 1, none⟩ = false ∧ w.heap.size < w2.heap.size := by
        obtain ⟨a, b, c⟩ := live (.int .i64 0) h2 w.heap.size 0 (by simp) (by simp [go_sem]) (by simp [go_sem])
        obtain ⟨a', b', c'⟩ := live (.int .u64 0) h2 w.heap.size 1 (by simp) (by simp [go_sem]) (by simp [go_sem])
        exact ⟨a, a', b, b', c⟩
      clear h2
      go_wp2_with fail
      refine bodyPost_ret (by simp [results, Tryd.results38, go_sem, r0, r1, lt]; try rfl) rfl ?_
      refine ⟨F.out.symm, ?_⟩
      repeat (first | exact H2.out | refine Below.setCell ?_ (by first | (simp; done) | omega | (simp; omega)) _ | refine Below.drew ?_ | refine below_drewN ?_ _ | refine Below.alloc ?_ (by first | (simp; done) | omega | (simp; omega)) _)
  · have pl : plainB s = false := by simpa using pl
    have F := hide (parRes_no (neg := false) (d := s) (by rw [pl]; rfl))
    rw [pl] at kp
    go_enter Tryd.func38, Tryd.ntmps38
    go_wp2_with fail
    refine (kp _).mono ?_
    rintro e w1 ⟨rfl, rfl⟩
    go_wp2_with fail
    go_returns
    exact ⟨F.out.symm, by go_grown⟩
set_option maxRecDepth 100000 in
theorem parse_none (w : World) : Calls Tryd.prog 38 #[.string ⟨#[]⟩] w fun e w' => e = parRes false ⟨#[]⟩ ∧ Below w.heap.size w w' := by
  have q : plainB ⟨#[]⟩ = false := by unfold plainB; rw [show (⟨#[]⟩ : ByteArray).toList = [] from ByteArray.toList_mk []]; rfl
  have kp := fun w' => plain_empty w'
  have F := hide (parRes_no (neg := false) (d := ⟨#[]⟩) (by rw [q]; rfl))
  clear q
  go_enter Tryd.func38, Tryd.ntmps38
  go_wp2_with fail
  refine (kp _).mono ?_
  rintro e w1 ⟨rfl, rfl⟩
  go_wp2_with fail
  go_returns
  exact ⟨F.out.symm, by go_grown⟩
/-- A sign ahead, and the digits. -/
def isNeg (s : ByteArray) : Bool := s.toList.head? == some 45
def digOf (s : ByteArray) : ByteArray := if isNeg s then s.extract 1 s.size else s
theorem parse_spec (s : ByteArray) (w : World) (hs : s.size ≤ 140737488355328) :
    Calls Tryd.prog 38 #[.string s] w fun e w' => e = parRes (isNeg s) (digOf s) ∧ Below w.heap.size w w' := by
  by_cases h0 : s.size = 0
  · have e : s = ⟨#[]⟩ := by
      obtain ⟨d⟩ := s
      have : d.size = 0 := h0
      rw [Array.eq_empty_of_size_eq_zero this]
    subst e
    have q : isNeg ⟨#[]⟩ = false := by unfold isNeg; rw [show (⟨#[]⟩ : ByteArray).toList = [] from ByteArray.toList_mk []]; rfl
    unfold digOf
    rw [q]
    exact parse_none w
  · have hl : s.toList.length = s.size := by rw [ByteArray.toList_eq]; simp
    have n1 : ¬ s.toList = [] := fun e => by rw [e] at hl; simp at hl; omega
    have n2 : s.toList.isEmpty = false := by simpa using n1
    have hh : s.toList.head? = some (s[0]'(by omega)) := by
      rw [ByteArray.toList_eq, List.head?_eq_getElem?, List.getElem?_eq_getElem (by rw [ByteArray.toList_eq] at hl; omega)]; rfl
    by_cases z : ((s[0]'(by omega)).toNat : Int) = 45
    · have z' : s[0]'(by omega) = 45 := UInt8.toNat_inj.1 (by show _ = 45; omega)
      have q : isNeg s = true := by unfold isNeg; rw [hh, z']; rfl
      unfold digOf
      rw [q]
      exact parse_neg s w hs (by omega) n1 n2 z
    · have z' : ¬ s[0]'(by omega) = 45 := fun e => z (by rw [e]; rfl)
      have q : isNeg s = false := by unfold isNeg; rw [hh]; simpa using z'
      unfold digOf
      rw [q]
      exact parse_pos s w hs (by omega) n1 n2 z
end Go.Proofs.YtdjehbagnkfkpaaDoor
