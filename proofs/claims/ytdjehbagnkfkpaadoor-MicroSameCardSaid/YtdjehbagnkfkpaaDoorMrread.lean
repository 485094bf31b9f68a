/- The reference of layer 2: Read, Parse; MicroReads, MicroParses. (gen_mrread.py) -/
import Derived.Test.YtdjehbagnkfkpaaDoorMtaken
namespace Go.Proofs.YtdjehbagnkfkpaaDoor
set_option linter.unusedVariables false
set_option linter.unusedSimpArgs false
open Go.RowKit W
theorem str_eta (x : ByteArray) : x = ⟨x.data.toList.toArray⟩ := by apply ByteArray.ext; simp
theorem sgn_head (s : ByteArray) (h : 0 < s.size) : sgnB s.data.toList = (s[0] == 45) := by
  unfold sgnB Lib.hasPrefix
  have hl : 0 < s.data.toList.length := by simpa using h
  have e : s.data.toList = (s[0]'h) :: s.data.toList.drop 1 := List.drop_eq_getElem_cons hl
  rw [e]
  show ((45 : UInt8) == (s[0]'h) && true) = _
  rw [Bool.and_true]
  by_cases g : s[0] = 45
  · rw [g]
  · rw [beq_eq_false_iff_ne.2 g, beq_eq_false_iff_ne.2 (fun q => g q.symm)]
theorem rtake_spec (s : ByteArray) (w : World) (hs : s.size ≤ 140737488355328) :
    Calls Tryd.prog 49 #[.string s] w fun e w' => ∃ v f : List UInt8, e = .returned (.tuple #[.agg #[.bool (sgnB s.data.toList), .string ⟨v.toArray⟩, .string ⟨f.toArray⟩], .bool (okB (amt s.data.toList))]) ∧ (okB (amt s.data.toList) = true → v = cutW (amt s.data.toList) ∧ f = cutF (amt s.data.toList)) ∧ Below w.heap.size w w' := by
  have fin : ∀ (neg : Bool) (a : Nat), a ≤ s.size → sgnB s.data.toList = neg → amt s.data.toList = s.data.toList.drop a → ∀ e w', takeP w neg s a e w' → ∃ v f : List UInt8, e = .returned (.tuple #[.agg #[.bool (sgnB s.data.toList), .string ⟨v.toArray⟩, .string ⟨f.toArray⟩], .bool (okB (amt s.data.toList))]) ∧ (okB (amt s.data.toList) = true → v = cutW (amt s.data.toList) ∧ f = cutF (amt s.data.toList)) ∧ Below w.heap.size w w' := by
    intro neg a ha h1 h2 e w' h
    obtain ⟨b1, b2⟩ := bridge s a ha
    obtain ⟨rfl, hb⟩ := h
    rw [h1, h2]
    refine ⟨(takeV s a).data.toList, (takeF s a).data.toList, ?_, fun q => b2 (b1.trans q), hb⟩
    rw [b1, ← str_eta, ← str_eta]
  by_cases h0 : s.size = 0
  · have e : s = ⟨#[]⟩ := by
      obtain ⟨d⟩ := s
      have : d.size = 0 := h0
      rw [Array.eq_empty_of_size_eq_zero this]
    subst e
    exact (take_empty w).mono fun e w' h => fin false 0 (Nat.zero_le _) rfl rfl e w' h
  · have hp : 0 < s.size := by omega
    have sh := sgn_head s hp
    by_cases z : s[0] = 45
    · rw [z] at sh
      have am : amt s.data.toList = s.data.toList.drop 1 := by
        unfold amt Lib.trimPrefix
        rw [show Lib.hasPrefix s.data.toList [45] = true from sh]; rfl
      exact (take_neg s w hs hp (by rw [z]; rfl)).mono fun e w' h => fin true 1 (by omega) sh am e w' h
    · rw [beq_eq_false_iff_ne.2 z] at sh
      have am : amt s.data.toList = s.data.toList.drop 0 := by
        unfold amt Lib.trimPrefix
        rw [show Lib.hasPrefix s.data.toList [45] = false from sh]; rfl
      exact (take_pos s w hs hp (by rw [beq_eq_false_iff_ne]; intro q; exact z (UInt8.toNat_inj.1 (by show _ = 45; omega)))).mono fun e w' h => fin false 0 (by omega) sh am e w' h
/-- What Parse answers of a number. -/
def parE (n : Int) : Ending := if -1000000000000000 ≤ n ∧ n ≤ 1000000000000000 then .returned (.tuple #[.int .i64 n, .int .i64 0]) else .returned (.tuple #[.int .i64 0, .int .i64 22])
/-- The digits of a decimal, six behind the point. -/
def allOf (A : List UInt8) : List UInt8 := cutW A ++ cutF A ++ List.replicate (6 - (cutF A).length) 48
theorem calls_ex {f : FuncId} {args : Array Value} {w : World} {α : Type} {P : α → Ending → World → Prop} (h : Calls Tryd.prog f args w fun e w' => ∃ x, P x e w') : Calls Tryd.prog f args w fun e w' => ∃ x, P x e w' := h
set_option maxRecDepth 100000 in
set_option maxHeartbeats 4000000 in
theorem rread_err (s : ByteArray) (er : Int) (h : (er != 0) = true)
    (k1 : ∀ w, Calls Tryd.prog 28 #[.string s] w fun e w' => e = .returned (.tuple #[.agg #[.int .u64 0, .int .u64 0, .bool false], .bool false, .int .i64 er]) ∧ Below w.heap.size w w')
    (w : World) : Calls Tryd.prog 19 #[.string s] w fun e w' => e = .returned (.tuple #[.agg #[.int .i64 0, .int .u64 0], .int .i64 er]) ∧ Below w.heap.size w w' := by
  go_enter Tryd.func19, Tryd.ntmps19
  go_wp2_with fail
  refine (k1 _).mono ?_
  rintro e w1 ⟨rfl, h1⟩
  have B1 : Below w.heap.size w w1 := Below.trans (by go_grown) (h1.mono (by first | (simp; done) | omega | (simp; omega)))
  have y1 := B1.size
  have A0 := box2 h1 (w.heap.size) (.int .i64 0) (.int .u64 0) (by first | assumption | (simp [go_sem]; done) | (simp [go_sem]; done)) (by first | assumption | (simp [go_sem]; done) | (simp [go_sem]; done)) (by first | assumption | (simp [go_sem]; done) | (simp [go_sem]; done)) (by first | assumption | (simp [go_sem]; done) | (simp [go_sem]; done)) (by first | assumption | omega | (simp; done) | (simp; omega))
  obtain ⟨A0c0, A0c1, A0f0, A0f1, A0z⟩ := A0
  (try (have m1_0 : ¬ w.heap.size = w1.heap.size := by omega)); (try (have m1_0' : ¬ w1.heap.size = w.heap.size := by omega))
  clear h1 k1
  go_wp2_with fail
  refine bodyPost_ret (by simp [results, Tryd.results19, go_sem, A0c0, A0c1, A0z]; try rfl) rfl ?_
  exact ⟨rfl, by go_grown⟩
set_option maxRecDepth 100000 in
set_option maxHeartbeats 4000000 in
theorem rparse_err (s : ByteArray) (er : Int) (h : (er != 0) = true)
    (k1 : ∀ w, Calls Tryd.prog 28 #[.string s] w fun e w' => e = .returned (.tuple #[.agg #[.int .u64 0, .int .u64 0, .bool false], .bool false, .int .i64 er]) ∧ Below w.heap.size w w')
    (w : World) : Calls Tryd.prog 14 #[.string s] w fun e w' => e = .returned (.tuple #[.int .i64 0, .int .i64 er]) ∧ Below w.heap.size w w' := by
  go_enter Tryd.func14, Tryd.ntmps14
  go_wp2_with fail
  refine (k1 _).mono ?_
  rintro e w1 ⟨rfl, h1⟩
  have B1 : Below w.heap.size w w1 := Below.trans (by go_grown) (h1.mono (by first | (simp; done) | omega | (simp; omega)))
  have y1 := B1.size
  (try (have m1_0 : ¬ w.heap.size = w1.heap.size := by omega)); (try (have m1_0' : ¬ w1.heap.size = w.heap.size := by omega))
  clear h1 k1
  go_wp2_with fail
  go_returns
  exact ⟨rfl, by go_grown⟩
set_option maxRecDepth 100000 in
set_option maxHeartbeats 4000000 in
theorem taken_bad2 (s : ByteArray) (neg : Bool)
    (k1 : ∀ w, Calls Tryd.prog 49 #[.string s] w fun e w' => ∃ v f : List UInt8, e = .returned (.tuple #[.agg #[.bool neg, .string ⟨v.toArray⟩, .string ⟨f.toArray⟩], .bool false]) ∧ Below w.heap.size w w')
    (w : World) : Calls Tryd.prog 28 #[.string s] w fun e w' => e = .returned (.tuple #[.agg #[.int .u64 0, .int .u64 0, .bool false], .bool false, .int .i64 20]) ∧ Below w.heap.size w w' := by
  go_enter Tryd.func28, Tryd.ntmps28
  go_wp2_with fail
  refine (k1 _).mono ?_
  rintro e w1 ⟨v, f, rfl, h1⟩
  have B1 : Below w.heap.size w w1 := Below.trans (by go_grown) (h1.mono (by first | (simp; done) | omega | (simp; omega)))
  have y1 := B1.size
  have A0 := box3 h1 (w.heap.size) (.int .u64 0) (.int .u64 0) (.bool false) (by first | assumption | (simp [go_sem]; done) | (simp [go_sem]; done)) (by first | assumption | (simp [go_sem]; done) | (simp [go_sem]; done)) (by first | assumption | (simp [go_sem]; done) | (simp [go_sem]; done)) (by first | assumption | (simp [go_sem]; done) | (simp [go_sem]; done)) (by first | assumption | (simp [go_sem]; done) | (simp [go_sem]; done)) (by first | assumption | (simp [go_sem]; done) | (simp [go_sem]; done)) (by first | assumption | omega | (simp; done) | (simp; omega))
  obtain ⟨A0c0, A0c1, A0c2, A0f0, A0f1, A0f2, A0z⟩ := A0
  (try (have m1_0 : ¬ w.heap.size = w1.heap.size := by omega)); (try (have m1_0' : ¬ w1.heap.size = w.heap.size := by omega))
  clear h1 k1
  go_wp2_with fail
  refine bodyPost_ret (by simp [results, Tryd.results28, go_sem, A0c0, A0c1, A0c2, A0z]; try rfl) rfl ?_
  exact ⟨rfl, by go_grown⟩
/-- taken, in the three cases: at every world. -/
theorem taken_bad' (s : ByteArray) (hs : s.size ≤ 140737488351232) (h : okB (amt s.data.toList) = false) (w : World) :
    Calls Tryd.prog 28 #[.string s] w fun e w' => e = .returned (.tuple #[.agg #[.int .u64 0, .int .u64 0, .bool false], .bool false, .int .i64 20]) ∧ Below w.heap.size w w' := by
  have k := fun w => rtake_spec s w (by omega)
  rw [h] at k
  exact taken_bad2 s (sgnB s.data.toList) (fun w => (k w).mono fun e w' ⟨v, f, e1, _, b⟩ => ⟨v, f, e1, b⟩) w
theorem taken_fine' (s : ByteArray) (hs : s.size ≤ 140737488351232) (h : okB (amt s.data.toList) = true) (h6 : 6 < (cutF (amt s.data.toList)).length) (w : World) :
    Calls Tryd.prog 28 #[.string s] w fun e w' => e = .returned (.tuple #[.agg #[.int .u64 0, .int .u64 0, .bool false], .bool false, .int .i64 21]) ∧ Below w.heap.size w w' := by
  have k := fun w => rtake_spec s w (by omega)
  refine taken_fine s (cutW (amt s.data.toList)) (cutF (amt s.data.toList)) (sgnB s.data.toList) h6 (fun w => (k w).mono fun e w' ⟨v, f, e1, e2, b⟩ => ?_) w
  obtain ⟨rfl, rfl⟩ := e2 h
  rw [h] at e1
  exact ⟨e1, b⟩
theorem taken_some' (s : ByteArray) (hs : s.size ≤ 140737488351232) (h : okB (amt s.data.toList) = true) (h6 : ¬ 6 < (cutF (amt s.data.toList)).length) (w : World) :
    Calls Tryd.prog 28 #[.string s] w (takenP w (allOf (amt s.data.toList)) (sgnB s.data.toList)) := by
  have k := fun w => rtake_spec s w (by omega)
  have cl := cut_len (amt s.data.toList)
  have al := amt_len s.data.toList
  have sl : s.data.toList.length = s.size := by simp
  refine taken_some s (cutW (amt s.data.toList)) (cutF (amt s.data.toList)) _ (sgnB s.data.toList) h6 (fun w => (k w).mono fun e w' ⟨v, f, e1, e2, b⟩ => ?_) (fun w => worth_spec (sgnB s.data.toList) _ _ (by omega) (by omega) (okB_V h) (okB_F h) w) w
  obtain ⟨rfl, rfl⟩ := e2 h
  rw [h] at e1
  exact ⟨e1, b⟩
set_option maxHeartbeats 1000000 in
theorem okB_read (l : List UInt8) : (digB (cutW (amt l)) && (!cutP (amt l) || digB (cutF (amt l)))) = okB (amt l) := rfl
theorem worthOf_all (A : List UInt8) : worthOf (cutW A) (cutF A) = Dc.worth (allOf A) := rfl
theorem fits_wat {l : List UInt8} {y : Int} {neg : Bool} (h : WAt l l.length y) : (Fits (sg neg y) ↔ Fits (sg neg (Dc.worth l : Nat))) ∧ (Fits (sg neg y) → y = (Dc.worth l : Nat)) := by
  obtain ⟨y0, h⟩ := h
  rw [List.take_length] at h
  rcases h with ⟨a, b⟩ | ⟨a, b⟩
  · rw [b]; exact ⟨Iff.rfl, fun _ => rfl⟩
  · have n : ∀ z : Int, 340282366920938463463374607431768211456 ≤ z → ¬ Fits (sg neg z) := by
      intro z hz
      rintro ⟨c, d⟩
      cases neg
      · rw [sg_f] at c d; omega
      · rw [sg_t] at c d; omega
    have n1 := n y a
    have n2 := n _ (show (340282366920938463463374607431768211456 : Int) ≤ ((Dc.worth l : Nat) : Int) by omega)
    exact ⟨⟨fun q => absurd q n1, fun q => absurd q n2⟩, fun q => absurd q n1⟩
set_option maxRecDepth 100000 in
set_option maxHeartbeats 8000000 in
theorem rread_of (s : ByteArray) (l : List UInt8) (neg : Bool)
    (k1 : ∀ w, Calls Tryd.prog 28 #[.string s] w (takenP w l neg))
    (w : World) : Calls Tryd.prog 19 #[.string s] w fun e w' => e = sumRes (sg neg (Dc.worth l : Nat)) ∧ Below w.heap.size w w' := by
  go_enter Tryd.func19, Tryd.ntmps19
  go_wp2_with fail
  refine (k1 _).mono ?_
  rintro e w1 ⟨y, wa, rfl, h1⟩
  have B1 : Below w.heap.size w w1 := Below.trans (by go_grown) (h1.mono (by first | (simp; done) | omega | (simp; omega)))
  have y1 := B1.size
  have A0 := box2 h1 (w.heap.size) (.int .i64 0) (.int .u64 0) (by first | assumption | (simp [go_sem]; done) | (simp [go_sem]; done)) (by first | assumption | (simp [go_sem]; done) | (simp [go_sem]; done)) (by first | assumption | (simp [go_sem]; done) | (simp [go_sem]; done)) (by first | assumption | (simp [go_sem]; done) | (simp [go_sem]; done)) (by first | assumption | omega | (simp; done) | (simp; omega))
  obtain ⟨A0c0, A0c1, A0f0, A0f1, A0z⟩ := A0
  (try (have m1_0 : ¬ w.heap.size = w1.heap.size := by omega)); (try (have m1_0' : ¬ w1.heap.size = w.heap.size := by omega))
  clear h1 k1
  have k2 := rsig_mg y neg wa.1
  obtain ⟨f1, f2⟩ := fits_wat (neg := neg) wa
  by_cases f : Fits (sg neg y)
  · have F := hide (show sumRes (sg neg (Dc.worth l : Nat)) = .returned (.tuple #[.agg #[.int .i64 (hi (sg neg y)), .int .u64 (lo (sg neg y))], .int .i64 0]) by
      rw [← f2 f]; unfold sumRes; rw [resV_fits f, resE_fits f])
    rw [sigRes_yes f] at k2
    unfold mgV at k2 ⊢
    clear f f1 f2 wa
    generalize hi (sg neg y) = x1 at *
    generalize lo (sg neg y) = x0 at *
    generalize mh y = p1 at *
    generalize ml y = p0 at *
    generalize mo y = po at *
    go_wp2_with fail
    refine (k2 _).mono ?_
    rintro e w2 ⟨rfl, h2⟩
    have B2 : Below w.heap.size w w2 := Below.trans (by go_grown) (h2.mono (by first | (simp; done) | omega | (simp; omega)))
    have y2 := B2.size
    have B0 := box2 h2 (w.heap.size) (.int .i64 0) (.int .u64 0) (by first | assumption | (refine (Below.cell ?_ A0z).trans A0c0; go_grown; done) | (simp [go_sem, A0c0]; done) | (simp [go_sem, A0c0, A0z]; done) | (simp [go_sem, A0c0, A0c1, A0f0, A0f1, A0z]; done)) (by first | assumption | (refine (Below.cell ?_ A0z).trans A0c1; go_grown; done) | (simp [go_sem, A0c1]; done) | (simp [go_sem, A0c1, A0z]; done) | (simp [go_sem, A0c0, A0c1, A0f0, A0f1, A0z]; done)) (by first | assumption | (refine (Below.frozen ?_ A0z).trans A0f0; go_grown; done) | (simp [go_sem, A0f0]; done) | (simp [go_sem, A0f0, A0z]; done) | (simp [go_sem, A0c0, A0c1, A0f0, A0f1, A0z]; done)) (by first | assumption | (refine (Below.frozen ?_ A0z).trans A0f1; go_grown; done) | (simp [go_sem, A0f1]; done) | (simp [go_sem, A0f1, A0z]; done) | (simp [go_sem, A0c0, A0c1, A0f0, A0f1, A0z]; done)) (by first | assumption | omega | (simp; done) | (simp; omega))
    clear A0c0 A0c1 A0f0 A0f1 A0z
    obtain ⟨B0c0, B0c1, B0f0, B0f1, B0z⟩ := B0
    (try (have m2_0 : ¬ w.heap.size = w2.heap.size := by omega)); (try (have m2_0' : ¬ w2.heap.size = w.heap.size := by omega))
    clear h2 k2 B1
    go_wp2_with fail
    refine bodyPost_ret (by simp [results, Tryd.results19, go_sem, B0c0, B0c1, B0z]; try rfl) rfl ?_
    exact ⟨F.out.symm, by go_grown⟩
  · have nf : ¬ Fits (sg neg (Dc.worth l : Nat)) := fun q => f (f1.2 q)
    have F := hide (show sumRes (sg neg (Dc.worth l : Nat)) = .returned (.tuple #[.agg #[.int .i64 0, .int .u64 0], .int .i64 10]) by
      unfold sumRes; rw [resV_not nf, resE_not nf]; rfl)
    rw [sigRes_no f] at k2
    unfold mgV at k2 ⊢
    clear f f1 f2 wa nf
    generalize mh y = p1 at *
    generalize ml y = p0 at *
    generalize mo y = po at *
    go_wp2_with fail
    refine (k2 _).mono ?_
    rintro e w2 ⟨rfl, h2⟩
    have B2 : Below w.heap.size w w2 := Below.trans (by go_grown) (h2.mono (by first | (simp; done) | omega | (simp; omega)))
    have y2 := B2.size
    have C0 := box2 h2 (w.heap.size) (.int .i64 0) (.int .u64 0) (by first | assumption | (refine (Below.cell ?_ A0z).trans A0c0; go_grown; done) | (simp [go_sem, A0c0]; done) | (simp [go_sem, A0c0, A0z]; done) | (simp [go_sem, A0c0, A0c1, A0f0, A0f1, A0z]; done)) (by first | assumption | (refine (Below.cell ?_ A0z).trans A0c1; go_grown; done) | (simp [go_sem, A0c1]; done) | (simp [go_sem, A0c1, A0z]; done) | (simp [go_sem, A0c0, A0c1, A0f0, A0f1, A0z]; done)) (by first | assumption | (refine (Below.frozen ?_ A0z).trans A0f0; go_grown; done) | (simp [go_sem, A0f0]; done) | (simp [go_sem, A0f0, A0z]; done) | (simp [go_sem, A0c0, A0c1, A0f0, A0f1, A0z]; done)) (by first | assumption | (refine (Below.frozen ?_ A0z).trans A0f1; go_grown; done) | (simp [go_sem, A0f1]; done) | (simp [go_sem, A0f1, A0z]; done) | (simp [go_sem, A0c0, A0c1, A0f0, A0f1, A0z]; done)) (by first | assumption | omega | (simp; done) | (simp; omega))
    clear A0c0 A0c1 A0f0 A0f1 A0z
    obtain ⟨C0c0, C0c1, C0f0, C0f1, C0z⟩ := C0
    (try (have m2_0 : ¬ w.heap.size = w2.heap.size := by omega)); (try (have m2_0' : ¬ w2.heap.size = w.heap.size := by omega))
    clear h2 k2 B1
    go_wp2_with fail
    refine bodyPost_ret (by simp [results, Tryd.results19, go_sem, C0c0, C0c1, C0z]; try rfl) rfl ?_
    exact ⟨F.out.symm, by go_grown⟩
set_option maxRecDepth 100000 in
set_option maxHeartbeats 8000000 in
theorem rparse_of (s : ByteArray) (l : List UInt8) (neg : Bool)
    (k1 : ∀ w, Calls Tryd.prog 28 #[.string s] w (takenP w l neg))
    (w : World) : Calls Tryd.prog 14 #[.string s] w fun e w' => e = parE (sg neg (Dc.worth l : Nat)) ∧ Below w.heap.size w w' := by
  go_enter Tryd.func14, Tryd.ntmps14
  go_wp2_with fail
  refine (k1 _).mono ?_
  rintro e w1 ⟨y, wa, rfl, h1⟩
  have B1 : Below w.heap.size w w1 := Below.trans (by go_grown) (h1.mono (by first | (simp; done) | omega | (simp; omega)))
  have y1 := B1.size
  clear h1 k1
  obtain ⟨y0, wb⟩ := wa
  rw [List.take_length] at wb
  have lo_hi : 0 ≤ mh y ∧ 0 ≤ ml y ∧ ml y < 18446744073709551616 := ⟨(isLo_mh y).a, (isLo_ml y).a, by have := (isLo_ml y).b; omega⟩
  by_cases sm : y ≤ 1000000000000000
  · have ey : y = (Dc.worth l : Nat) := by rcases wb with ⟨_, b⟩ | ⟨a, _⟩ <;> omega
    have vx := (V_mag y0 (show y < 340282366920938463463374607431768211456 by omega)).1
    have vx' : mh y * 18446744073709551616 + ml y = y := vx
    have k2 := rsmall_mg y neg y0 (by omega)
    have e3 : mo y = false := by unfold mo; exact decide_eq_false (by omega)
    have g1 : ¬ 0 < mh y := by omega
    have g2 : ¬ 1000000000000000 < ml y := by omega
    have rng : -1000000000000000 ≤ sg neg y ∧ sg neg y ≤ 1000000000000000 := by
      cases neg
      · rw [sg_f]; omega
      · rw [sg_t]; omega
    have sv : smallV (sg neg y) = sg neg y := by unfold smallV; rw [if_pos ⟨by omega, by omega⟩]
    have F := hide (show parE (sg neg (Dc.worth l : Nat)) = .returned (.tuple #[.int .i64 (sg neg y), .int .i64 0]) by
      rw [← ey]; unfold parE; rw [if_pos rng])
    rw [sv] at k2
    unfold mgV at k2 ⊢
    rw [e3] at k2 ⊢
    clear ey vx vx' wb sm rng sv e3 lo_hi y0
    generalize sg neg y = v at *
    generalize smallB v = ok at *
    generalize mh y = p1 at *
    generalize ml y = p0 at *
    go_wp2_with fail
    refine (k2 _).mono ?_
    rintro e w2 ⟨rfl, h2⟩
    have B2 : Below w.heap.size w w2 := Below.trans (by go_grown) (h2.mono (by first | (simp; done) | omega | (simp; omega)))
    clear h2 k2 B1
    go_wp2_with fail
    go_returns
    exact ⟨F.out.symm, by go_grown⟩
  · have big : ¬ (-1000000000000000 ≤ sg neg (Dc.worth l : Nat) ∧ sg neg (Dc.worth l : Nat) ≤ 1000000000000000) := by
      have wbig : 1000000000000000 < Dc.worth l := by rcases wb with ⟨_, b⟩ | ⟨_, b⟩ <;> omega
      rintro ⟨c, d⟩
      cases neg
      · rw [sg_f] at c d; omega
      · rw [sg_t] at c d; omega
    have F := hide (show parE (sg neg (Dc.worth l : Nat)) = .returned (.tuple #[.int .i64 0, .int .i64 22]) by unfold parE; rw [if_neg big])
    have cs : mo y = true ∨ (mo y = false ∧ 0 < mh y) ∨ (mo y = false ∧ ¬ 0 < mh y ∧ 1000000000000000 < ml y) := by
      by_cases b : 340282366920938463463374607431768211456 ≤ y
      · exact .inl (by unfold mo; exact decide_eq_true b)
      · have vx := (V_mag y0 (show y < 340282366920938463463374607431768211456 by omega)).1
        have vx' : mh y * 18446744073709551616 + ml y = y := vx
        have e3 : mo y = false := by unfold mo; exact decide_eq_false b
        by_cases g : 0 < mh y
        · exact .inr (.inl ⟨e3, g⟩)
        · exact .inr (.inr ⟨e3, g, by omega⟩)
    unfold mgV
    clear wb sm big lo_hi y0
    generalize mh y = p1 at *
    generalize ml y = p0 at *
    generalize mo y = po at *
    rcases cs with rfl | ⟨rfl, g⟩ | ⟨rfl, g1, g2⟩
    all_goals
      go_wp2_with fail
      go_returns
      exact ⟨F.out.symm, by go_grown⟩
theorem mrread_spec (s : ByteArray) (w : World) (hs : s.size ≤ 140737488351232) :
    Calls Tryd.prog 19 #[.string s] w fun e w' => e = readE s.data.toList ∧ Below w.heap.size w w' := by
  unfold readE readQ
  rw [okB_read, worthOf_all]
  by_cases h : okB (amt s.data.toList) = true
  · rw [if_pos h]
    by_cases h6 : 6 < (cutF (amt s.data.toList)).length
    · rw [if_pos h6]
      exact rread_err s 21 rfl (taken_fine' s hs h h6) w
    · rw [if_neg h6]
      exact rread_of s _ _ (taken_some' s hs h h6) w
  · have h' : okB (amt s.data.toList) = false := by simpa using h
    rw [if_neg h]
    exact rread_err s 20 rfl (taken_bad' s hs h') w
theorem mrparse_spec (s : ByteArray) (w : World) (hs : s.size ≤ 140737488351232) :
    Calls Tryd.prog 14 #[.string s] w fun e w' => e = parseE s.data.toList ∧ Below w.heap.size w w' := by
  unfold parseE
  rw [okB_read, worthOf_all]
  by_cases h : okB (amt s.data.toList) = true
  · rw [if_pos h]
    by_cases h6 : 6 < (cutF (amt s.data.toList)).length
    · rw [if_pos h6]
      exact rparse_err s 21 rfl (taken_fine' s hs h h6) w
    · rw [if_neg h6]
      exact rparse_of s _ _ (taken_some' s hs h h6) w
  · have h' : okB (amt s.data.toList) = false := by simpa using h
    rw [if_neg h]
    exact rparse_err s 20 rfl (taken_bad' s hs h') w
end Go.Proofs.YtdjehbagnkfkpaaDoor
