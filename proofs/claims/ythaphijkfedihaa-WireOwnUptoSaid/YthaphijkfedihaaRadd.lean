/- The reference's packers: NewPacker, Add. (gen_radd.py) -/
import Derived.Test.YthaphijkfedihaaRpk
namespace Go.Proofs.Ythaphijkfedihaa
set_option linter.unusedVariables false
set_option linter.unusedSimpArgs false
open Go.RowKit W
/-- P5.3, by lines. -/
def addR (size : Int) (ps : List ByteArray) (s : ByteArray) : List ByteArray × List UInt8 × Int :=
  if fitL (lst s) = false then (ps, [], 51) else if size < s.size then (ps, [], 2)
  else if ps ≠ [] ∧ size < ((joinL (ps.map lst)).length : Int) + 1 + s.size then ([s], joinL (ps.map lst), 0) else (ps ++ [s], [], 0)
def RAdd (B g : Nat) (size : Int) (ps : List ByteArray) (s : ByteArray) (w : World) (e : Ending) (w' : World) : Prop :=
  ∃ x, e = .returned (.tuple #[.string x, .int .i64 (addR size ps s).2.2]) ∧ lst x = (addR size ps s).2.1 ∧ Rk B w' g size (addR size ps s).1 ∧ Upd B TR w w'
theorem radd_mk {B g : Nat} {size er : Int} {ps ps' : List ByteArray} {s x : ByteArray} {out : List UInt8} {w w' : World} (h : addR size ps s = (ps', out, er)) (hx : lst x = out) (hp : Rk B w' g size ps') (hu : Upd B TR w w') : RAdd B g size ps s w (.returned (.tuple #[.string x, .int .i64 er])) w' := by
  unfold RAdd; rw [h]; exact ⟨x, rfl, hx, hp, hu⟩
theorem info_str5 : (Try.prog.info? 9).map (fun i => (i.zero, i.size, i.bytes)) = some (some (.string ByteArray.empty), 1, 16) := by kernel_rfl
def NewRk (n : Int) (w : World) (e : Ending) (w' : World) : Prop := e = .returned (.tuple #[.agg #[.int .i64 n, .slice none 0 0], .int .i64 0]) ∧ Below w.heap.size w w'
theorem rnewp_ok (n : Int) (h1 : 1 ≤ n) (h2 : n ≤ 65536) (w : World) : Calls Try.prog 9 #[.int .i64 n] w (NewRk n w) := by
  go_enter Try.func9, Try.ntmps9
  go_wp2
  refine bodyPost_ret (by simp [results, Try.results9, go_sem]; try rfl) rfl ?_
  exact ⟨rfl, by go_grown⟩
theorem rnewp_bad (n : Int) (h : n < 1 ∨ 65536 < n) (w : World) : Calls Try.prog 9 #[.int .i64 n] w fun e w' => e = .returned (.tuple #[.agg #[.int .i64 0, .slice none 0 0], .int .i64 50]) ∧ Below w.heap.size w w' := by
  rcases h with h | h
  · go_enter Try.func9, Try.ntmps9
    go_wp2
    refine bodyPost_ret (by simp [results, Try.results9, go_sem]; try rfl) rfl ?_
    exact ⟨rfl, by go_grown⟩
  · go_enter Try.func9, Try.ntmps9
    go_wp2
    refine bodyPost_ret (by simp [results, Try.results9, go_sem]; try rfl) rfl ?_
    exact ⟨rfl, by go_grown⟩
set_option maxRecDepth 100000 in
set_option maxHeartbeats 8000000 in
theorem radd_bad (B : Nat) (g : Nat) (size : Int) (ps : List ByteArray) (s : ByteArray) (w : World) (h : Rk B w g size ps) (hl : ps.length ≤ 65536) (hj : (joinL (ps.map lst)).length ≤ 65536) (hz : size ≤ 65536) (hb : B ≤ w.heap.size) (hs : s.size ≤ 4000000000000) (ft : fitL (lst s) = false) : Calls Try.prog 14 #[.pointer (some ⟨g, 0, none⟩), .string s] w (RAdd B g size ps s w) := by
  have kf := rfit_spec s hs w
  rw [ft] at kf
  have AD := hide (show addR size ps s = (ps, [], 51) by unfold addR; rw [if_pos ft])
  clear ft
  go_enter Try.func14, Try.ntmps14
  go_wp2_with fail
  refine kf.mono ?_
  rintro e w1 ⟨rfl, b1⟩
  have RK := hide (h.choose_spec.upd (Upd.of_below (B := B) (T := []) b1) (by simp) (by simp))
  have U1 := hide (Upd.of_below (B := B) (T := TR) b1)
  clear b1 kf
  go_wp2_with fail
  go_returns
  exact radd_mk AD.out rfl ⟨_, RK.out⟩ U1.out
set_option maxRecDepth 100000 in
set_option maxHeartbeats 8000000 in
theorem radd_long (B : Nat) (g : Nat) (size : Int) (ps : List ByteArray) (s : ByteArray) (w : World) (h : Rk B w g size ps) (hl : ps.length ≤ 65536) (hj : (joinL (ps.map lst)).length ≤ 65536) (hz : size ≤ 65536) (hb : B ≤ w.heap.size) (hs : s.size ≤ 4000000000000) (ft : fitL (lst s) = true) (lg : size < s.size) : Calls Try.prog 14 #[.pointer (some ⟨g, 0, none⟩), .string s] w (RAdd B g size ps s w) := by
  have kf := rfit_spec s hs w
  rw [ft] at kf
  have AD := hide (show addR size ps s = (ps, [], 2) by unfold addR; rw [if_neg (by rw [ft]; simp), if_pos lg])
  clear ft
  go_enter Try.func14, Try.ntmps14
  go_wp2_with fail
  refine kf.mono ?_
  rintro e w1 ⟨rfl, b1⟩
  have RK := hide (h.choose_spec.upd (Upd.of_below (B := B) (T := []) b1) (by simp) (by simp))
  have U1 := hide (Upd.of_below (B := B) (T := TR) b1)
  have c0 := RK.out.c0
  clear b1 kf
  go_wp2_with fail
  go_returns
  exact radd_mk AD.out rfl ⟨_, RK.out⟩ U1.out
set_option maxRecDepth 100000 in
set_option maxHeartbeats 8000000 in
theorem radd_one (B : Nat) (g : Nat) (size : Int) (ps : List ByteArray) (s : ByteArray) (w : World) (h : Rk B w g size ps) (hl : ps.length ≤ 65536) (hj : (joinL (ps.map lst)).length ≤ 65536) (hz : size ≤ 65536) (hb : B ≤ w.heap.size) (hs : s.size ≤ 4000000000000) (ft : fitL (lst s) = true) (lg : ¬ size < s.size) (pe : ps = []) : Calls Try.prog 14 #[.pointer (some ⟨g, 0, none⟩), .string s] w (RAdd B g size ps s w) := by
  have kf := rfit_spec s hs w
  rw [ft] at kf
  have AD := hide (show addR size ps s = (ps ++ [s], [], 0) by unfold addR; rw [if_neg (by rw [ft]; simp), if_neg lg, if_neg (by rintro ⟨q, _⟩; exact q pe)])
  have z : ps.length = 0 := by rw [pe]; rfl
  clear pe
  clear ft
  obtain ⟨i0, hi0, hz0, hz1, hz2⟩ := info_parts info_str5
  have HI : Hid (Try.prog.info? 9 = some i0 ∧ i0.zero = some (.string ByteArray.empty) ∧ i0.size = 1 ∧ i0.bytes = 16) := ⟨hi0, hz0, hz1, hz2⟩
  clear hi0 hz0 hz1 hz2
  go_enter Try.func14, Try.ntmps14
  go_wp2_with fail
  refine kf.mono ?_
  rintro e w1 ⟨rfl, b1⟩
  have RK0 := hide (h.choose_spec.upd (Upd.of_below (B := B) (T := []) b1) (by simp) (by simp))
  have U1 := hide (Upd.of_below (B := B) (T := TR) b1)
  have B1 : Hid (B ≤ w1.heap.size) := Nat.le_trans hb U1.out.size
  have kb := rbytes5 B g size ps w1 ⟨_, RK0.out⟩ (by omega) hj
  obtain ⟨A, c, hA, hc, hn⟩ := own_form RK0.out.own
  have RK : Hid (RkV B w1 g size (.slice A ps.length c) ps) := by show RkV _ _ _ _ _ _; rw [← hA]; exact RK0.out
  have c0 := RK.out.c0
  have c1 := RK.out.c1
  have f1 := RK.out.fr 1
  have lt1 := RK.out.lt
  clear b1 kf RK0 hA
  rw [z] at c1
  go_wp2_with fail
  refine kb.mono ?_
  rintro e w2 ⟨x, rfl, hx, rfl⟩
  have xs : x.size = (joinL (ps.map lst)).length := by rw [← hx, lst_len]
  have XS := hide xs
  have HX := hide hx
  have xb : x.size ≤ 65536 := by omega
  have w1' : IntKind.i64.wrap ((x.size : Int) + 1) = (x.size : Int) + 1 := by rw [IntKind.wrap_i64]; omega
  have w2' : IntKind.i64.wrap ((x.size : Int) + 1 + (s.size : Int)) = (x.size : Int) + 1 + s.size := by rw [IntKind.wrap_i64]; omega
  clear xs hx kb
  have RK' : Hid (RkV B w1 g size (.slice A 0 c) ps) := by have := RK.out; rw [z] at this; exact this
  go_wp2_with (
      at_builtin
      refine wpList_append_own _ rfl _ _ 27 rfl B 9 i0 (.string ByteArray.empty) 1 16 Try.underlying27 HI.out.1 HI.out.2.1 HI.out.2.2.1 HI.out.2.2.2 ?a1 ?a2 (.slice A 0 c) 0 (ps.map Value.string) ?a3 (by have := RK'.out.own.alloc (.cells #[.string s] 9); rw [z] at this; exact this) ⟨w1.heap.size, 0, none⟩ 1 1 [.string s] ?a5 ?a6 ?a7 ?a8 ?a9 ?b1 ?b2 ?_
      case a1 => rfl
      case a2 => decide
      case a3 => rfl
      case a5 => rfl
      case a6 => rfl
      case a7 => exact cell_one_new _ _ _
      case a8 => exact one_txt
      case a9 => unfold maxLen; omega
      case b1 => omega
      case b2 => (have := B1.out; simp; omega)
      intro v9 w9 hown9 hgrow9 hnil9
      have U9 := hide (rk_grown (RK'.out.alloc _) hgrow9)
      have O9 : Hid (World.ownsRow w9 B 9 1 v9 (ps ++ [s]).length ((ps ++ [s]).map Value.string)) := by show World.ownsRow _ _ _ _ _ _ _; rw [List.length_append, List.map_append, z]; exact hown9
      obtain ⟨A9, c9, rfl, _, _⟩ := own_form hown9
      obtain ⟨q1, q2, q3, q4⟩ := (RK'.out.alloc _).after U9.out
      clear hown9 hgrow9 hnil9)
  go_returns
  have ST := RkV.store (RK'.out.alloc _) U9.out O9.out
  exact radd_mk AD.out rfl ⟨_, ST.1⟩ ((U1.out.alloc _).trans ST.2)
set_option maxRecDepth 100000 in
set_option maxHeartbeats 8000000 in
theorem radd_full (B : Nat) (g : Nat) (size : Int) (ps : List ByteArray) (s : ByteArray) (w : World) (h : Rk B w g size ps) (hl : ps.length ≤ 65536) (hj : (joinL (ps.map lst)).length ≤ 65536) (hz : size ≤ 65536) (hb : B ≤ w.heap.size) (hs : s.size ≤ 4000000000000) (ft : fitL (lst s) = true) (lg : ¬ size < s.size) (pe : ps ≠ []) (fu : size < ((joinL (ps.map lst)).length : Int) + 1 + s.size) : Calls Try.prog 14 #[.pointer (some ⟨g, 0, none⟩), .string s] w (RAdd B g size ps s w) := by
  have kf := rfit_spec s hs w
  rw [ft] at kf
  have AD := hide (show addR size ps s = ([s], joinL (ps.map lst), 0) by unfold addR; rw [if_neg (by rw [ft]; simp), if_neg lg, if_pos ⟨pe, fu⟩])
  have z : 0 < ps.length := by cases ps; exact absurd rfl pe; simp
  clear pe
  clear ft
  go_enter Try.func14, Try.ntmps14
  go_wp2_with fail
  refine kf.mono ?_
  rintro e w1 ⟨rfl, b1⟩
  have RK0 := hide (h.choose_spec.upd (Upd.of_below (B := B) (T := []) b1) (by simp) (by simp))
  have U1 := hide (Upd.of_below (B := B) (T := TR) b1)
  have B1 : Hid (B ≤ w1.heap.size) := Nat.le_trans hb U1.out.size
  have kb := rbytes5 B g size ps w1 ⟨_, RK0.out⟩ (by omega) hj
  obtain ⟨A, c, hA, hc, hn⟩ := own_form RK0.out.own
  have RK : Hid (RkV B w1 g size (.slice A ps.length c) ps) := by show RkV _ _ _ _ _ _; rw [← hA]; exact RK0.out
  have c0 := RK.out.c0
  have c1 := RK.out.c1
  have f1 := RK.out.fr 1
  have lt1 := RK.out.lt
  clear b1 kf RK0 hA
  go_wp2_with fail
  refine kb.mono ?_
  rintro e w2 ⟨x, rfl, hx, rfl⟩
  have xs : x.size = (joinL (ps.map lst)).length := by rw [← hx, lst_len]
  have XS := hide xs
  have HX := hide hx
  have xb : x.size ≤ 65536 := by omega
  have w1' : IntKind.i64.wrap ((x.size : Int) + 1) = (x.size : Int) + 1 := by rw [IntKind.wrap_i64]; omega
  have w2' : IntKind.i64.wrap ((x.size : Int) + 1 + (s.size : Int)) = (x.size : Int) + 1 + s.size := by rw [IntKind.wrap_i64]; omega
  have g1 : (0 : Int) < (ps.length : Int) := by omega
  have fu' : size < (x.size : Int) + 1 + s.size := by omega
  clear xs hx kb fu
  go_wp2_with fail
  go_returns
  have O9 : World.ownsRow (w1.alloc (.cells #[.string s] 9)) B 9 1 (.slice (some ⟨w1.heap.size, 0, none⟩) 1 1) ([s] : List ByteArray).length ([s].map Value.string) :=
    ⟨rfl, .inr ⟨w1.heap.size, 1, #[.string s], rfl, B1.out, heap_alloc_new w1 _, Nat.le_refl _, by unfold maxLen; omega, rfl, rfl⟩⟩
  have ST := RkV.store (RK.out.alloc _) (Upd.refl _ _ _) O9
  have CM : (w1.alloc (.cells #[.string s] 9)).setCell ⟨g, 1, none⟩ (.slice (some ⟨w1.heap.size, 0, none⟩) 1 1) = (w1.setCell ⟨g, 1, none⟩ (.slice (some ⟨w1.heap.size, 0, none⟩) 1 1)).alloc (.cells #[.string s] 9) := by simp [go_sem, lt1]
  rw [CM] at ST
  exact radd_mk AD.out HX.out ⟨_, ST.1⟩ ((U1.out.alloc _).trans ST.2)
set_option maxRecDepth 100000 in
set_option maxHeartbeats 8000000 in
theorem radd_more (B : Nat) (g : Nat) (size : Int) (ps : List ByteArray) (s : ByteArray) (w : World) (h : Rk B w g size ps) (hl : ps.length ≤ 65536) (hj : (joinL (ps.map lst)).length ≤ 65536) (hz : size ≤ 65536) (hb : B ≤ w.heap.size) (hs : s.size ≤ 4000000000000) (ft : fitL (lst s) = true) (lg : ¬ size < s.size) (pe : ps ≠ []) (fu : ¬ size < ((joinL (ps.map lst)).length : Int) + 1 + s.size) : Calls Try.prog 14 #[.pointer (some ⟨g, 0, none⟩), .string s] w (RAdd B g size ps s w) := by
  have kf := rfit_spec s hs w
  rw [ft] at kf
  have AD := hide (show addR size ps s = (ps ++ [s], [], 0) by unfold addR; rw [if_neg (by rw [ft]; simp), if_neg lg, if_neg (by rintro ⟨_, q⟩; exact fu q)])
  have z : 0 < ps.length := by cases ps; exact absurd rfl pe; simp
  clear pe
  clear ft
  obtain ⟨i0, hi0, hz0, hz1, hz2⟩ := info_parts info_str5
  have HI : Hid (Try.prog.info? 9 = some i0 ∧ i0.zero = some (.string ByteArray.empty) ∧ i0.size = 1 ∧ i0.bytes = 16) := ⟨hi0, hz0, hz1, hz2⟩
  clear hi0 hz0 hz1 hz2
  go_enter Try.func14, Try.ntmps14
  go_wp2_with fail
  refine kf.mono ?_
  rintro e w1 ⟨rfl, b1⟩
  have RK0 := hide (h.choose_spec.upd (Upd.of_below (B := B) (T := []) b1) (by simp) (by simp))
  have U1 := hide (Upd.of_below (B := B) (T := TR) b1)
  have B1 : Hid (B ≤ w1.heap.size) := Nat.le_trans hb U1.out.size
  have kb := rbytes5 B g size ps w1 ⟨_, RK0.out⟩ (by omega) hj
  obtain ⟨A, c, hA, hc, hn⟩ := own_form RK0.out.own
  have RK : Hid (RkV B w1 g size (.slice A ps.length c) ps) := by show RkV _ _ _ _ _ _; rw [← hA]; exact RK0.out
  have c0 := RK.out.c0
  have c1 := RK.out.c1
  have f1 := RK.out.fr 1
  have lt1 := RK.out.lt
  clear b1 kf RK0 hA
  go_wp2_with fail
  refine kb.mono ?_
  rintro e w2 ⟨x, rfl, hx, rfl⟩
  have xs : x.size = (joinL (ps.map lst)).length := by rw [← hx, lst_len]
  have XS := hide xs
  have HX := hide hx
  have xb : x.size ≤ 65536 := by omega
  have w1' : IntKind.i64.wrap ((x.size : Int) + 1) = (x.size : Int) + 1 := by rw [IntKind.wrap_i64]; omega
  have w2' : IntKind.i64.wrap ((x.size : Int) + 1 + (s.size : Int)) = (x.size : Int) + 1 + s.size := by rw [IntKind.wrap_i64]; omega
  have g1 : (0 : Int) < (ps.length : Int) := by omega
  have fu' : ¬ size < (x.size : Int) + 1 + s.size := by omega
  clear xs hx kb fu
  go_wp2_with (
      at_builtin
      refine wpList_append_own _ rfl _ _ 27 rfl B 9 i0 (.string ByteArray.empty) 1 16 Try.underlying27 HI.out.1 HI.out.2.1 HI.out.2.2.1 HI.out.2.2.2 ?a1 ?a2 (.slice A ps.length c) ps.length (ps.map Value.string) ?a3 (RK.out.own.alloc _) ⟨w1.heap.size, 0, none⟩ 1 1 [.string s] ?a5 ?a6 ?a7 ?a8 ?a9 ?b1 ?b2 ?_
      case a1 => rfl
      case a2 => decide
      case a3 => rfl
      case a5 => rfl
      case a6 => rfl
      case a7 => exact cell_one_new _ _ _
      case a8 => exact one_txt
      case a9 => unfold maxLen; omega
      case b1 => omega
      case b2 => (have := B1.out; simp; omega)
      intro v9 w9 hown9 hgrow9 hnil9
      have U9 := hide (rk_grown (RK.out.alloc _) hgrow9)
      have O9 : Hid (World.ownsRow w9 B 9 1 v9 (ps ++ [s]).length ((ps ++ [s]).map Value.string)) := by show World.ownsRow _ _ _ _ _ _ _; rw [List.length_append, List.map_append]; exact hown9
      obtain ⟨A9, c9, rfl, _, _⟩ := own_form hown9
      obtain ⟨q1, q2, q3, q4⟩ := (RK.out.alloc _).after U9.out
      clear hown9 hgrow9 hnil9)
  go_returns
  have ST := RkV.store (RK.out.alloc _) U9.out O9.out
  exact radd_mk AD.out rfl ⟨_, ST.1⟩ ((U1.out.alloc _).trans ST.2)
theorem radd_spec (B : Nat) (g : Nat) (size : Int) (ps : List ByteArray) (s : ByteArray) (w : World) (h : Rk B w g size ps) (hl : ps.length ≤ 65536) (hj : (joinL (ps.map lst)).length ≤ 65536) (hz : size ≤ 65536) (hb : B ≤ w.heap.size) (hs : s.size ≤ 4000000000000) : Calls Try.prog 14 #[.pointer (some ⟨g, 0, none⟩), .string s] w (RAdd B g size ps s w) := by
  cases ft : fitL (lst s) with
  | false => exact radd_bad B g size ps s w h hl hj hz hb hs ft
  | true =>
    by_cases lg : size < s.size
    · exact radd_long B g size ps s w h hl hj hz hb hs ft lg
    · by_cases pe : ps = []
      · exact radd_one B g size ps s w h hl hj hz hb hs ft lg pe
      · by_cases fu : size < ((joinL (ps.map lst)).length : Int) + 1 + s.size
        · exact radd_full B g size ps s w h hl hj hz hb hs ft lg pe fu
        · exact radd_more B g size ps s w h hl hj hz hb hs ft lg pe fu
end Go.Proofs.Ythaphijkfedihaa
