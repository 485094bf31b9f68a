/- window's Book: New, made, Put, Closed. -/
import Derived.Test.YtpkkcdbmhgmncaaBkm
import Derived.Test.YtpkkcdbmhgmncaaWin
import Derived.LaidEqlPtr
namespace Go.Proofs.Ytpkkcdbmhgmncaa
set_option linter.unusedVariables false
set_option linter.unusedSimpArgs false
open Go.RowKit W Go.Maps
theorem lawK : Keyed Try.prog 2 := int_keyed Try.underlying2
theorem zeroU (w : World) : (zeroValue 83).run Try.prog w = .ok (.agg #[]) w := by kernel_rfl
/-- A book that New made: its width, its last closed window, the open ones. -/
structure BookAt (w : World) (bb mb : Nat) (d c : Int) (S : List Int) : Prop where
  c0 : w.cell? ⟨bb, 0, none⟩ = some (.pointer (some ⟨bb, 0, none⟩))
  c1 : w.cell? ⟨bb, 1, none⟩ = some (.int .i64 d)
  c2 : w.cell? ⟨bb, 2, none⟩ = some (.map (some mb))
  c3 : w.cell? ⟨bb, 3, none⟩ = some (.int .i64 c)
  f3 : w.frozen? ⟨bb, 3, none⟩ = false
  lt : bb < w.heap.size
  map : ∃ D : DataW Unit, w.ownsMap Try.prog 2 (unitElem (H := Unit)) mb S.length D ∧ SetOf D S
  ne : mb ≠ bb
theorem BookAt.mlt {w : World} {bb mb : Nat} {d c : Int} {S : List Int} (h : BookAt w bb mb d c S) : mb < w.heap.size := by
  obtain ⟨D, o, _⟩ := h.map
  exact o.lt
theorem BookAt.mod {l : List Nat} {w w' : World} {bb mb : Nat} {d c : Int} {S : List Int} (h : BookAt w bb mb d c S) (k : Mod l w w') (h1 : bb ∉ l) (h2 : mb ∉ l) : BookAt w' bb mb d c S := by
  obtain ⟨D, o, s⟩ := h.map
  have lm := h.mlt
  refine ⟨(k.cell h.lt h1).trans h.c0, (k.cell h.lt h1).trans h.c1, (k.cell h.lt h1).trans h.c2, (k.cell h.lt h1).trans h.c3, (k.frozen h.lt h1).trans h.f3, Nat.lt_of_lt_of_le h.lt k.size, ⟨D, ?_, s⟩, h.ne⟩
  obtain ⟨es, clock, hb, r⟩ := o
  exact ⟨es, clock, (k.block mb lm h2).trans hb, r⟩
theorem BookAt.later {w w' : World} {bb mb : Nat} {d c : Int} {S : List Int} (h : BookAt w bb mb d c S) (k : Below w.heap.size w w') : BookAt w' bb mb d c S := h.mod (Mod.of_below (l := []) k) (by simp) (by simp)
theorem infoBook : (Try.prog.info? 81).isSome = true := by kernel_rfl
theorem eq_ptr (b : Nat) (w : World) : (binOp .eql 23 (.pointer (some ⟨b, 0, none⟩)) (.pointer (some ⟨b, 0, none⟩))).run Try.prog w = .ok (.bool true) w := by
  obtain ⟨j, hj⟩ := Option.isSome_iff_exists.1 infoBook
  exact run_eql_ptr_same w ⟨b, 0, none⟩ Try.underlying23 hj
set_option maxRecDepth 100000 in
theorem made_ok {w : World} {bb mb : Nat} {d c : Int} {S : List Int} (h : BookAt w bb mb d c S) :
    CalcN 36 #[.pointer (some ⟨bb, 0, none⟩)] w (.bool true) := by
  have c0 := h.c0
  have q := eq_ptr bb
  clear h
  go_enter Try.func36, Try.ntmps36
  go_wp2
  go_returns
  exact ⟨rfl, rfl⟩
set_option maxRecDepth 100000 in
theorem closed_spec {w : World} {bb mb : Nat} {d c : Int} {S : List Int} (h : BookAt w bb mb d c S) :
    CalcN 20 #[.pointer (some ⟨bb, 0, none⟩)] w (.int .i64 c) := by
  have k := made_ok h
  have c3 := h.c3
  clear h
  go_enter Try.func20, Try.ntmps20
  go_wp2_with fail
  refine k.mono ?_
  rintro e w' ⟨rfl, rfl⟩
  go_wp2_with fail
  go_returns
  exact ⟨rfl, rfl⟩
set_option maxRecDepth 100000 in
theorem new_bad (d : Int) (h1 : d < 1 ∨ 1048576 < d) (w : World) :
    CalcN 11 #[.int .i64 d] w (.tuple #[.pointer none, .int .i64 61]) := by
  have k := width_bad d h1
  clear h1
  go_enter Try.func11, Try.ntmps11
  go_wp2_with fail
  refine (k _).mono ?_
  rintro e w' ⟨rfl, rfl⟩
  go_wp2_with fail
  go_returns
  exact ⟨rfl, rfl⟩
def NewPost (w : World) (d : Int) (e : Ending) (w' : World) : Prop := ∃ bb mb, e = .returned (.tuple #[.pointer (some ⟨bb, 0, none⟩), .int .i64 0]) ∧ BookAt w' bb mb d (-9223372036854775808) [] ∧ w.heap.size ≤ bb ∧ w.heap.size ≤ mb ∧ Below w.heap.size w w'
set_option maxRecDepth 100000 in
set_option maxHeartbeats 4000000 in
theorem new_ok (d : Int) (h1 : 1 ≤ d) (h2 : d ≤ 1048576) (w : World) :
    Calls Try.prog 11 #[.int .i64 d] w (NewPost w d) := by
  have k := width_ok d h1 h2
  have hmm := @run_makeMap Try.prog
  clear h1 h2
  go_enter Try.func11, Try.ntmps11
  go_wp2_with fail
  refine (k _).mono ?_
  rintro e w' ⟨rfl, rfl⟩
  go_wp2_with fail
  go_returns
  refine ⟨_, w.heap.size, rfl, ⟨?_, ?_, ?_, ?_, ?_, ?_, ⟨.map [], ?_, SetOf.nil⟩, ?_⟩, ?_, ?_, ?_⟩
  · simp [go_sem]
  · simp [go_sem]
  · simp [go_sem]
  · simp [go_sem]
  · simp [go_sem]
  · simp
  · exact (World.ownsMap_made w _ _ _).alloc _
  · simp
  · simp
  · simp
  · go_grown
set_option maxRecDepth 100000 in
set_option maxHeartbeats 4000000 in
theorem put_late {w : World} {bb mb : Nat} {d c : Int} {S : List Int} (h : BookAt w bb mb d c S) (t q : Int) (j : IsHi t) (h1 : 1 ≤ d) (hq : q = t / d) (hc : q ≤ c) :
    CalcN 14 #[.pointer (some ⟨bb, 0, none⟩), .int .i64 t] w (.tuple #[.int .i64 0, .int .i64 62]) := by
  have k := made_ok h
  have kf := floor_spec t d q j h1 hq
  have c1 := h.c1
  have c3 := h.c3
  clear h j h1 hq
  go_enter Try.func14, Try.ntmps14
  go_wp2_with fail
  refine k.mono ?_
  rintro e w' ⟨rfl, rfl⟩
  go_wp2_with fail
  refine (kf _).mono ?_
  rintro e w' ⟨rfl, rfl⟩
  go_wp2_with fail
  go_returns
  exact ⟨rfl, rfl⟩
theorem wf_i64 {q : Int} (j : IsHi q) : (Lit.int .i64 q).wf = true := by
  obtain ⟨_, _⟩ := j
  simp [Lit.wf, IntKind.min, IntKind.max, IntKind.signed, IntKind.bits]
  omega
def PutPost (w : World) (bb mb : Nat) (d c : Int) (S : List Int) (q : Int) (e : Ending) (w' : World) : Prop := e = .returned (.tuple #[.int .i64 q, .int .i64 0]) ∧ BookAt w' bb mb d c S ∧ Mod [mb] w w'
theorem turned_mod {w w' : World} {b : Nat} (h : w.mapTurned w' b) : Mod [b] w w' := (Mod.refl _ _).grown h.grown (fun k hk => by injection hk with hk; exact .inl (by simp [hk]))
set_option maxRecDepth 100000 in
set_option maxHeartbeats 4000000 in
theorem put_many {w : World} {bb mb : Nat} {d c : Int} {S : List Int} (h : BookAt w bb mb d c S) (t q : Int) (j : IsHi t) (h1 : 1 ≤ d) (hq : q = t / d) (hc : c < q) (n : q ∉ S) (hs : 4096 ≤ S.length) :
    Calls Try.prog 14 #[.pointer (some ⟨bb, 0, none⟩), .int .i64 t] w fun e w' => e = .returned (.tuple #[.int .i64 0, .int .i64 3]) ∧ Below w.heap.size w w' := by
  have k := made_ok h
  have kf := floor_spec t d q j h1 hq
  have wq := wf_i64 (div_hi j h1)
  rw [← hq] at wq
  have c1 := h.c1
  have c2 := h.c2
  have c3 := h.c3
  have lt := h.lt
  obtain ⟨D, o, so⟩ := h.map
  have e1 : Maps.has D (.int .i64 q) = false := by rw [so.has]; simp [n]
  have e2 := so.size
  obtain ⟨m, hm⟩ : ∃ m, m = Maps.size D := ⟨_, rfl⟩
  have hsz : (4096 : Int) ≤ (m : Int) := by omega
  have OW := hide o
  have hl : ∀ (x : Obj) ty, (Builtin.len_ #[79] ty #[.map (some mb)]).run Try.prog (w.alloc x) = .ok (.int .i64 (m : Int)) (w.alloc x) := fun x ty => by rw [hm]; exact (OW.out.alloc x).len Try.underlying79 ty
  have WQ := hide wq
  have nc : ¬ q ≤ c := by omega
  clear h j h1 hq hc n hs so e2 o hm wq
  go_enter Try.func14, Try.ntmps14
  go_wp2_with fail
  refine k.mono ?_
  rintro e w' ⟨rfl, rfl⟩
  go_wp2_with fail
  refine (kf _).mono ?_
  rintro e w' ⟨rfl, rfl⟩
  clear k kf
  go_wp2_with (first
    | (at_lookup; refine wpList_lookup_own_unit _ rfl _ _ 79 rfl 2 83 lawK Try.underlying79 (zeroU _) mb _ D rfl OW.out _ _ rfl (keyOf_int_mk Try.underlying2 WQ.out) ?_)
    | fail)
  go_returns
  exact ⟨rfl, by go_grown⟩
set_option maxRecDepth 100000 in
set_option maxHeartbeats 4000000 in
theorem put_in {w : World} {bb mb : Nat} {d c : Int} {S : List Int} (h : BookAt w bb mb d c S) (t q : Int) (j : IsHi t) (h1 : 1 ≤ d) (hq : q = t / d) (hc : c < q) (n : q ∈ S) (hs : S.length ≤ 4096) :
    Calls Try.prog 14 #[.pointer (some ⟨bb, 0, none⟩), .int .i64 t] w (PutPost w bb mb d c S q) := by
  have k := made_ok h
  have kf := floor_spec t d q j h1 hq
  have wq := wf_i64 (div_hi j h1)
  rw [← hq] at wq
  have c1 := h.c1
  have c2 := h.c2
  have c3 := h.c3
  have lt := h.lt
  have HB := hide h
  obtain ⟨D, o, so⟩ := h.map
  have e1 : Maps.has D (.int .i64 q) = true := by rw [so.has]; simp [n]
  have OW := hide o
  have SO := hide so
  have WQ := hide wq
  have NN := hide n
  have HS := hide (show S.length < maxLen by unfold maxLen; omega)
  have nc : ¬ q ≤ c := by omega
  clear h j h1 hq hc n hs so o wq
  go_enter Try.func14, Try.ntmps14
  go_wp2_with fail
  refine k.mono ?_
  rintro e w' ⟨rfl, rfl⟩
  go_wp2_with fail
  refine (kf _).mono ?_
  rintro e w' ⟨rfl, rfl⟩
  clear k kf
  go_wp2_with (first
    | (at_lookup; refine wpList_lookup_own_unit _ rfl _ _ 79 rfl 2 83 lawK Try.underlying79 (zeroU _) mb _ D rfl OW.out _ _ rfl (keyOf_int_mk Try.underlying2 WQ.out) ?_)
    | (at_mapUpdate; refine wpList_mapUpdate_in _ rfl _ _ _ 79 rfl 2 83 lawK Try.underlying79 _ mb _ D rfl (OW.out.alloc _) HS.out _ _ _ rfl rfl (keyOf_int_mk Try.underlying2 WQ.out) (.agg []) [] unitElem_mk ?_; intro w1 hown1 hturn1; have OW1 := hide hown1; have TU := hide hturn1; clear hown1 hturn1))
  go_returns
  refine ⟨rfl, ?_, ?_⟩
  · have m1 : Mod [mb] w w1 := ((Mod.refl [mb] w).alloc _).trans (turned_mod TU.out)
    have b1 := HB.out
    have ne : bb ∉ [mb] := by simp; exact fun e => b1.ne e.symm
    have td := OW.out.tidy lawK
    have sp := SO.out.again td NN.out (.agg [])
    have tg := owns_tight OW1.out
    rw [sp.size] at tg
    exact ⟨(m1.cell b1.lt ne).trans b1.c0, (m1.cell b1.lt ne).trans b1.c1, (m1.cell b1.lt ne).trans b1.c2, (m1.cell b1.lt ne).trans b1.c3, (m1.frozen b1.lt ne).trans b1.f3, Nat.lt_of_lt_of_le b1.lt m1.size, ⟨_, tg, sp⟩, b1.ne⟩
  · exact ((Mod.refl [mb] w).alloc _).trans (turned_mod TU.out)
set_option maxRecDepth 100000 in
set_option maxHeartbeats 4000000 in
theorem put_new {w : World} {bb mb : Nat} {d c : Int} {S : List Int} (h : BookAt w bb mb d c S) (t q : Int) (j : IsHi t) (h1 : 1 ≤ d) (hq : q = t / d) (hc : c < q) (n : q ∉ S) (hs : S.length < 4096) :
    Calls Try.prog 14 #[.pointer (some ⟨bb, 0, none⟩), .int .i64 t] w (PutPost w bb mb d c (insS q S) q) := by
  have k := made_ok h
  have kf := floor_spec t d q j h1 hq
  have wq := wf_i64 (div_hi j h1)
  rw [← hq] at wq
  have c1 := h.c1
  have c2 := h.c2
  have c3 := h.c3
  have lt := h.lt
  have HB := hide h
  obtain ⟨D, o, so⟩ := h.map
  have e1 : Maps.has D (.int .i64 q) = false := by rw [so.has]; simp [n]
  have e2 := so.size
  obtain ⟨m, hm⟩ : ∃ m, m = Maps.size D := ⟨_, rfl⟩
  have hsz : ¬ (4096 : Int) ≤ (m : Int) := by omega
  have OW := hide o
  have hl : ∀ (x : Obj) ty, (Builtin.len_ #[79] ty #[.map (some mb)]).run Try.prog (w.alloc x) = .ok (.int .i64 (m : Int)) (w.alloc x) := fun x ty => by rw [hm]; exact (OW.out.alloc x).len Try.underlying79 ty
  have SO := hide so
  have WQ := hide wq
  have NN := hide n
  have HS := hide (show S.length < maxLen by unfold maxLen; omega)
  have nc : ¬ q ≤ c := by omega
  clear h j h1 hq hc n hs so o wq e2 hm
  go_enter Try.func14, Try.ntmps14
  go_wp2_with fail
  refine k.mono ?_
  rintro e w' ⟨rfl, rfl⟩
  go_wp2_with fail
  refine (kf _).mono ?_
  rintro e w' ⟨rfl, rfl⟩
  clear k kf
  go_wp2_with (first
    | (at_lookup; refine wpList_lookup_own_unit _ rfl _ _ 79 rfl 2 83 lawK Try.underlying79 (zeroU _) mb _ D rfl OW.out _ _ rfl (keyOf_int_mk Try.underlying2 WQ.out) ?_)
    | (at_mapUpdate; refine wpList_mapUpdate_in _ rfl _ _ _ 79 rfl 2 83 lawK Try.underlying79 _ mb _ D rfl (OW.out.alloc _) HS.out _ _ _ rfl rfl (keyOf_int_mk Try.underlying2 WQ.out) (.agg []) [] unitElem_mk ?_; intro w1 hown1 hturn1; have OW1 := hide hown1; have TU := hide hturn1; clear hown1 hturn1))
  go_returns
  refine ⟨rfl, ?_, ?_⟩
  · have m1 : Mod [mb] w w1 := ((Mod.refl [mb] w).alloc _).trans (turned_mod TU.out)
    have b1 := HB.out
    have ne : bb ∉ [mb] := by simp; exact fun e => b1.ne e.symm
    have td := OW.out.tidy lawK
    have sp := SO.out.put td NN.out (.agg [])
    have tg := owns_tight OW1.out
    rw [sp.size] at tg
    exact ⟨(m1.cell b1.lt ne).trans b1.c0, (m1.cell b1.lt ne).trans b1.c1, (m1.cell b1.lt ne).trans b1.c2, (m1.cell b1.lt ne).trans b1.c3, (m1.frozen b1.lt ne).trans b1.f3, Nat.lt_of_lt_of_le b1.lt m1.size, ⟨_, tg, sp⟩, b1.ne⟩
  · exact ((Mod.refl [mb] w).alloc _).trans (turned_mod TU.out)
end Go.Proofs.Ytpkkcdbmhgmncaa
