/- alarm: New. -/
import Derived.Test.YtnlefakicjojdaaAlg
namespace Go.Proofs.Ytnlefakicjojdaa
set_option linter.unusedVariables false
set_option linter.unusedSimpArgs false
open Go.RowKit W Go.Maps
/-- The rules that a slice reads as. -/
structure RulesAt (w : World) (g o : Nat) (L : List Ru) : Prop where
  lt : g < w.heap.size
  cell : ∀ j (hj : j < L.length) k v, (ruL L[j])[k]? = some v → w.cell? ⟨g, o + j * 11 + k, none⟩ = some v
def IsRules (w : World) (a : Option Addr) (L : List Ru) : Prop := L = [] ∨ ∃ g o, a = some ⟨g, o, none⟩ ∧ RulesAt w g o L
theorem RulesAt.later {w w' : World} {g o : Nat} {L : List Ru} (h : RulesAt w g o L) (k : Below w.heap.size w w') : RulesAt w' g o L :=
  ⟨Nat.lt_of_lt_of_le h.lt k.size, fun j hj i v e => (k.cell (p := ⟨g, o + j * 11 + i, none⟩) h.lt).trans (h.cell j hj i v e)⟩
def badI (done : List Ru) : List Ru → Nat → Option Nat
  | [], _ => none
  | R :: r, i => if (∃ x ∈ done, x.nm = R.nm) ∨ mayB R = false then some i else badI (done ++ [R]) r (i + 1)
theorem badI_cons (done : List Ru) (R : Ru) (r : List Ru) (i : Nat) : badI done (R :: r) i = if (∃ x ∈ done, x.nm = R.nm) ∨ mayB R = false then some i else badI (done ++ [R]) r (i + 1) := rfl
theorem RuOk.of {R : Ru} (i : RuW R) (m : mayB R = true) : RuOk R := by
  unfold mayB at m
  simp only [Bool.and_eq_true, decide_eq_true_eq] at m
  exact ⟨i.iw, i.ic, i.is, m.2.1, m.2.2.1, m.2.2.2.1, m.2.2.2.2.1⟩
def NewA (w : World) (L : List Ru) (e : Ending) (w' : World) : Prop :=
  if 64 < L.length then e = .returned (.tuple #[.pointer none, .int .i64 64, .int .i64 3]) ∧ Below w.heap.size w w'
  else match badI [] L 0 with
    | some i => e = .returned (.tuple #[.pointer none, .int .i64 i, .int .i64 230]) ∧ Below w.heap.size w w'
    | none => ∃ bb mb E, e = .returned (.tuple #[.pointer (some ⟨bb, 0, none⟩), .int .i64 0, .int .i64 0]) ∧ BookA w' bb mb E ∧ E.map (fun x => x.1) = L ∧ (∀ x ∈ E, x.2.1 = st0 ∧ w.heap.size ≤ x.2.2) ∧ w.heap.size ≤ bb ∧ w.heap.size ≤ mb ∧ Below w.heap.size w w'
set_option maxRecDepth 100000 in
set_option maxHeartbeats 4000000 in
theorem new_many (L : List Ru) (a : Option Addr) (cap : Nat) (w : World) (n : 64 < L.length) : Calls Try.prog 9 #[.slice a L.length cap] w (NewA w L) := by
  have E : Hid (NewA w L = fun e w' => e = .returned (.tuple #[.pointer none, .int .i64 64, .int .i64 3]) ∧ Below w.heap.size w w') := by
    show _ = _; funext e w'; unfold NewA; rw [if_pos n]
  have n' : (64 : Int) < (L.length : Int) := by omega
  rw [E.out]
  clear E n
  generalize L.length = m at *
  go_enter Try.func9, Try.ntmps9
  go_wp2_with fail
  go_returns
  exact ⟨rfl, Below.refl _ _⟩
theorem NewA.bad {w w' : World} {L : List Ru} {i : Nat} {e : Ending} (n : L.length ≤ 64) (h : badI [] L 0 = some i) (he : e = .returned (.tuple #[.pointer none, .int .i64 i, .int .i64 230])) (hb : Below w.heap.size w w') : NewA w L e w' := by
  unfold NewA; rw [if_neg (by omega), h]; exact ⟨he, hb⟩
theorem NewA.good {w w' : World} {L : List Ru} {bb mb : Nat} {E : List Ent} {e : Ending} (n : L.length ≤ 64) (h : badI [] L 0 = none) (he : e = .returned (.tuple #[.pointer (some ⟨bb, 0, none⟩), .int .i64 0, .int .i64 0])) (bk : BookA w' bb mb E) (f : E.map (fun x => x.1) = L) (each : ∀ x ∈ E, x.2.1 = st0 ∧ w.heap.size ≤ x.2.2) (lb : w.heap.size ≤ bb ∧ w.heap.size ≤ mb) (hb : Below w.heap.size w w') : NewA w L e w' := by
  unfold NewA; rw [if_neg (by omega), h]; exact ⟨bb, mb, E, he, bk, f, each, lb.1, lb.2, hb⟩
/-- Between the rounds. -/
structure NewI (w wr : World) (bb mb : Nat) (L : List Ru) (k : Nat) (E : List Ent) : Prop where
  bk : BookA wr bb mb E
  fst : E.map (fun x => x.1) = L.take k
  each : ∀ x ∈ E, x.2.1 = st0 ∧ w.heap.size ≤ x.2.2
  below : Below w.heap.size w wr
  lb : w.heap.size ≤ bb ∧ w.heap.size ≤ mb
  bad : badI (L.take k) (L.drop k) k = badI [] L 0
theorem turnedM {w w' : World} {b : Nat} (h : w.mapTurned w' b) : Mod [b] w w' := (Mod.refl _ _).grown h.grown (fun k hk => by injection hk with hk; exact .inl (by simp [hk]))
theorem kS_ne {a b : ByteArray} (h : a ≠ b) : kS a ≠ kS b := fun e => h (by
  injection e with e
  exact ByteArray.ext (Array.toList_inj.1 e))
theorem blkOf_snoc (E : List Ent) (x : Ent) (nm : ByteArray) : blkOf (E ++ [x]) nm = (blkOf E nm).or (if x.1.nm = nm then some x.2.2 else none) := by
  unfold blkOf
  rw [List.find?_append]
  cases E.find? fun x => decide (x.1.nm = nm) with
  | some y => simp
  | none => by_cases h : x.1.nm = nm <;> simp [h]
theorem NewI.step {w wr w6 w7 : World} {bb mb k b6 : Nat} {L : List Ru} {E : List Ent} {R : Ru} {D : DataW Unit} (h : NewI w wr bb mb L k E) (k6 : Below wr.heap.size wr w6) (hb : blkOf E R.nm = none) (ok : RuOk R) (l6 : wr.heap.size ≤ b6) (wat : WatchAt w6 b6 R st0)
    (s : ∀ nm : ByteArray, D.atKey (kS nm) (pd none) = pd (blkOf E nm)) (td : IsMap D) (oz : w7.ownsMap Try.prog 9 (ptrElem (H := Unit)) mb (E.length + 1) (D.put (kS R.nm) (pd (some b6)))) (tz : w6.mapTurned w7 mb)
    (tk : L.take (k + 1) = L.take k ++ [R]) (bad : badI (L.take k ++ [R]) (L.drop (k + 1)) (k + 1) = badI [] L 0) : NewI w w7 bb mb L (k + 1) (E ++ [(R, st0, b6)]) := by
  have b0 := h.bk.later k6
  have m7 := turnedM tz
  have lbb := h.bk.lt
  have lmb := h.bk.map.lt
  have lw : ∀ x ∈ E, x.2.2 < wr.heap.size := fun x hx => (h.bk.wat x hx).lt
  have sz := h.below.size
  have nbb : bb ∉ [mb] := by simp; exact fun e => h.bk.ne e.symm
  refine ⟨⟨(m7.cell b0.lt nbb).trans b0.c0, (m7.cell b0.lt nbb).trans b0.c1, Nat.lt_of_lt_of_le b0.lt m7.size, b0.ne, ⟨_, by rw [List.length_append]; exact oz, fun nm => ?_⟩, ?_, ?_, ?_⟩, ?_, ?_, ?_, h.lb, ?_⟩
  · rw [blkOf_snoc]
    by_cases e : R.nm = nm
    · subst e
      rw [atKey_put_same td (show WideAt.IsKeyLit (kS R.nm) from trivial), hb]
      simp
    · rw [atKey_put_other (kS_ne fun q => e q.symm), s nm]
      simp [e]
  · intro x hx
    rcases List.mem_append.1 hx with q | q
    · exact (b0.wat x q).mod m7 (by simp; exact (b0.ok x q).2.2)
    · rw [List.mem_singleton] at q
      subst q
      exact Row.mod wat m7 (by simp; omega)
  · intro x hx
    rcases List.mem_append.1 hx with q | q
    · exact b0.ok x q
    · rw [List.mem_singleton] at q
      subst q
      exact ⟨ok, by simp; omega, by simp; omega⟩
  · refine List.pairwise_append.2 ⟨b0.names, List.pairwise_singleton _ _, fun x hx y hy => ?_⟩
    rw [List.mem_singleton] at hy
    subst hy
    refine ⟨fun e => ?_, by have := lw x hx; simp; omega⟩
    unfold blkOf at hb
    simp only [Option.map_eq_none_iff, List.find?_eq_none] at hb
    exact hb x hx (by simpa using e)
  · rw [List.map_append, h.fst, tk]; rfl
  · intro x hx
    rcases List.mem_append.1 hx with q | q
    · exact h.each x q
    · rw [List.mem_singleton] at q
      subst q
      exact ⟨rfl, by simp; omega⟩
  · exact (h.below.trans (k6.mono sz)).trans (m7.below (Nat.le_trans sz k6.size) (by intro x hx; simp at hx; have := h.lb; omega))
  · rw [tk]; exact bad
set_option maxRecDepth 100000 in
set_option maxHeartbeats 4000000 in
theorem new_few (L : List Ru) (a : Option Addr) (cap : Nat) (w : World) (n : L.length ≤ 64) (hr : IsRules w a L) (hw : ∀ R ∈ L, RuW R ∧ R.nm.size ≤ maxLen) : Calls Try.prog 9 #[.slice a L.length cap] w (NewA w L) := by
  have n' : ¬ (64 : Int) < (L.length : Int) := by omega
  have HR := hide hr
  have HW := hide hw
  have hmm := @run_makeMap Try.prog
  have ES : Hid (NewA w L = NewA w L) := rfl
  obtain ⟨m, hm⟩ : ∃ m, m = L.length := ⟨_, rfl⟩
  rw [← hm] at n n' ⊢
  have HM := hide hm
  clear hr hw hm
  go_enter Try.func9, Try.ntmps9
  go_wp2_with fail
  refine abs_wp (fun W => Hid (NewI w W (w.heap.size + 1) w.heap.size L 0 [])) ?_ ?_
  · refine ⟨⟨by simp [go_sem], by simp [go_sem], by simp, by omega, ⟨.map [], (World.ownsMap_made w _ _ _).alloc _, fun nm => rfl⟩, by simp, by simp, .nil⟩, by simp, by simp, (((Below.refl _ _).alloc (Nat.le_refl _) _).alloc (by simp) _), ⟨by omega, by omega⟩, by simp⟩
  rintro W NW
  obtain ⟨bb, hbb⟩ : ∃ bb, bb = w.heap.size + 1 := ⟨_, rfl⟩
  obtain ⟨mb, hmb⟩ : ∃ mb, mb = w.heap.size := ⟨_, rfl⟩
  rw [← hbb] at NW ⊢
  rw [← hmb] at NW
  clear hbb hmb hmm
  go_loopw [20] (fun i wr => ∃ (k : Nat) (E : List Ent), k ≤ m ∧ i = .int .i64 k ∧ Hid (NewI w wr bb mb L k E)) (fun i _ => m - (intOf i).toNat)
  case atStart => exact ⟨0, [], by omega, rfl, NW⟩
  case round =>
    obtain ⟨k, E, hk, rfl, NI⟩ := hrel
    by_cases hlt : k < m
    · have kL : k < L.length := by have := HM.out; omega
      obtain ⟨g, o, rfl, RA⟩ := HR.out.resolve_left (by intro e; rw [e] at kL; simp at kL)
      have RA1 := RA.later NI.out.below
      obtain ⟨R, hR⟩ : ∃ R, R = L[k] := ⟨_, rfl⟩
      have hin : R ∈ L := by rw [hR]; exact List.getElem_mem _
      have RC := fun j v => RA1.cell k kL j v
      rw [← hR] at RC
      have r0 : wr.cell? ⟨g, o + k * 11, none⟩ = some (.string R.nm) := RC 0 _ rfl
      have r1 := RC 1 _ rfl
      have r2 := RC 2 _ rfl
      have r3 := RC 3 _ rfl
      have r4 := RC 4 _ rfl
      have r5 := RC 5 _ rfl
      have r6 := RC 6 _ rfl
      have r7 := RC 7 _ rfl
      have r8 := RC 8 _ rfl
      have r9 := RC 9 _ rfl
      have r10 := RC 10 _ rfl
      have hlt' : (k : Int) < (m : Int) := by omega
      clear RC RA RA1
      have RW := HW.out R hin
      have OK := hide RW.1
      have NS := hide RW.2
      have dk : L.drop k = R :: L.drop (k + 1) := by rw [hR]; exact List.drop_eq_getElem_cons kL
      have tk : L.take (k + 1) = L.take k ++ [R] := by rw [List.take_add_one, List.getElem?_eq_getElem kL, ← hR]; rfl
      have BD := NI.out.bad
      rw [dk, badI_cons] at BD
      have TK := hide tk
      have b0 := NI.out.bk.lt
      clear hR hin dk tk kL RW
      go_wp2_with fail
      refine abs_wp (fun W2 => Hid (Row W2 wr.heap.size 0 (ruL R)) ∧ Hid (Below wr.heap.size wr W2)) ?_ ?_
      · exact ⟨Row.new _ _ _ _ rfl, (Below.refl _ _).alloc (Nat.le_refl _) _⟩
      rintro W2 ⟨RB, BL⟩
      have B2 := hide (NI.out.bk.later BL.out)
      have hl := fun n => (B2.out.map.mod (w' := W2.drewN n) ((Mod.refl [] W2).drewN n) (by simp)).look R.nm NS.out
      have hl0 := B2.out.map.look R.nm NS.out
      have hld := (B2.out.map.mod (w' := W2.drew) ((Mod.refl [] W2).drew) (by simp)).look R.nm NS.out
      have c1 := B2.out.c1
      have lb2 := B2.out.lt
      have q0 := RB.out.at0 0 _ rfl
      have lr := RB.out.lt
      clear r0 r1 r2 r3 r4 r5 r6 r7 r8 r9 r10 b0 hlt
      have FD : (blkOf E R.nm).isSome = true ↔ ∃ x ∈ L.take k, x.nm = R.nm := by
        rw [← NI.out.fst]
        unfold blkOf
        rw [Option.isSome_map, List.find?_isSome]
        simp
      generalize hbo : blkOf E R.nm = bo at hl hl0 hld FD
      have HBO := hide hbo
      clear hbo
      cases bo with
      | some b9 =>
        rw [if_pos (.inl (FD.1 rfl))] at BD
        simp only [pv] at hl hl0 hld
        go_quiet (fail)
        go_wp2_with fail
        go_returns
        exact NewA.bad (by have := HM.out; omega) BD.symm rfl (below_drewN ((NI.out.below).trans (BL.out.mono NI.out.below.size)) _)
      | none =>
        have FN : ¬ ∃ x ∈ L.take k, x.nm = R.nm := fun z => by have := FD.2 z; simp at this
        simp only [pv] at hl hl0 hld
        have km := may_spec R OK.out
        have MB : Hid ((if mayB R = false then some k else badI (L.take k ++ [R]) (L.drop (k + 1)) (k + 1)) = badI [] L 0) := by
          show _ = _
          rw [← BD]
          simp only [FN, false_or]
        have MT : Hid (mayB R = true → RuOk R) := fun z => RuOk.of OK.out z
        have q1 := RB.out.at0 1 _ rfl
        have q2 := RB.out.at0 2 _ rfl
        have q3 := RB.out.at0 3 _ rfl
        have q4 := RB.out.at0 4 _ rfl
        have q5 := RB.out.at0 5 _ rfl
        have q6 := RB.out.at0 6 _ rfl
        have q7 := RB.out.at0 7 _ rfl
        have q8 := RB.out.at0 8 _ rfl
        have q9 := RB.out.at0 9 _ rfl
        have q10 := RB.out.at0 10 _ rfl
        clear BD FD
        have FH := hide FN
        clear FN
        generalize mayB R = mb9 at km MB MT
        unfold ruV at km
        go_region_with (go_at_call 23; (with_reducible refine Calls.mono (km _) ?_); rintro e w5 ⟨rfl, k5⟩; have j5 : Below W2.heap.size W2 w5 := (by first | exact k5 | exact ((Below.refl W2.heap.size W2).drew).trans k5 | exact (below_drewN (Below.refl W2.heap.size W2) _).trans k5))
        all_goals
          have RB5 := hide (RB.out.later j5)
          have B5 := hide (B2.out.later j5)
          have K5 : Hid (Below wr.heap.size wr w5) := BL.out.trans (j5.mono BL.out.size)
          have c1 := B5.out.c1
          have lb5 := B5.out.lt
          have lr5 := RB5.out.lt
          have q0 := RB5.out.at0 0 _ rfl
          have q1 := RB5.out.at0 1 _ rfl
          have q2 := RB5.out.at0 2 _ rfl
          have q3 := RB5.out.at0 3 _ rfl
          have q4 := RB5.out.at0 4 _ rfl
          have q5 := RB5.out.at0 5 _ rfl
          have q6 := RB5.out.at0 6 _ rfl
          have q7 := RB5.out.at0 7 _ rfl
          have q8 := RB5.out.at0 8 _ rfl
          have q9 := RB5.out.at0 9 _ rfl
          have q10 := RB5.out.at0 10 _ rfl
          clear hl hl0 hld k5 j5 RB B2 BL km lb2 lr
          cases mb9
          · have BD := MB.out
            rw [if_pos rfl] at BD
            go_wp2_with fail
            go_returns
            exact NewA.bad (by have := HM.out; omega) BD.symm rfl (NI.out.below.trans (K5.out.mono NI.out.below.size))
          · have BD := MB.out
            rw [if_neg (by simp)] at BD
            have BDD := hide BD
            have RO := hide (MT.out rfl)
            have kn := newWatch_spec R
            unfold ruV at kn
            have few : E.length < maxLen := by
              have := congrArg List.length NI.out.fst
              rw [List.length_map, List.length_take] at this
              unfold maxLen
              omega
            clear MB MT BD
            go_wp2_with fail
            go_region_with (go_at_call 24; (with_reducible refine Calls.mono (kn _) ?_); rintro e w6 ⟨b6, rfl, l6, wat6, k6⟩; have j6 : Below w5.heap.size w5 w6 := (by first | exact k6 | exact ((Below.refl w5.heap.size w5).drew).trans k6 | exact (below_drewN (Below.refl w5.heap.size w5) _).trans k6); have c16 := (B5.out.later j6).c1; have lb6 := (B5.out.later j6).lt; have q06 := (RB5.out.later j6).at0 0 _ rfl; have lr6 := (RB5.out.later j6).lt; obtain ⟨D, oD, sD⟩ := (B5.out.later j6).map; have ld := oD.isMap; obtain ⟨w7, hz, oz, tz⟩ := oD.store lawS Try.underlying66 few (WideMaps.keyOf_string_mk Try.underlying9 NS.out) (ptrElem_pv (some b6)); simp only [pv] at hz; have WAT := hide wat6; have SD := hide sD; have OZ := hide oz; have TZ := hide tz; have LD := hide ld; clear wat6 sD oz tz ld oD)
            all_goals
              have l6' : wr.heap.size ≤ b6 := Nat.le_trans K5.out.size (by first | exact l6 | simpa using l6)
              have NX := hide (NI.out.step (K5.out.trans (j6.mono K5.out.size)) HBO.out RO.out l6' WAT.out SD.out LD.out OZ.out TZ.out TK.out BDD.out)
              clear hz WAT SD LD OZ TZ q0 q1 q2 q3 q4 q5 q6 q7 q8 q9 q10 q06 c16 c1 RB5 B5 K5 kn
              go_wp2_with fail
              go_roundw
              case rel => exact ⟨k + 1, _, by omega, by go_num, NX⟩
              case measure => simp [intOf]; omega
    · obtain rfl : k = m := by omega
      have F : Hid (E.map (fun x => x.1) = L) := by
        show _ = _
        rw [NI.out.fst, HM.out, List.take_length]
      have BN : Hid (badI [] L 0 = none) := by
        show _ = _
        rw [← NI.out.bad, HM.out, List.drop_length]; rfl
      go_wp2_with fail
      go_returns
      exact NewA.good (by have := HM.out; omega) BN.out rfl NI.out.bk F.out NI.out.each NI.out.lb NI.out.below
end Go.Proofs.Ytnlefakicjojdaa
