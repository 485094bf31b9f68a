/- alarm: say; find; Feed at a watch. -/
import Derived.Test.YtnlefakicjojdaaAlx
namespace Go.Proofs.Ytnlefakicjojdaa
set_option linter.unusedVariables false
set_option linter.unusedSimpArgs false
open Go.RowKit W Go.Maps
/-- What is said: nothing, or one word. -/
def AlOut (w : World) (v : Value) : Option (List Value) → Prop
  | none => v = .slice none 0 0
  | some l => ∃ g, v = .slice (some ⟨g, 0, none⟩) 1 1 ∧ Row w g 0 l
theorem Row.new' (Y : World) (l : List Value) (t : TypeId) (n : Nat) (e : Y.heap.size = n) : Row (Y.alloc (.cells l.toArray t)) n 0 l := by
  subst e; exact Row.new Y l t l rfl
def SayPost (w : World) (b : Nat) (R : Ru) (s : St) (o : Option (List Value)) (e : Ending) (w' : World) : Prop := ∃ v, e = .returned v ∧ AlOut w' v o ∧ (∀ g, v.ownBlock = some g → w.heap.size ≤ g) ∧ WatchAt w' b R s ∧ Mod [b] w w'
set_option maxRecDepth 100000 in
set_option maxHeartbeats 4000000 in
theorem say_no {w : World} {b : Nat} {R : Ru} {s : St} (h : WatchAt w b R s) (at' : Int) (is : Bool) (v1 v0 : Int) (n : sayB R s at' = false) :
    Calls Try.prog 32 #[.pointer (some ⟨b, 0, none⟩), .int .i64 at', .agg #[.bool is, .int .i64 v1, .int .u64 v0]] w (SayPost w b R s none) := by
  have H := hide h
  have lt := h.lt
  have c11 := h.at0 11 _ rfl
  have c13 := h.at0 13 _ rfl
  have c19 := h.at0 19 _ rfl
  have KD := fun (W : World) (k : WatchAt W b R s) => due_spec k at'
  clear h
  have N : Hid (¬ (s.mute ≤ at' ∧ (s.st = s.said → dueB R s at' = true))) := by
    show ¬ _
    unfold sayB at n
    simpa using n
  clear n
  generalize dueB R s at' = d at KD N
  by_cases m : at' < s.mute
  · go_enter Try.func32, Try.ntmps32
    go_wp2_with fail
    go_quiet (fail)
    go_wp2_with fail
    go_returns
    have BB : Below w.heap.size w ((w.alloc (.cells #[.bool is, .int .i64 v1, .int .u64 v0] 38)).drewN nq) := below_drewN ((Below.refl _ _).alloc (Nat.le_refl _) _) _
    exact ⟨_, rfl, rfl, (fun g e => by cases e), H.out.later BB, Mod.of_below BB⟩
  · have q : s.st = s.said ∧ d = false := by
      have n := N.out
      by_cases e : s.st = s.said
      · refine ⟨e, ?_⟩
        cases d
        · rfl
        · exact absurd ⟨by omega, fun _ => rfl⟩ n
      · exact absurd ⟨by omega, fun z => absurd z e⟩ n
    obtain ⟨q1, rfl⟩ := q
    have H2 : Hid (∀ n, WatchAt ((w.alloc (.cells #[.bool is, .int .i64 v1, .int .u64 v0] 38)).drewN n) b R s) := fun n => H.out.later (below_drewN ((Below.refl _ _).alloc (Nat.le_refl _) _) _)
    have B2 : Hid (∀ n, Below w.heap.size w ((w.alloc (.cells #[.bool is, .int .i64 v1, .int .u64 v0] 38)).drewN n)) := fun n => below_drewN ((Below.refl _ _).alloc (Nat.le_refl _) _) _
    rw [← q1] at c13
    clear N q1
    go_enter Try.func32, Try.ntmps32
    go_wp2_with fail
    go_quiet (fail)
    go_wp2_with fail
    refine (KD _ (H2.out _)).mono ?_
    rintro e w2 ⟨rfl, n2, rfl⟩
    go_wp2_with fail
    go_returns
    exact ⟨_, rfl, rfl, (fun g e => by cases e), H2.out _, Mod.of_below (B2.out _)⟩
set_option maxRecDepth 100000 in
set_option maxHeartbeats 4000000 in
theorem say_yes {w : World} {b : Nat} {R : Ru} {s : St} (h : WatchAt w b R s) (at' : Int) (is : Bool) (v1 v0 : Int) (n : sayB R s at' = true) :
    Calls Try.prog 32 #[.pointer (some ⟨b, 0, none⟩), .int .i64 at', .agg #[.bool is, .int .i64 v1, .int .u64 v0]] w (SayPost w b R { s with said := s.st, when := at' } (some [.string R.nm, .int .i64 at', .int .i64 s.said, .int .i64 s.st, .bool (decide (s.st = s.said)), .bool is, .int .i64 v1, .int .u64 v0])) := by
  have H := hide h
  have lt := h.lt
  have c11 := h.at0 11 _ rfl
  have c13 := h.at0 13 _ rfl
  have c19 := h.at0 19 _ rfl
  have KD := fun (W : World) (k : WatchAt W b R s) => due_spec k at'
  clear h
  have N : s.mute ≤ at' ∧ (s.st = s.said → dueB R s at' = true) := by
    unfold sayB at n
    exact of_decide_eq_true n
  clear n
  generalize dueB R s at' = d at KD N
  obtain ⟨n1, n2⟩ := N
  have m : ¬ at' < s.mute := by omega
  have H2 : Hid (∀ n, WatchAt ((w.alloc (.cells #[.bool is, .int .i64 v1, .int .u64 v0] 38)).drewN n) b R s) := fun n => H.out.later (below_drewN ((Below.refl _ _).alloc (Nat.le_refl _) _) _)
  have B2 : Hid (∀ n, Below w.heap.size w ((w.alloc (.cells #[.bool is, .int .i64 v1, .int .u64 v0] 38)).drewN n)) := fun n => below_drewN ((Below.refl _ _).alloc (Nat.le_refl _) _) _
  have C2 : Hid (∀ n, ((w.alloc (.cells #[.bool is, .int .i64 v1, .int .u64 v0] 38)).drewN n).cell? ⟨w.heap.size, 0, none⟩ = some (.bool is) ∧ ((w.alloc (.cells #[.bool is, .int .i64 v1, .int .u64 v0] 38)).drewN n).cell? ⟨w.heap.size, 1, none⟩ = some (.int .i64 v1) ∧ ((w.alloc (.cells #[.bool is, .int .i64 v1, .int .u64 v0] 38)).drewN n).cell? ⟨w.heap.size, 2, none⟩ = some (.int .u64 v0) ∧ w.heap.size < ((w.alloc (.cells #[.bool is, .int .i64 v1, .int .u64 v0] 38)).drewN n).heap.size) := fun n => ⟨by show (w.alloc _).cell? _ = _; simp [go_sem], by show (w.alloc _).cell? _ = _; simp [go_sem], by show (w.alloc _).cell? _ = _; simp [go_sem], by show _ < (w.alloc _).heap.size; simp⟩
  by_cases q : s.st = s.said
  · obtain rfl : d = true := n2 q
    rw [decide_eq_true q]
    rw [← q] at c13
    clear n1 n2 q
    go_enter Try.func32, Try.ntmps32
    go_wp2_with fail
    go_quiet (fail)
    go_wp2_with fail
    refine (KD _ (H2.out _)).mono ?_
    rintro e w2 ⟨rfl, n2, rfl⟩
    rw [show ((w.alloc (.cells #[.bool is, .int .i64 v1, .int .u64 v0] 38)).drewN nq).drewN n2 = (w.alloc (.cells #[.bool is, .int .i64 v1, .int .u64 v0] 38)).drewN (nq + n2) from World.drewN_drewN _ _ _]
    obtain ⟨W, hW⟩ : ∃ W, W = (w.alloc (.cells #[.bool is, .int .i64 v1, .int .u64 v0] 38)).drewN (nq + n2) := ⟨_, rfl⟩
    have HW := H2.out (nq + n2)
    have BW := B2.out (nq + n2)
    obtain ⟨e0, e1, e2, e3⟩ := C2.out (nq + n2)
    rw [← hW] at HW BW e0 e1 e2 e3 ⊢
    clear hW H2 B2 C2 c11 c13 c19
    have HH := hide HW
    have BH := hide BW
    have lW := HW.lt
    have c0 := HW.at0 0 _ rfl
    have c11 := HW.at0 11 _ rfl
    have c13 := HW.at0 13 _ rfl
    have c14 := HW.at0 14 _ rfl
    have f13 := HW.fr0 13 (by simp [wlx])
    have f14 := HW.fr0 14 (by simp [wlx])
    clear HW BW
    go_wp2_with fail
    go_region
    all_goals
      go_wp2_with fail
      go_returns
      refine ⟨_, rfl, ⟨_, rfl, ?_⟩, (fun g e => ?_), ?_, ?_⟩
      · first | exact (Row.new' _ _ _ _ (by simp)).drew | exact Row.new' _ _ _ _ (by simp) | exact (Row.new' _ _ _ _ (by simp)).drewN _
      · have := BH.out.size
        simp [Value.ownBlock] at e
        omega
      · have r := ((HH.out.set0 13 (by simp [wlx]) (.int .i64 s.st)).set0 14 (by simp [wlx]) (.int .i64 at'))
        have r2 := fun o1 o2 => r.later ((((Below.refl _ _).alloc (Nat.le_refl _) o1).alloc (by simp) o2))
        first | exact (r2 _ _).drew | exact r2 _ _ | exact (r2 _ _).drewN _
      · have r := (((((Mod.of_below (l := [b]) BH.out).setCell (p := ⟨b, 13, none⟩) (by simp) (.int .i64 s.st)).setCell (p := ⟨b, 14, none⟩) (by simp) (.int .i64 at')).alloc (.cells #[] 0)))
        repeat (first | exact Mod.of_below BH.out | refine Mod.drew ?_ | refine Mod.alloc ?_ _ | refine Mod.setCell ?_ (by simp) _)
  · have q' : (s.st == s.said) = false := by simpa using q
    rw [decide_eq_false q]
    clear n1 n2 q KD
    go_enter Try.func32, Try.ntmps32
    go_wp2_with fail
    go_quiet (fail)
    obtain ⟨W, hW⟩ : ∃ W, W = (w.alloc (.cells #[.bool is, .int .i64 v1, .int .u64 v0] 38)).drewN nq := ⟨_, rfl⟩
    have HW := H2.out nq
    have BW := B2.out nq
    obtain ⟨e0, e1, e2, e3⟩ := C2.out nq
    rw [← hW] at HW BW e0 e1 e2 e3 ⊢
    have c19' := HW.at0 19 _ rfl
    clear hW H2 B2 C2 c11 c13 c19
    have HH := hide HW
    have BH := hide BW
    have lW := HW.lt
    have c0 := HW.at0 0 _ rfl
    have c11 := HW.at0 11 _ rfl
    have c13 := HW.at0 13 _ rfl
    have c14 := HW.at0 14 _ rfl
    have f13 := HW.fr0 13 (by simp [wlx])
    have f14 := HW.fr0 14 (by simp [wlx])
    clear HW BW
    go_wp2_with fail
    go_region
    all_goals
      go_wp2_with fail
      go_returns
      refine ⟨_, rfl, ⟨_, rfl, ?_⟩, (fun g e => ?_), ?_, ?_⟩
      · first | exact (Row.new' _ _ _ _ (by simp)).drew | exact Row.new' _ _ _ _ (by simp) | exact (Row.new' _ _ _ _ (by simp)).drewN _
      · have := BH.out.size
        simp [Value.ownBlock] at e
        omega
      · have r := ((HH.out.set0 13 (by simp [wlx]) (.int .i64 s.st)).set0 14 (by simp [wlx]) (.int .i64 at'))
        have r2 := fun o1 o2 => r.later ((((Below.refl _ _).alloc (Nat.le_refl _) o1).alloc (by simp) o2))
        first | exact (r2 _ _).drew | exact r2 _ _ | exact (r2 _ _).drewN _
      · have r := (((((Mod.of_below (l := [b]) BH.out).setCell (p := ⟨b, 13, none⟩) (by simp) (.int .i64 s.st)).setCell (p := ⟨b, 14, none⟩) (by simp) (.int .i64 at')).alloc (.cells #[] 0)))
        repeat (first | exact Mod.of_below BH.out | refine Mod.drew ?_ | refine Mod.alloc ?_ _ | refine Mod.setCell ?_ (by simp) _)
end Go.Proofs.Ytnlefakicjojdaa
