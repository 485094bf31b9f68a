/- alarm: each call on a book: what it answers, what it leaves. -/
import Derived.Test.YtnlefakicjojdaaAlal
namespace Go.Proofs.Ytnlefakicjojdaa
set_option linter.unusedVariables false
set_option linter.unusedSimpArgs false
open Go.RowKit W Go.Maps
def updL (L : List Ent) (b : Nat) (s' : St) : List Ent := L.map fun x => if x.2.2 = b then (x.1, s', x.2.2) else x
theorem updL_one (R : Ru) (s s' : St) (b : Nat) : updL [(R, s, b)] b s' = [(R, s', b)] := by simp [updL]
theorem blkOf_upd (L : List Ent) (b : Nat) (s' : St) (nm : ByteArray) : blkOf (updL L b s') nm = blkOf L nm := by
  induction L with
  | nil => rfl
  | cons x r ih =>
    unfold blkOf updL at ih ⊢
    rw [List.map_cons]
    by_cases h : x.1.nm = nm
    · rw [List.find?_cons_of_pos (by by_cases q : x.2.2 = b <;> simp [q, h]), List.find?_cons_of_pos (by simp [h])]
      by_cases q : x.2.2 = b <;> simp [q]
    · rw [List.find?_cons_of_neg (by by_cases q : x.2.2 = b <;> simp [q, h]), List.find?_cons_of_neg (by simp [h])]
      exact ih
theorem ent_inj {L : List Ent} (h : L.Pairwise fun x y => x.1.nm ≠ y.1.nm ∧ x.2.2 ≠ y.2.2) {x y : Ent} (hx : x ∈ L) (hy : y ∈ L) (e : x.2.2 = y.2.2) : x = y := by
  induction L with
  | nil => cases hx
  | cons z r ih =>
    obtain ⟨h1, h2⟩ := List.pairwise_cons.1 h
    rcases List.mem_cons.1 hx with h3 | h3
    · rcases List.mem_cons.1 hy with h4 | h4
      · rw [h3, h4]
      · exact absurd (h3 ▸ e) (h1 y h4).2
    · rcases List.mem_cons.1 hy with h4 | h4
      · exact absurd (h4 ▸ e.symm) (h1 x h3).2
      · exact ih h2 h3 h4
theorem blkOf_mem {L : List Ent} (h : L.Pairwise fun x y => x.1.nm ≠ y.1.nm ∧ x.2.2 ≠ y.2.2) {R : Ru} {s : St} {b : Nat} (hx : (R, s, b) ∈ L) : blkOf L R.nm = some b := by
  induction L with
  | nil => cases hx
  | cons z r ih =>
    obtain ⟨h1, h2⟩ := List.pairwise_cons.1 h
    unfold blkOf at ih ⊢
    rcases List.mem_cons.1 hx with rfl | hx
    · rw [List.find?_cons_of_pos (by simp)]; rfl
    · rw [List.find?_cons_of_neg (by have := (h1 _ hx).1; simpa using this)]
      exact ih h2 hx
theorem BookA.upd {w w' : World} {bb mb : Nat} {L : List Ent} {R : Ru} {s s' : St} {b : Nat} (h : BookA w bb mb L) (hx : (R, s, b) ∈ L) (m : Mod [b] w w') (wat : WatchAt w' b R s') : BookA w' bb mb (updL L b s') := by
  have ok := h.ok _ hx
  simp only at ok
  refine ⟨(m.cell h.lt (by simp; exact fun e => ok.2.1 e.symm)).trans h.c0, (m.cell h.lt (by simp; exact fun e => ok.2.1 e.symm)).trans h.c1, Nat.lt_of_lt_of_le h.lt m.size, h.ne, ?_, ?_, ?_, ?_⟩
  · obtain ⟨D, o, q⟩ := h.map.mod m (by simp; exact fun e => ok.2.2 e.symm)
    exact ⟨D, by unfold updL; rw [List.length_map]; exact o, fun nm => by rw [blkOf_upd]; exact q nm⟩
  · intro y hy
    obtain ⟨x, hxx, rfl⟩ := List.mem_map.1 hy
    by_cases e : x.2.2 = b
    · have := ent_inj h.names hxx hx e
      subst this
      simpa using wat
    · rw [if_neg e]
      exact (h.wat x hxx).mod m (by simpa using e)
  · intro y hy
    obtain ⟨x, hxx, rfl⟩ := List.mem_map.1 hy
    by_cases e : x.2.2 = b
    · rw [if_pos e]; exact h.ok x hxx
    · rw [if_neg e]; exact h.ok x hxx
  · unfold updL
    rw [List.pairwise_map]
    have key : ∀ z : Ent, (if z.2.2 = b then (z.1, s', z.2.2) else z).1 = z.1 ∧ (if z.2.2 = b then (z.1, s', z.2.2) else z).2.2 = z.2.2 := by intro z; split <;> exact ⟨rfl, rfl⟩
    refine h.names.imp fun {x y} q => ?_
    rw [(key x).1, (key y).1, (key x).2, (key y).2]
    exact q
/-- What Feed answers and leaves at a rule. -/
def feE (s : St) (t : Int) : Int := if 0 ≤ t ∧ t ≤ 1099511627775 then if t ≤ s.last then 232 else 0 else 1
def feO (R : Ru) (s : St) (t : Int) (is : Bool) (v1 v0 : Int) : Option (List Value) := if feE s t = 0 then fedO R s t is v1 v0 else none
def feS (R : Ru) (s : St) (t : Int) (is : Bool) (v : Int) : St := if feE s t = 0 then fedS R s t is v else s
def FeedPost (w : World) (bb mb : Nat) (L : List Ent) (b : Nat) (s' : St) (er : Int) (o : Option (List Value)) (e : Ending) (w' : World) : Prop :=
  ∃ v, e = .returned (.tuple #[v, .int .i64 er]) ∧ AlOut w' v o ∧ (∀ g, v.ownBlock = some g → w.heap.size ≤ g) ∧ BookA w' bb mb (updL L b s') ∧ Mod [b] w w'
theorem updL_same {L : List Ent} (h : L.Pairwise fun x y => x.1.nm ≠ y.1.nm ∧ x.2.2 ≠ y.2.2) {R : Ru} {s : St} {b : Nat} (hx : (R, s, b) ∈ L) : updL L b s = L := by
  unfold updL
  refine (List.map_congr_left fun x hxx => ?_).trans (List.map_id L)
  by_cases e : x.2.2 = b
  · have := ent_inj h hxx hx e
    subst this
    simp
  · rw [if_neg e]; rfl
theorem feed_any {w : World} {bb mb b : Nat} {L : List Ent} (h : BookA w bb mb L) (R : Ru) (s : St) (hx : (R, s, b) ∈ L) (hs : R.nm.size ≤ maxLen) (t v1 v0 : Int) (is : Bool) (iv : IsW (v1, v0)) :
    Calls Try.prog 12 #[.pointer (some ⟨bb, 0, none⟩), .string R.nm, .int .i64 t, .agg #[.bool is, .int .i64 v1, .int .u64 v0]] w (FeedPost w bb mb L b (feS R s t is (V v1 v0)) (feE s t) (feO R s t is v1 v0)) := by
  have hb := blkOf_mem h.names hx
  by_cases a : 0 ≤ t ∧ t ≤ 1099511627775
  · by_cases p : t ≤ s.last
    · have e : feE s t = 232 := by unfold feE; rw [if_pos a, if_pos p]
      have q1 : feS R s t is (V v1 v0) = s := by unfold feS; rw [e]; rfl
      have q2 : feO R s t is v1 v0 = none := by unfold feO; rw [e]; rfl
      rw [e, q1, q2]
      refine (feed_past h R.nm hs R s hx hb t v1 v0 is a.1 a.2 p).mono ?_
      rintro x w' ⟨rfl, k⟩
      exact ⟨_, rfl, rfl, (fun g e => by cases e), by rw [updL_same h.names hx]; exact h.later k, Mod.of_below k⟩
    · have e : feE s t = 0 := by unfold feE; rw [if_pos a, if_neg p]
      have q1 : feS R s t is (V v1 v0) = fedS R s t is (V v1 v0) := by unfold feS; rw [if_pos e]
      have q2 : feO R s t is v1 v0 = fedO R s t is v1 v0 := by unfold feO; rw [if_pos e]
      rw [e, q1, q2]
      have fin : ∀ x w', FedPost w b R (fedS R s t is (V v1 v0)) (fedO R s t is v1 v0) x w' → FeedPost w bb mb L b (fedS R s t is (V v1 v0)) 0 (fedO R s t is v1 v0) x w' := by
        rintro x w' ⟨v, rfl, o, g, wat, m⟩
        exact ⟨v, rfl, o, g, h.upd hx m wat, m⟩
      cases is
      · exact (feed_gap h R.nm hs R s hx hb t v1 v0 a.1 a.2 (by omega)).mono fin
      · by_cases s2 : s.st = 2
        · exact (feed_val2 h R.nm hs R s hx hb t v1 v0 a.1 a.2 (by omega) iv s2).mono fin
        · by_cases s3 : s.st = 3
          · exact (feed_val3 h R.nm hs R s hx hb t v1 v0 a.1 a.2 (by omega) iv s2 s3).mono fin
          · exact (feed_val1 h R.nm hs R s hx hb t v1 v0 a.1 a.2 (by omega) iv s2 s3).mono fin
  · have e : feE s t = 1 := by unfold feE; rw [if_neg a]
    have q1 : feS R s t is (V v1 v0) = s := by unfold feS; rw [e]; rfl
    have q2 : feO R s t is v1 v0 = none := by unfold feO; rw [e]; rfl
    rw [e, q1, q2]
    refine (feed_arg h R.nm hs hb t v1 v0 is a).mono ?_
    rintro x w' ⟨rfl, k⟩
    exact ⟨_, rfl, rfl, (fun g e => by cases e), by rw [updL_same h.names hx]; exact h.later k, Mod.of_below k⟩
def muS (s : St) (t : Int) : St := if 0 ≤ t ∧ t ≤ 1099511627775 then { s with mute := t } else s
def muR (t : Int) : Int := if 0 ≤ t ∧ t ≤ 1099511627775 then 0 else 1
theorem mute_any {w : World} {bb mb b : Nat} {L : List Ent} (h : BookA w bb mb L) (R : Ru) (s : St) (hx : (R, s, b) ∈ L) (hs : R.nm.size ≤ maxLen) (t : Int) :
    Calls Try.prog 15 #[.pointer (some ⟨bb, 0, none⟩), .string R.nm, .int .i64 t] w fun e w' => e = .returned (.int .i64 (muR t)) ∧ BookA w' bb mb (updL L b (muS s t)) ∧ Mod [b] w w' := by
  have hb := blkOf_mem h.names hx
  by_cases a : 0 ≤ t ∧ t ≤ 1099511627775
  · unfold muR muS
    rw [if_pos a, if_pos a]
    refine (mute_yes h R.nm hs R s hx hb t a.1 a.2).mono ?_
    rintro e w' ⟨rfl, wat, m⟩
    exact ⟨rfl, h.upd hx m wat, m⟩
  · unfold muR muS
    rw [if_neg a, if_neg a]
    refine (mute_no h R.nm hs t (.inr a)).mono ?_
    rintro e w' ⟨rfl, rfl⟩
    exact ⟨by rw [hb]; unfold muE; simp [a], by rw [updL_same h.names hx]; exact h, Mod.refl _ _⟩
theorem state_any {w : World} {bb mb b : Nat} {L : List Ent} (h : BookA w bb mb L) (R : Ru) (s : St) (hx : (R, s, b) ∈ L) (hs : R.nm.size ≤ maxLen) :
    CalcN 17 #[.pointer (some ⟨bb, 0, none⟩), .string R.nm] w (.tuple #[.int .i64 s.st, .bool true]) := state_yes h R.nm hs R s hx (blkOf_mem h.names hx)
def OnePost (w : World) (R : Ru) (e : Ending) (w' : World) : Prop := ∃ bb mb b, e = .returned (.tuple #[.pointer (some ⟨bb, 0, none⟩), .int .i64 0, .int .i64 0]) ∧ BookA w' bb mb [(R, st0, b)] ∧ w.heap.size ≤ bb ∧ w.heap.size ≤ mb ∧ w.heap.size ≤ b ∧ Below w.heap.size w w'
theorem new_one (R : Ru) (i : RuW R) (hs : R.nm.size ≤ maxLen) (m : mayB R = true) (w : World) (g cap : Nat) (ra : RulesAt w g 0 [R]) : Calls Try.prog 9 #[.slice (some ⟨g, 0, none⟩) 1 cap] w (OnePost w R) := by
  have nb : badI [] [R] 0 = none := by rw [badI_cons, if_neg (by rw [m]; simp)]; rfl
  have K := new_few [R] (some ⟨g, 0, none⟩) cap w (by simp) (.inr ⟨g, 0, rfl, ra⟩) (by intro x hx; rw [List.mem_singleton] at hx; subst hx; exact ⟨i, hs⟩)
  rw [List.length_singleton] at K
  refine K.mono ?_
  intro e w' h
  unfold NewA at h
  rw [if_neg (by simp), nb] at h
  obtain ⟨bb, mb, E, rfl, bk, f, each, l1, l2, k⟩ := h
  rcases E with _ | ⟨⟨R', s, b⟩, _ | ⟨y, r⟩⟩
  · simp at f
  · have e1 : R' = R := by simpa using f
    obtain ⟨z, l3⟩ := each (R', s, b) List.mem_cons_self
    have z : s = st0 := z
    have l3 : w.heap.size ≤ b := l3
    rw [e1, z] at bk
    exact ⟨bb, mb, b, rfl, bk, l1, l2, l3, k⟩
  · simp at f
theorem new_bad1 (R : Ru) (i : RuW R) (hs : R.nm.size ≤ maxLen) (m : mayB R = false) (w : World) (g cap : Nat) (ra : RulesAt w g 0 [R]) : Calls Try.prog 9 #[.slice (some ⟨g, 0, none⟩) 1 cap] w fun e w' => e = .returned (.tuple #[.pointer none, .int .i64 0, .int .i64 230]) ∧ Below w.heap.size w w' := by
  have nb : badI [] [R] 0 = some 0 := by rw [badI_cons, if_pos (.inr m)]
  have K := new_few [R] (some ⟨g, 0, none⟩) cap w (by simp) (.inr ⟨g, 0, rfl, ra⟩) (by intro x hx; rw [List.mem_singleton] at hx; subst hx; exact ⟨i, hs⟩)
  rw [List.length_singleton] at K
  refine K.mono ?_
  intro e w' h
  unfold NewA at h
  rw [if_neg (by simp), nb] at h
  exact h
theorem rules_one {w : World} {b : Nat} {R : Ru} (h : Row w b 0 (ruL R)) : RulesAt w b 0 [R] := ⟨h.lt, fun j hj k v e => by
  have : j = 0 := by simpa using hj
  subst this
  have := h.at k v (by simpa using e)
  simpa using this⟩
end Go.Proofs.Ytnlefakicjojdaa
