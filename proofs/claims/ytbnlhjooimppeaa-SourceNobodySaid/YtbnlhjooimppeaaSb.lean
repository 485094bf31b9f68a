/- source: a table in memory; second, made, Mark. -/
import Derived.Test.YtbnlhjooimppeaaSa
import Derived.Test.YtbnlhjooimppeaaQt
namespace Go.Proofs.Ytbnlhjooimppeaa
set_option linter.unusedVariables false
set_option linter.unusedSimpArgs false
open Go.RowKit W Go.Maps
abbrev srV (s : Sr) : Value := .agg #[.string s.1, .int .i64 s.2.1, .int .i64 s.2.2]
def srD (s : Sr) : DataW Unit := .agg [.lit (.string s.1.data.toList), .lit (.int .i64 s.2.1), .lit (.int .i64 s.2.2)]
theorem srD_inj {s t : Sr} (h : srD s = srD t) : s = t := by
  simp only [srD, DataW.agg.injEq, List.cons.injEq, DataW.lit.injEq, Lit.string.injEq, Lit.int.injEq, true_and, and_true] at h
  obtain ⟨h1, h2, h3⟩ := h
  exact Prod.ext (ByteArray.ext (Array.toList_inj.1 h1)) (Prod.ext h2 h3)
theorem srV_inj {s t : Sr} (h : srV s = srV t) : s = t := by
  simp only [srV, Value.agg.injEq, Array.mk.injEq, List.cons.injEq, Value.string.injEq, Value.int.injEq, true_and, and_true] at h
  obtain ⟨h1, h2, h3⟩ := h
  exact Prod.ext h1 (Prod.ext h2 h3)
open Classical in
noncomputable def elS : ElR Sr where
  R v := if h : ∃ s, v = srV s then some (srD (Classical.choose h), []) else none
  enc := srV
  dat := srD
  ok a := by
    have h : ∃ s, srV a = srV s := ⟨a, rfl⟩
    simp only [dif_pos h]
    have := Classical.choose_spec h
    have e : a = Classical.choose h := srV_inj this
    rw [← e]
  inv v a ps h := by
    by_cases q : ∃ s, v = srV s
    · simp only [dif_pos q] at h
      injection h with h
      injection h with h _
      rw [← srD_inj h]
      exact Classical.choose_spec q
    · simp only [dif_neg q] at h
      cases h
theorem elS_enc (s : Sr) : elS.enc s = srV s := rfl
theorem zeroS (w : World) : (zeroValue 82).run Try.prog w = .ok (srV (ByteArray.empty, 0, 0)) w := by kernel_rfl
theorem unMapS : Try.prog.underlying 110 = some (.map 9 82) := Try.underlying110
/-- The blocks of a table. -/
structure Tb where
  tb : Nat
  ib : Nat
  sb : Nat
  q1 : Nat
  k1 : Nat
  m1 : Nat
  q2 : Nat
  k2 : Nat
  m2 : Nat
/-- A table's memory: its queues' rows are v1, v2; the map holds n sources, M's. -/
structure TMem (B : Nat) (w : World) (b : Tb) (lim : Nat) (late idle : Int) (v1 v2 : Value) (r1 r2 : List En) (n : Nat) (M : ByteArray → Option Sr) (mark : Int) : Prop where
  t : Bw w b.tb 93 #[.pointer (some ⟨b.tb, 0, none⟩), .pointer (some ⟨b.ib, 0, none⟩)]
  i : Bw w b.ib 112 #[.pointer (some ⟨b.q1, 0, none⟩), .map (some b.sb), .pointer (some ⟨b.q2, 0, none⟩), .int .i64 late, .int .i64 idle, .int .i64 mark]
  qa1 : QA B w b.q1 b.k1 b.m1 lim v1 r1
  qa2 : QA B w b.q2 b.k2 b.m2 lim v2 r2
  m : MapG elS w b.sb n M
  a12 : ∀ k, kS3 b.k1 b.m1 v1 k → ¬ kS3 b.k2 b.m2 v2 k
  as1 : ¬ kS3 b.k1 b.m1 v1 b.sb
  as2 : ¬ kS3 b.k2 b.m2 v2 b.sb
  aq1 : ¬ kS3 b.k2 b.m2 v2 b.q1
  aq2 : ¬ kS3 b.k1 b.m1 v1 b.q2
  bt : B ≤ b.tb
  bi : B ≤ b.ib
  bs : B ≤ b.sb
/-- What a table's parts have to do with one another. -/
structure TPl (lim : Nat) (late idle : Int) (A : List Sr) (r1 r2 : List En) (mark : Int) : Prop where
  names : Names A
  s1 : QS (fun s => s.2.2 + idle) A r1
  s2 : QS (fun s => s.2.1) A r2
  sec : ∀ s ∈ A, (0 ≤ s.2.1 ∧ s.2.1 ≤ 1099511627775) ∧ (0 ≤ s.2.2 ∧ s.2.2 ≤ 1099511627775) ∧ s.1.size ≤ maxLen
  lt : 0 ≤ late ∧ late ≤ 1099511627775
  id : 1 ≤ idle ∧ idle ≤ 1099511627775
  mkb : 0 ≤ mark ∧ mark ≤ 1099511627775
  lim : lim ≤ 1024
/-- A table that New made; A: who is there. -/
structure TM (B : Nat) (w : World) (b : Tb) (lim : Nat) (late idle : Int) (v1 v2 : Value) (A : List Sr) (r1 r2 : List En) (mark : Int) : Prop where
  mem : TMem B w b lim late idle v1 v2 r1 r2 A.length (findS A) mark
  pl : TPl lim late idle A r1 r2 mark
/-- All blocks that a call may write. -/
abbrev tS (b : Tb) (v1 v2 : Value) : Nat → Prop := fun k => k = b.ib ∨ k = b.sb ∨ kS3 b.k1 b.m1 v1 k ∨ kS3 b.k2 b.m2 v2 k
theorem infoT : (Try.prog.info? 93).isSome = true := by kernel_rfl
theorem eq_ptrT (b : Nat) (w : World) : (binOp .eql 62 (.pointer (some ⟨b, 0, none⟩)) (.pointer (some ⟨b, 0, none⟩))).run Try.prog w = .ok (.bool true) w := by
  obtain ⟨j, hj⟩ := Option.isSome_iff_exists.1 infoT
  exact run_eql_ptr_same w ⟨b, 0, none⟩ Try.underlying62 hj
/-- The blocks of the table's own are in no queue. -/
theorem Bw.nkS {B : Nat} {w : World} {t : TypeId} {cs : Array Value} {g qb kb mb lim' : Nat} {v : Value} {r : List En} (h : Bw w g t cs) (q : QA B w qb kb mb lim' v r) (n1 : t ≠ 97) (n2 : 43 ≠ t) : ¬ kS3 kb mb v g := by
  obtain ⟨l, hl, _⟩ := q.hq
  rintro (z | z | z)
  · exact h.ne hl.kq.km.k n1 z
  · exact h.ne_map hl.kq.km.map z
  · exact h.ne_row hl.kq.km.row n2 z
theorem mvd_not {w w1 : World} {kb mb : Nat} {v v' : Value} {S : Nat → Prop} (m : Mvd w v v') (h : ∀ k, kS3 kb mb v k → ¬ S k) (hS : ∀ k, S k → k < w.heap.size) : ∀ k, kS3 kb mb v' k → ¬ S k := by
  rintro k (q | q | q) z
  · exact h k (.inl q) z
  · exact h k (.inr (.inl q)) z
  · rcases m k q with e | e
    · exact h k (.inr (.inr e)) z
    · have := hS k z; omega
section
variable {B : Nat} {w w' : World} {b : Tb} {lim : Nat} {late idle : Int} {v1 v2 v1' v2' : Value} {A : List Sr} {r1 r2 r1' r2' : List En} {mark mark' : Int} {n n' : Nat} {M M' : ByteArray → Option Sr}
theorem TMem.later (h : TMem B w b lim late idle v1 v2 r1 r2 n M mark) (c : Below w.heap.size w w') : TMem B w' b lim late idle v1 v2 r1 r2 n M mark :=
  ⟨h.t.later c, h.i.later c, h.qa1.later c, h.qa2.later c, h.m.chg (S := fun _ => False) (Chg.of_below c) (fun q => q), h.a12, h.as1, h.as2, h.aq1, h.aq2, h.bt, h.bi, h.bs⟩
theorem TMem.old (h : TMem B w b lim late idle v1 v2 r1 r2 n M mark) : ∀ k, tS b v1 v2 k → B ≤ k ∧ k < w.heap.size := by
  rintro k (rfl | rfl | q | q)
  · exact ⟨h.bi, h.i.lt⟩
  · exact ⟨h.bs, h.m.lt⟩
  · exact h.qa1.old k q
  · exact h.qa2.old k q
theorem TMem.set1 (h : TMem B w b lim late idle v1 v2 r1 r2 n M mark) (q : QA B w' b.q1 b.k1 b.m1 lim v1' r1') (c : Chg (kS3 b.k1 b.m1 v1) w w') (m : Mvd w v1 v1') : TMem B w' b lim late idle v1' v2 r1' r2 n M mark := by
  have s2 := fun k q => (h.qa2.old k q).2
  refine ⟨h.t.chg c (h.t.nkS h.qa1 (by decide) (by decide)), h.i.chg c (h.i.nkS h.qa1 (by decide) (by decide)), q, h.qa2.chg c h.aq2 (fun k z e => h.a12 k e z), h.m.chg c h.as1, mvd_not (w1 := w) m h.a12 s2, ?_, h.as2, h.aq1, ?_, h.bt, h.bi, h.bs⟩
  · exact mvd_not (w1 := w) (S := fun k => k = b.sb) m (fun k z e => h.as1 (e ▸ z)) (fun k e => e ▸ h.m.lt) _ |> fun f => fun z => f z rfl
  · exact mvd_not (w1 := w) (S := fun k => k = b.q2) m (fun k z e => h.aq2 (e ▸ z)) (fun k e => e ▸ h.qa2.q.lt) _ |> fun f => fun z => f z rfl
theorem TMem.set2 (h : TMem B w b lim late idle v1 v2 r1 r2 n M mark) (q : QA B w' b.q2 b.k2 b.m2 lim v2' r2') (c : Chg (kS3 b.k2 b.m2 v2) w w') (m : Mvd w v2 v2') : TMem B w' b lim late idle v1 v2' r1 r2' n M mark := by
  have s1 := fun k q => (h.qa1.old k q).2
  refine ⟨h.t.chg c (h.t.nkS h.qa2 (by decide) (by decide)), h.i.chg c (h.i.nkS h.qa2 (by decide) (by decide)), h.qa1.chg c h.aq1 (fun k z e => h.a12 k z e), q, h.m.chg c h.as2, fun k z e => mvd_not (w1 := w) m (fun k a b => h.a12 k b a) s1 k e z, h.as1, ?_, ?_, h.aq2, h.bt, h.bi, h.bs⟩
  · exact mvd_not (w1 := w) (S := fun k => k = b.sb) m (fun k z e => h.as2 (e ▸ z)) (fun k e => e ▸ h.m.lt) _ |> fun f => fun z => f z rfl
  · exact mvd_not (w1 := w) (S := fun k => k = b.q1) m (fun k z e => h.aq1 (e ▸ z)) (fun k e => e ▸ h.qa1.q.lt) _ |> fun f => fun z => f z rfl
theorem TMem.setM (h : TMem B w b lim late idle v1 v2 r1 r2 n M mark) (q : MapG elS w' b.sb n' M') (c : Chg (· = b.sb) w w') : TMem B w' b lim late idle v1 v2 r1 r2 n' M' mark :=
  ⟨h.t.chg c (h.t.ne_map h.m), h.i.chg c (h.i.ne_map h.m), h.qa1.chg c (h.qa1.q.ne_map h.m) (fun k z e => h.as1 (e ▸ z)), h.qa2.chg c (h.qa2.q.ne_map h.m) (fun k z e => h.as2 (e ▸ z)), q, h.a12, h.as1, h.as2, h.aq1, h.aq2, h.bt, h.bi, h.bs⟩
theorem TMem.setK (h : TMem B w b lim late idle v1 v2 r1 r2 n M mark) (q : Bw w' b.ib 112 #[.pointer (some ⟨b.q1, 0, none⟩), .map (some b.sb), .pointer (some ⟨b.q2, 0, none⟩), .int .i64 late, .int .i64 idle, .int .i64 mark']) (c : Chg (· = b.ib) w w') : TMem B w' b lim late idle v1 v2 r1 r2 n M mark' :=
  ⟨h.t.chg c (h.t.ne h.i (by decide)), q, h.qa1.chg c (h.qa1.q.ne h.i (by decide)) (fun k z e => h.i.nkS h.qa1 (by decide) (by decide) (e ▸ z)), h.qa2.chg c (h.qa2.q.ne h.i (by decide)) (fun k z e => h.i.nkS h.qa2 (by decide) (by decide) (e ▸ z)), h.m.chg c (fun e => h.i.ne_map h.m e.symm), h.a12, h.as1, h.as2, h.aq1, h.aq2, h.bt, h.bi, h.bs⟩
theorem TM.later (h : TM B w b lim late idle v1 v2 A r1 r2 mark) (c : Below w.heap.size w w') : TM B w' b lim late idle v1 v2 A r1 r2 mark := ⟨h.mem.later c, h.pl⟩
theorem TM.old (h : TM B w b lim late idle v1 v2 A r1 r2 mark) : ∀ k, tS b v1 v2 k → B ≤ k ∧ k < w.heap.size := h.mem.old
set_option maxRecDepth 100000 in
theorem tmade (h : TM B w b lim late idle v1 v2 A r1 r2 mark) : CalcN 61 #[.pointer (some ⟨b.tb, 0, none⟩)] w (.bool true) := by
  have c0 := h.mem.t.cell 0 _ rfl
  have q := eq_ptrT b.tb
  clear h
  go_enter Try.func61, Try.ntmps61
  go_wp2
  go_returns
  exact ⟨rfl, rfl⟩
def secB (t : Int) : Bool := decide (0 ≤ t ∧ t ≤ 1099511627775)
set_option maxRecDepth 100000 in
theorem second11 (t : Int) (w : World) : CalcN 56 #[.int .i64 t] w (.bool (secB t)) := by
  unfold secB
  by_cases h1 : 0 ≤ t
  · have d1 := decide_eq_true h1
    by_cases h2 : t ≤ 1099511627775
    · rw [decide_eq_true ⟨h1, h2⟩]
      have d2 := decide_eq_true h2
      go_enter Try.func56, Try.ntmps56
      go_wp2
      go_returns
      exact ⟨rfl, rfl⟩
    · rw [decide_eq_false (fun q => h2 q.2)]
      have d2 := decide_eq_false h2
      go_enter Try.func56, Try.ntmps56
      go_wp2
      go_returns
      exact ⟨rfl, rfl⟩
  · rw [decide_eq_false (fun q => h1 q.1)]
    have d1 := decide_eq_false h1
    go_enter Try.func56, Try.ntmps56
    go_wp2
    go_returns
    exact ⟨rfl, rfl⟩
set_option maxRecDepth 100000 in
theorem tmark (h : TM B w b lim late idle v1 v2 A r1 r2 mark) : CalcN 35 #[.pointer (some ⟨b.tb, 0, none⟩)] w (.int .i64 mark) := by
  have km := tmade h
  have c1 := h.mem.t.cell 1 _ rfl
  have c5 := h.mem.i.cell 5 _ rfl
  clear h
  go_enter Try.func35, Try.ntmps35
  go_wp2_with (go_at_call 61; refine km.mono ?_; rintro e w' ⟨rfl, rfl⟩)
  go_returns
  exact ⟨rfl, rfl⟩
end
end Go.Proofs.Ytbnlhjooimppeaa
