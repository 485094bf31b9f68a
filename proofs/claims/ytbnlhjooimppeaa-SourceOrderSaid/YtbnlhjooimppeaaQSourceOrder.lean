/- Texts that belong together: Soa Sob Ints Sre Lawso FSourceOrder. -/
import Derived.Test.YtbnlhjooimppeaaG04
import Derived.Test.YtbnlhjooimppeaaG03
import Derived.Test.YtbnlhjooimppeaaG01
import Derived.ChangeSlices
import Derived.Deep.CutRange
import Derived.Test.YtbnlhjooimppeaaRows
import Derived.WalkKit
import Derived.ProofKit
import Derived.OpenShut
import Derived.ShutString
import Derived.ChangeOld
import Derived.Below
import Derived.SizedLaws
import Derived.Deep.SlicePairs
set_option linter.unusedSimpArgs false
set_option linter.unusedVariables false
/- source: sources heard in any order, plainly. -/
namespace Go.Proofs.Ytbnlhjooimppeaa
set_option linter.unusedVariables false
set_option linter.unusedSimpArgs false
open Go.RowKit W Go.Maps
/-- All have been heard at 0. -/
structure O1 (A : List Sr) (X : ByteArray → Prop) (i : Nat) : Prop where
  names : Names A
  mem : ∀ s, s ∈ A ↔ s.2 = (0, 0) ∧ X s.1
  len : A.length ≤ i
theorem O1.nil : O1 [] (fun _ => False) 0 := ⟨List.Pairwise.nil, by simp, Nat.le_refl _⟩
theorem sec0 : secB 0 = true := by decide
theorem srcOf0 {A : List Sr} {X : ByteArray → Prop} {i : Nat} (h : O1 A X i) (nm : ByteArray) : newS A nm 0 0 = (nm, 0, 0) := by
  unfold newS srcOf
  cases e : findS A nm with
  | none => rfl
  | some s =>
    have := (h.mem s).1 ((findS_some h.names).1 e).1
    simp only [Option.getD_some]
    rw [this.1]
    rfl
theorem O1.ok {A : List Sr} {X : ByteArray → Prop} {i : Nat} (h : O1 A X i) (hi : i < 1024) (nm : ByteArray) : heOk 1024 A nm 0 0 = true := by
  unfold heOk
  rw [sec0]
  have := h.len
  cases (findS A nm).isSome
  · simp; omega
  · rfl
theorem O1.step {A : List Sr} {X : ByteArray → Prop} {i : Nat} (h : O1 A X i) (hi : i < 1024) (nm : ByteArray) : O1 (heA 1024 A nm 0 0) (fun x => X x ∨ x = nm) (i + 1) := by
  have e : heA 1024 A nm 0 0 = putS A (nm, 0, 0) := by
    unfold heA
    rw [h.ok hi nm, srcOf0 h nm]; rfl
  rw [e]
  refine ⟨h.names.put _, fun s => ?_, ?_⟩
  · rw [mem_putS h.names, h.mem]
    constructor
    · rintro (q | ⟨⟨q1, q2⟩, q3⟩)
      · subst q; exact ⟨rfl, .inr rfl⟩
      · exact ⟨q1, .inl q2⟩
    · rintro ⟨q1, q2⟩
      by_cases c : s.1 = nm
      · left; exact Prod.ext c q1
      · right
        rcases q2 with q2 | q2
        · exact ⟨⟨q1, q2⟩, c⟩
        · exact absurd q2 c
  · rw [putS_len h.names]
    have := h.len
    split <;> omega
theorem O1.mark {A : List Sr} {X : ByteArray → Prop} {i : Nat} (h : O1 A X i) {late : Int} (hl : 0 ≤ late) : markS A late 0 = 0 := by
  unfold markS
  cases e : leastS A with
  | none => rfl
  | some m =>
    obtain ⟨_, t, ht, q⟩ := leastS_spec e
    have := ((h.mem t).1 ht).1
    simp only
    have z : t.2.1 = 0 := by rw [this]
    omega
theorem O1.heM {A : List Sr} {X : ByteArray → Prop} {i : Nat} (h : O1 A X i) (hi : i < 1024) {late : Int} (hl : 0 ≤ late) (nm : ByteArray) : heM 1024 late A 0 nm 0 0 = 0 := by
  have e : markS (heA 1024 A nm 0 0) late 0 = 0 := (h.step hi nm).mark hl
  unfold Go.Proofs.Ytbnlhjooimppeaa.heM
  unfold heA at e
  rw [h.ok hi nm] at e ⊢
  exact e
theorem O1.same {A B : List Sr} {X Y : ByteArray → Prop} {i j : Nat} (h : O1 A X i) (k : O1 B Y j) (e : ∀ x, X x ↔ Y x) : A = B := by
  have n1 : A.Nodup := List.Pairwise.imp (fun {a b} q e => ltB_ne q (congrArg (fun p : Sr => p.1) e)) h.names
  have n2 : B.Nodup := List.Pairwise.imp (fun {a b} q e => ltB_ne q (congrArg (fun p : Sr => p.1) e)) k.names
  refine names_unique k.names ((List.perm_ext_iff_of_nodup n1 n2).2 fun s => ?_) (List.Pairwise.imp (fun {a b} q => ltB_asym q) h.names)
  rw [h.mem, k.mem, e]
/-! ### the second part -/
/-- Each with its greatest second. -/
def stM (A : List Sr) (M : ByteArray → Int) : List Sr := A.map fun s => (s.1, M s.1, 0)
theorem stM_names {A : List Sr} (h : Names A) (M : ByteArray → Int) : Names (stM A M) := List.pairwise_map.2 h
theorem stM_find {A : List Sr} (h : Names A) (M : ByteArray → Int) {nm : ByteArray} (hm : ∃ s ∈ A, s.1 = nm) : findS (stM A M) nm = some (nm, M nm, 0) := by
  obtain ⟨s, hs, rfl⟩ := hm
  exact (findS_some (stM_names h M)).2 ⟨List.mem_map.2 ⟨s, hs, rfl⟩, rfl⟩
def upM (M : ByteArray → Int) (nm : ByteArray) (t : Int) : ByteArray → Int := fun x => if x = nm ∧ secB t = true then max (M x) t else M x
theorem stM_ok {A : List Sr} (h : Names A) (M : ByteArray → Int) {nm : ByteArray} (hm : ∃ s ∈ A, s.1 = nm) (t : Int) : heOk 1024 (stM A M) nm t 0 = secB t := by
  unfold heOk
  rw [sec0, stM_find h M hm]
  simp
theorem stM_hear {A : List Sr} (h : Names A) (M : ByteArray → Int) {nm : ByteArray} (hm : ∃ s ∈ A, s.1 = nm) (t : Int) : heA 1024 (stM A M) nm t 0 = stM A (upM M nm t) := by
  unfold heA
  rw [stM_ok h M hm]
  cases hs : secB t with
  | false =>
    have : upM M nm t = M := by funext x; unfold upM; rw [hs]; simp
    rw [this]; rfl
  | true =>
    have nw : newS (stM A M) nm t 0 = (nm, max (M nm) t, 0) := by
      unfold newS srcOf
      rw [stM_find h M hm]; rfl
    rw [nw]
    simp only [if_true]
    have n1 := (stM_names h M).put (nm, max (M nm) t, 0)
    have n2 := stM_names h (upM M nm t)
    refine names_unique n2 ?_ (List.Pairwise.imp (fun {a b} q => ltB_asym q) n1)
    have d1 : (putS (stM A M) (nm, max (M nm) t, 0)).Nodup := List.Pairwise.imp (fun {a b} q e => ltB_ne q (congrArg (fun p : Sr => p.1) e)) n1
    have d2 : (stM A (upM M nm t)).Nodup := List.Pairwise.imp (fun {a b} q e => ltB_ne q (congrArg (fun p : Sr => p.1) e)) n2
    refine (List.perm_ext_iff_of_nodup d1 d2).2 fun s => ?_
    rw [mem_putS (stM_names h M)]
    unfold stM
    rw [List.mem_map, List.mem_map]
    constructor
    · rintro (q | ⟨⟨x, hx, rfl⟩, q⟩)
      · obtain ⟨x, hx, e⟩ := hm
        refine ⟨x, hx, ?_⟩
        rw [q, e]
        unfold upM
        rw [if_pos ⟨rfl, hs⟩]
      · refine ⟨x, hx, ?_⟩
        unfold upM
        rw [if_neg (fun z => q z.1)]
    · rintro ⟨x, hx, rfl⟩
      by_cases c : x.1 = nm
      · left
        unfold upM
        rw [if_pos ⟨c, hs⟩, c]
      · right
        refine ⟨⟨x, hx, ?_⟩, c⟩
        unfold upM
        rw [if_neg (fun z => c z.1)]
theorem stM_code {A : List Sr} (h : Names A) (M : ByteArray → Int) {nm : ByteArray} (hm : ∃ s ∈ A, s.1 = nm) (t : Int) : heC 1024 (stM A M) nm t 0 = if secB t then 0 else 1 := by
  unfold heC
  rw [stM_ok h M hm, sec0]
  cases secB t <;> rfl
theorem upM_le (M : ByteArray → Int) (nm : ByteArray) (t : Int) (x : ByteArray) : M x ≤ upM M nm t x := by
  unfold upM
  split <;> omega
theorem stM_mark {A : List Sr} {M M' : ByteArray → Int} (hM : ∀ x, M x ≤ M' x) (late : Int) : markS (stM A M') late (markS (stM A M) late 0) = markS (stM A M') late 0 := by
  unfold markS
  cases e : leastS (stM A M) with
  | none => rfl
  | some m =>
    cases e' : leastS (stM A M') with
    | none =>
      have : A = [] := by
        cases A with
        | nil => rfl
        | cons a A => cases e'
      subst this
      cases e
    | some m' =>
      obtain ⟨q1, _⟩ := leastS_spec e
      obtain ⟨_, t, ht, q2⟩ := leastS_spec e'
      obtain ⟨s, hs, rfl⟩ := List.mem_map.1 ht
      have := q1 (s.1, M s.1, 0) (List.mem_map.2 ⟨s, hs, rfl⟩)
      have := hM s.1
      simp only at *
      omega
theorem stM_heM {A : List Sr} (h : Names A) (M : ByteArray → Int) {nm : ByteArray} (hm : ∃ s ∈ A, s.1 = nm) (t late : Int) : heM 1024 late (stM A M) (markS (stM A M) late 0) nm t 0 = markS (stM A (upM M nm t)) late 0 := by
  rw [heM_eq (markS_idem _ _ _), stM_hear h M hm]
  exact stM_mark (upM_le M nm t) late
/-- Behind a list of what was heard. -/
def mxP (l : List (ByteArray × Int)) : ByteArray → Int := l.foldl (fun M p => upM M p.1 p.2) (fun _ => 0)
theorem mxP_snoc (l : List (ByteArray × Int)) (p : ByteArray × Int) : mxP (l ++ [p]) = upM (mxP l) p.1 p.2 := by simp [mxP]
theorem mxP_spec (l : List (ByteArray × Int)) : ∀ (M : ByteArray → Int) (x : ByteArray), M x ≤ l.foldl (fun M p => upM M p.1 p.2) M x ∧ (∀ p ∈ l, p.1 = x → secB p.2 = true → p.2 ≤ l.foldl (fun M p => upM M p.1 p.2) M x) ∧ (l.foldl (fun M p => upM M p.1 p.2) M x = M x ∨ ∃ p ∈ l, p.1 = x ∧ secB p.2 = true ∧ l.foldl (fun M p => upM M p.1 p.2) M x = p.2) := by
  induction l with
  | nil => intro M x; exact ⟨Int.le_refl _, by simp, .inl rfl⟩
  | cons a l ih =>
    intro M x
    obtain ⟨h1, h2, h3⟩ := ih (upM M a.1 a.2) x
    simp only [List.foldl_cons]
    have u := upM_le M a.1 a.2 x
    refine ⟨Int.le_trans u h1, fun p hp e s => ?_, ?_⟩
    · rcases List.mem_cons.1 hp with q | q
      · subst q
        refine Int.le_trans ?_ h1
        unfold upM
        rw [if_pos ⟨e.symm, s⟩]
        omega
      · exact h2 p q e s
    · rcases h3 with q | ⟨p, hp, e, s, q⟩
      · rw [q]
        by_cases c : x = a.1 ∧ secB a.2 = true
        · by_cases z : M x ≤ a.2
          · right
            refine ⟨a, List.mem_cons_self, c.1.symm, c.2, ?_⟩
            unfold upM
            rw [if_pos c]; omega
          · left
            unfold upM
            rw [if_pos c]; omega
        · left
          unfold upM
          rw [if_neg c]
      · exact .inr ⟨p, List.mem_cons_of_mem _ hp, e, s, q⟩
theorem mxP_perm {l m : List (ByteArray × Int)} (h : ∀ p, p ∈ l ↔ p ∈ m) : mxP l = mxP m := by
  funext x
  obtain ⟨a1, a2, a3⟩ := mxP_spec l (fun _ => 0) x
  obtain ⟨b1, b2, b3⟩ := mxP_spec m (fun _ => 0) x
  unfold mxP
  refine Int.le_antisymm ?_ ?_
  · rcases a3 with q | ⟨p, hp, e, s, q⟩
    · rw [q]; exact b1
    · rw [q]; exact b2 p ((h p).1 hp) e s
  · rcases b3 with q | ⟨p, hp, e, s, q⟩
    · rw [q]; exact a1
    · rw [q]; exact a2 p ((h p).2 hp) e s
theorem stM_zero {A : List Sr} {X : ByteArray → Prop} {i : Nat} (h : O1 A X i) : stM A (mxP []) = A := by
  unfold stM
  conv => rhs; rw [← List.map_id A]
  refine List.map_congr_left fun s hs => ?_
  have := ((h.mem s).1 hs).1
  show (s.1, (0 : Int), (0 : Int)) = s
  exact Prod.ext rfl this.symm
/-- Whom each time is heard of. -/
def plO (N : List ByteArray) (L : List Int) : List (ByteArray × Int) := (List.range L.length).map fun j => (N.getD (j % N.length) ByteArray.empty, L.getD j 0)
theorem plO_len (N : List ByteArray) (L : List Int) : (plO N L).length = L.length := by simp [plO]
theorem plO_at {N : List ByteArray} {L : List Int} {j : Nat} (hj : j < L.length) (hn : j % N.length < N.length) : (plO N L)[j]'(by rw [plO_len]; exact hj) = (N[j % N.length], L[j]) := by
  unfold plO
  rw [List.getElem_map, List.getElem_range, List.getD_eq_getElem?_getD, List.getElem?_eq_getElem hn, List.getD_eq_getElem?_getD, List.getElem?_eq_getElem hj]
  rfl
theorem mxP_take {l : List (ByteArray × Int)} {j : Nat} (h : j < l.length) : mxP (l.take (j + 1)) = upM (mxP (l.take j)) l[j].1 l[j].2 := by
  rw [List.take_add_one, List.getElem?_eq_getElem h]
  exact mxP_snoc _ _
theorem O1.has {A : List Sr} {N : List ByteArray} {i : Nat} (h : O1 A (fun x => x ∈ N) i) {nm : ByteArray} (hm : nm ∈ N) : ∃ s ∈ A, s.1 = nm := ⟨(nm, 0, 0), (h.mem _).2 ⟨rfl, hm⟩, rfl⟩
end Go.Proofs.Ytbnlhjooimppeaa
/- source: two tables. -/
namespace Go.Proofs.Ytbnlhjooimppeaa
set_option linter.unusedVariables false
set_option linter.unusedSimpArgs false
open Go.RowKit W Go.Maps
section
variable {B B' : Nat} {W w wr w1 w' : World} {b d : Tb} {lim lim' : Nat} {late idle late' idle' : Int} {v1 v2 u1 u2 v1' v2' : Value} {A A' A2 : List Sr} {r1 r2 s1 s2 r1' r2' : List En} {mark mark' mark2 : Int}
/-- What one table's call leaves of another. -/
theorem TM.tab2 (t : TM B w b lim late idle v1 v2 A r1 r2 mark) (q : TM B' w d lim' late' idle' u1 u2 A' s1 s2 mark') (ds : ∀ k, tS b v1 v2 k → ¬ tS d u1 u2 k) (c : Chg (tS d u1 u2) w w') : TM B w' b lim late idle v1 v2 A r1 r2 mark := by
  have nq : ∀ {g : Nat} {cs : Array Value}, Bw w g 59 cs → ¬ tS d u1 u2 g := fun h => by
    rintro (z | z | z | z)
    · exact h.ne q.mem.i (by decide) z
    · exact h.ne_map q.mem.m z
    · exact h.nkS q.mem.qa1 (by decide) (by decide) z
    · exact h.nkS q.mem.qa2 (by decide) (by decide) z
  have nt : ∀ {g : Nat} {cs : Array Value}, Bw w g 93 cs → ¬ tS d u1 u2 g := fun h => by
    rintro (z | z | z | z)
    · exact h.ne q.mem.i (by decide) z
    · exact h.ne_map q.mem.m z
    · exact h.nkS q.mem.qa1 (by decide) (by decide) z
    · exact h.nkS q.mem.qa2 (by decide) (by decide) z
  exact ⟨⟨t.mem.t.chg c (nt t.mem.t), t.mem.i.chg c (ds _ (.inl rfl)), t.mem.qa1.chg c (nq t.mem.qa1.q) (fun k z => ds k (.inr (.inr (.inl z)))), t.mem.qa2.chg c (nq t.mem.qa2.q) (fun k z => ds k (.inr (.inr (.inr z)))), t.mem.m.chg c (ds _ (.inr (.inl rfl))), t.mem.a12, t.mem.as1, t.mem.as2, t.mem.aq1, t.mem.aq2, t.mem.bt, t.mem.bi, t.mem.bs⟩, t.pl⟩
/-- Both, between calls. -/
structure T2 (W : World) (b d : Tb) (late idle : Int) (wr : World) (v1 v2 u1 u2 : Value) (A : List Sr) (r1 r2 : List En) (mark : Int) (A' : List Sr) (s1 s2 : List En) (mark' : Int) : Prop where
  ta : TM W.heap.size wr b 1024 late idle v1 v2 A r1 r2 mark
  tb : TM W.heap.size wr d 1024 late idle u1 u2 A' s1 s2 mark'
  ds : ∀ k, tS b v1 v2 k → ¬ tS d u1 u2 k
  bl : Below W.heap.size W wr
theorem T2.later (h : T2 W b d late idle wr v1 v2 u1 u2 A r1 r2 mark A' s1 s2 mark') (k : Below wr.heap.size wr w1) : T2 W b d late idle w1 v1 v2 u1 u2 A r1 r2 mark A' s1 s2 mark' :=
  ⟨h.ta.later k, h.tb.later k, h.ds, h.bl.trans (k.mono h.bl.size)⟩
theorem tS_move {S : Nat → Prop} {z : World} (h : ∀ k, tS b v1 v2 k → ¬ S k) (m1 : Mvd z v1 v1') (m2 : Mvd z v2 v2') (hS : ∀ k, S k → k < z.heap.size) : ∀ k, tS b v1' v2' k → ¬ S k := by
  rintro k (q | q | q | q) s
  · exact h k (.inl q) s
  · exact h k (.inr (.inl q)) s
  · rcases q with q | q | q
    · exact h k (.inr (.inr (.inl (.inl q)))) s
    · exact h k (.inr (.inr (.inl (.inr (.inl q))))) s
    · rcases m1 k q with e | e
      · exact h k (.inr (.inr (.inl (.inr (.inr e))))) s
      · have := hS k s; omega
  · rcases q with q | q | q
    · exact h k (.inr (.inr (.inr (.inl q)))) s
    · exact h k (.inr (.inr (.inr (.inr (.inl q))))) s
    · rcases m2 k q with e | e
      · exact h k (.inr (.inr (.inr (.inr (.inr e))))) s
      · have := hS k s; omega
theorem T2.callA (h : T2 W b d late idle wr v1 v2 u1 u2 A r1 r2 mark A' s1 s2 mark') (t : TM W.heap.size w' b 1024 late idle v1' v2' A2 r1' r2' mark2) (c : Chg (tS b v1 v2) wr w') (m1 : Mvd wr v1 v1') (m2 : Mvd wr v2 v2') : T2 W b d late idle w' v1' v2' u1 u2 A2 r1' r2' mark2 A' s1 s2 mark' :=
  ⟨t, h.tb.tab2 h.ta (fun k q z => h.ds k z q) c, tS_move h.ds m1 m2 (fun k q => (h.tb.old k q).2), h.bl.trans (c.below (fun k' q => (h.ta.old k' q).1) h.bl.size)⟩
theorem T2.callB (h : T2 W b d late idle wr v1 v2 u1 u2 A r1 r2 mark A' s1 s2 mark') (t : TM W.heap.size w' d 1024 late idle v1' v2' A2 r1' r2' mark2) (c : Chg (tS d u1 u2) wr w') (m1 : Mvd wr u1 v1') (m2 : Mvd wr u2 v2') : T2 W b d late idle w' v1 v2 v1' v2' A r1 r2 mark A2 r1' r2' mark2 :=
  ⟨h.ta.tab2 h.tb h.ds c, t, fun k q z => tS_move (S := tS b v1 v2) (fun k q z => h.ds k z q) m1 m2 (fun k q => (h.ta.old k q).2) k z q, h.bl.trans (c.below (fun k' q => (h.tb.old k' q).1) h.bl.size)⟩
/-- Hear of the first; of the second. -/
theorem hearA (h : T2 W b d late idle wr v1 v2 u1 u2 A r1 r2 mark A' s1 s2 mark') (nm : ByteArray) (xs : nm.size ≤ maxLen) (t n : Int) : Calls Try.prog 39 #[.pointer (some ⟨b.tb, 0, none⟩), .string nm, .int .i64 t, .int .i64 n] wr fun e w' =>
    ∃ v1' v2' r1' r2', e = .returned (.int .i64 (heC 1024 A nm t n)) ∧ Hid (T2 W b d late idle w' v1' v2' u1 u2 (heA 1024 A nm t n) r1' r2' (heM 1024 late A mark nm t n) A' s1 s2 mark') := by
  refine (thear_spec h.ta h.bl.size nm xs t n).mono ?_
  rintro e w' ⟨v1', v2', r1', r2', rfl, q, c, m1, m2⟩
  exact ⟨v1', v2', r1', r2', rfl, h.callA q c m1 m2⟩
theorem hearB (h : T2 W b d late idle wr v1 v2 u1 u2 A r1 r2 mark A' s1 s2 mark') (nm : ByteArray) (xs : nm.size ≤ maxLen) (t n : Int) : Calls Try.prog 39 #[.pointer (some ⟨d.tb, 0, none⟩), .string nm, .int .i64 t, .int .i64 n] wr fun e w' =>
    ∃ u1' u2' s1' s2', e = .returned (.int .i64 (heC 1024 A' nm t n)) ∧ Hid (T2 W b d late idle w' v1 v2 u1' u2' A r1 r2 mark (heA 1024 A' nm t n) s1' s2' (heM 1024 late A' mark' nm t n)) := by
  refine (thear_spec h.tb h.bl.size nm xs t n).mono ?_
  rintro e w' ⟨v1', v2', r1', r2', rfl, q, c, m1, m2⟩
  exact ⟨v1', v2', r1', r2', rfl, h.callB q c m1 m2⟩
theorem size_txt (w : World) : (Go.sizeOf (Try.prog.elem 78)).run Try.prog w = .ok 1 w := by kernel_rfl
theorem addz12 (x : Addr) : x.add 0 = x := by unfold Addr.add; simp
theorem txts_to {a : Option Addr} {n c e : Nat} (he : e ≤ n) (hc : n ≤ c) (v : World) : (Instr.slice 78 (.slice a n c) none (some (.int .i64 (e : Int))) none).run Try.prog v = .ok (.slice a e c) v := by
  rw [run_slice_h (P := Try.prog) (w := v) 78 a n c (by kernel_rfl) .i64 (e : Int) (by omega) (by omega), size_txt]
  cases a <;> simp [Result.andThen, sliced, addz12]
theorem IsTxts.take {a : Option Addr} {L : List ByteArray} (h : IsTxts w a L) (k : Nat) : IsTxts w a (L.take k) := by
  rcases h with h | ⟨g, o, e, q⟩
  · subst h; exact .inl (by simp)
  · refine .inr ⟨g, o, e, fun j hj => ?_, q.lt⟩
    rw [List.length_take] at hj
    rw [q.cell j (by omega), List.getElem_take]
end
end Go.Proofs.Ytbnlhjooimppeaa
/- Slices of numbers that came in, nil too. -/
namespace Go.Proofs.Ytbnlhjooimppeaa
set_option linter.unusedVariables false
set_option linter.unusedSimpArgs false
open Go.RowKit W
/-- Numbers of a kind in a block. -/
structure LieI (k : IntKind) (w : World) (g o : Nat) (xs : List Int) : Prop where
  cell : ∀ j (h : j < xs.length), w.cell? ⟨g, o + j, none⟩ = some (.int k xs[j])
  lt : g < w.heap.size
theorem LieI.later {k : IntKind} {w w' : World} {g o : Nat} {xs : List Int} (h : LieI k w g o xs) (b : Below w.heap.size w w') : LieI k w' g o xs :=
  ⟨fun j hj => (b.cell (p := ⟨g, o + j, none⟩) h.lt).trans (h.cell j hj), Nat.lt_of_lt_of_le h.lt b.size⟩
/-- A slice of numbers, nil too. -/
def IsInts (k : IntKind) (w : World) (a : Option Addr) (xs : List Int) : Prop := xs = [] ∨ ∃ g o, a = some ⟨g, o, none⟩ ∧ LieI k w g o xs
theorem IsInts.later {k : IntKind} {w w' : World} {a : Option Addr} {xs : List Int} (h : IsInts k w a xs) (b : Below w.heap.size w w') : IsInts k w' a xs := by
  rcases h with h | ⟨g, o, rfl, h⟩
  · exact .inl h
  · exact .inr ⟨g, o, rfl, h.later b⟩
theorem cellb_lt {w : World} {b o : Nat} {v : Value} (h : w.cell? ⟨b, o, none⟩ = some v) : b < w.heap.size := by
  rcases Nat.lt_or_ge b w.heap.size with hlt | hge
  · exact hlt
  · unfold World.cell? at h; simp [Array.getElem?_eq_none hge] at h
open Go.ChangeShapes Go.WideShapes in
/-- A slice of numbers as it is read. -/
theorem isInts_of {H : Type} {enc : TypeId × Value → H} {P : Program} {w : World} {base : Nat} {spare : Nat → Bool} {held : Bool} {n : Nat} {t e : TypeId} {k : IntKind} {v : Value} {y : DataW H × List MemPlace}
    (ht : P.underlying t = some (.slice e)) (he : P.underlying e = some (.int k)) (hc : P.cellsOf e = 1) (h : DataW.trod enc P w base spare held n t [v] = some y) :
    ∃ a c xs, v = .slice a xs.length c ∧ IsInts k w a xs ∧ ∀ x ∈ xs, (Lit.int k x).wf = true := by
  rcases open_ints ht he hc h with ⟨hcs, _⟩ | ⟨a, len, cap, zs, hcs, _, hl, hm, hz, _, hcell, hwf⟩
  · simp at hcs
    exact ⟨none, 0, [], hcs, .inl rfl, by simp⟩
  · simp at hcs
    have lz : len ≤ zs.length := by rw [hz]; split <;> omega
    have lt : (zs.take len).length = len := by rw [List.length_take]; omega
    refine ⟨some a, cap, zs.take len, by rw [lt]; exact hcs, ?_, fun x hx => hwf x (List.mem_of_mem_take hx)⟩
    rcases Nat.eq_zero_or_pos len with rfl | hpos
    · exact .inl (by simp)
    · have g0 := hcell 0 (by omega)
      obtain ⟨b, off, spot⟩ := a
      have hspot : spot = none := by simpa [Addr.add] using World.cell?_spot g0
      subst hspot
      refine .inr ⟨b, off, rfl, ⟨fun j hj => ?_, ?_⟩⟩
      · rw [lt] at hj
        have := hcell j (by omega)
        rw [add_plain] at this
        rw [this]
        simp [List.getD_eq_getElem?_getD, List.getElem?_eq_getElem (show j < zs.length by omega)]
      · have := hcell 0 (by omega)
        rw [add_plain] at this
        exact cellb_lt this
end Go.Proofs.Ytbnlhjooimppeaa
/- source: how lists of texts and of numbers are handed in. -/
namespace Go.Proofs.Ytbnlhjooimppeaa
set_option linter.unusedVariables false
set_option linter.unusedSimpArgs false
open Go.RowKit W Go.ChangeShapes Go.WideShapes
section
variable {H : Type} {enc : TypeId × Value → H} {w : World} {base : Nat} {sp : Nat → Bool} {held : Bool} {fuel : Nat} {x : DataW H × List MemPlace}
theorem txt1 : Try.prog.cellsOf 9 = 1 := by kernel_rfl
theorem int1 : Try.prog.cellsOf 2 = 1 := by kernel_rfl
theorem rd_txts {s : Option Addr} {n c : Nat} (h : DataW.trod enc Try.prog w base sp held fuel 78 [.slice s n c] = some x) :
    ∃ L : List ByteArray, L.length = n ∧ IsTxts w s L ∧ ((∀ y ∈ L, y.size ≤ maxLen) ∧ n ≤ c) ∧ (n = 0 ∨ ∃ el spd, x.1 = .slice el spd ∧ el.length = n) := by
  have h0 := h
  obtain ⟨a, c', ps, e, hi, _⟩ := isTxts_of Try.underlying78 Try.underlying9 txt1 h
  injection e with e1 e2 e3
  subst e1 e3
  rcases open_strings Try.underlying78 Try.underlying9 txt1 h0 with ⟨hcs, _⟩ | ⟨y, len, cap, ss, hcs, _, hl, hm, hz, hy, hcell, hsz⟩
  · simp at hcs
    obtain ⟨_, rfl, rfl⟩ := hcs
    have : ps = [] := List.eq_nil_of_length_eq_zero e2.symm
    subst this
    exact ⟨[], rfl, .inl rfl, ⟨by simp, Nat.le_refl _⟩, .inl rfl⟩
  · simp at hcs
    obtain ⟨rfl, rfl, rfl⟩ := hcs
    refine ⟨ps, e2.symm, hi, ⟨fun z hz' => ?_, hl⟩, .inr ⟨_, _, by rw [hy], ?_⟩⟩
    · have lz : n ≤ ss.length := by rw [hz]; split <;> omega
      obtain ⟨j, hj, rfl⟩ := List.getElem_of_mem hz'
      rcases hi with q | ⟨g, o, q, k⟩
      · subst q; simp at hj
      · injection q with q
        subst q
        have a1 := k.cell j hj
        have a2 := hcell j (by omega)
        rw [add_plain, a1] at a2
        injection a2 with a2
        injection a2 with a2
        rw [a2]
        rw [List.getD_eq_getElem?_getD, List.getElem?_eq_getElem (show j < ss.length by omega)]
        exact hsz _ (List.getElem_mem _)
    · have lz : n ≤ ss.length := by rw [hz]; split <;> omega
      simp [strs]
      omega
theorem rd_ints {s : Option Addr} {n c : Nat} (h : DataW.trod enc Try.prog w base sp held fuel 87 [.slice s n c] = some x) :
    ∃ L : List Int, L.length = n ∧ IsInts .i64 w s L ∧ True ∧ (n = 0 ∨ ∃ el spd, x.1 = .slice el spd ∧ el.length = n) := by
  have h0 := h
  obtain ⟨a, c', ps, e, hi, _⟩ := isInts_of Try.underlying87 Try.underlying2 int1 h
  injection e with e1 e2 e3
  subst e1 e3
  rcases open_ints Try.underlying87 Try.underlying2 int1 h0 with ⟨hcs, _⟩ | ⟨y, len, cap, ss, hcs, _, hl, hm, hz, hy, hcell, hsz⟩
  · simp at hcs
    obtain ⟨_, rfl, rfl⟩ := hcs
    exact ⟨ps, e2.symm, hi, trivial, .inl rfl⟩
  · simp at hcs
    obtain ⟨rfl, rfl, rfl⟩ := hcs
    refine ⟨ps, e2.symm, hi, trivial, .inr ⟨_, _, by rw [hy], ?_⟩⟩
    have lz : n ≤ ss.length := by rw [hz]; split <;> omega
    simp [lits]
    omega
end
end Go.Proofs.Ytbnlhjooimppeaa
/- source: SourceOrder. -/
namespace Go.Proofs.Ytbnlhjooimppeaa
set_option linter.unusedVariables false
set_option linter.unusedSimpArgs false
open Go.RowKit W Go.Maps
set_option maxRecDepth 100000 in
set_option maxHeartbeats 8000000 in
theorem law_SourceOrder (a1 : Option Addr) (n1 c1 : Nat) (L1 : List ByteArray) (a2 : Option Addr) (n2 c2 : Nat) (L2 : List Int) (late : Int) (hn1 : L1.length = n1 ∧ n1 ≤ 140737488355328) (hz1 : (∀ y ∈ L1, y.size ≤ maxLen) ∧ n1 ≤ c1) (hn2 : L2.length = n2 ∧ n2 ≤ 140737488355328) (hz2 : True) (W : World) (hI1 : IsTxts W a1 L1) (hI2 : IsInts .i64 W a2 L2) :
    Calls Try.prog 11 #[.slice a1 n1 c1, .slice a2 n2 c2, .int .i64 late] W fun e w' => e = .returned (.bool true) ∧ Below W.heap.size W w' := by
  obtain ⟨hl1, hb1⟩ := hn1
  obtain ⟨hl2, hb2⟩ := hn2
  obtain ⟨hz1, hc1⟩ := hz1
  have ka := alive11_spec
  by_cases hs : 0 ≤ late ∧ late ≤ 1099511627775
  · obtain ⟨hs1, hs2⟩ := hs
    have kn := fun w => tnew_ok 1024 (by decide) (by decide) late 5 ((secB_iff _).2 ⟨hs1, hs2⟩) (by decide) (by decide) w
    simp only [show ((1024 : Nat) : Int) = 1024 from rfl] at kn
    have NX : Hid (∃ N : List ByteArray, ∃ n : Nat, N.length = n ∧ n ≤ 1024 ∧ IsTxts W a1 N ∧ (∀ y ∈ N, y.size ≤ maxLen) ∧ (1024 < n1 → n = 1024) ∧ (¬ 1024 < n1 → n = n1)) := by
      by_cases q : 1024 < n1
      · exact ⟨L1.take 1024, 1024, by rw [List.length_take]; omega, Nat.le_refl _, hI1.take 1024, fun y hy => hz1 y (List.mem_of_mem_take hy), fun _ => rfl, fun z => absurd q z⟩
      · exact ⟨L1, n1, hl1, by omega, hI1, hz1, fun z => absurd z q, fun _ => rfl⟩
    obtain ⟨N, n, hN, hn, hI, hz, q1, q2⟩ := NX.out
    have HN := hide hN
    have HI := hide hI
    have HZ := hide hz
    have HI2 := hide hI2
    have HL2 := hide hl2
    have Q1 := hide q1
    have Q2 := hide q2
    have sl : 1024 < n1 → ∀ v, (Instr.slice 78 (.slice a1 n1 c1) none (some (.int .i64 1024)) none).run Try.prog v = .ok (.slice a1 1024 c1) v := fun h v => txts_to (e := 1024) (by omega) hc1 v
    have SL := hide sl
    clear hN hI hz q1 q2 hI1 hI2 hl1 hl2 hz1 NX sl
    go_enter Try.func11, Try.ntmps11
    go_wp2_with fail
    refine (kn _).mono ?_
    rintro e w1 ⟨b, rfl, t1, b1⟩
    go_wp2_with fail
    refine (kn _).mono ?_
    rintro e w2 ⟨d, rfl, t2, b2⟩
    have z1 := b1.size
    have J0 : Hid (T2 W b d late 5 w2 (.slice none 0 0) (.slice none 0 0) (.slice none 0 0) (.slice none 0 0) [] [] [] 0 [] [] [] 0) := by
      refine ⟨t1.later b2, ⟨?_, t2.pl⟩, fun k q z => by have := (t1.old k q).2; have := (t2.old k z).1; omega, b1.trans (b2.mono z1)⟩
      have m := t2.mem
      exact ⟨m.t, m.i, m.qa1.down z1, m.qa2.down z1, m.m, m.a12, m.as1, m.as2, m.aq1, m.aq2, Nat.le_trans z1 m.bt, Nat.le_trans z1 m.bi, Nat.le_trans z1 m.bs⟩
    clear kn t1 b1 t2 b2 z1
    go_upto_if 65 with fail
    go_cut [0] from 65 to 67 (fun s0 w3 => s0 = .slice a1 n c1 ∧ w2 = w3)
    case first =>
      by_cases q : 1024 < n1
      · have f1 : decide ((1024 : Int) < (n1 : Int)) = true := by rw [decide_eq_true_eq]; omega
        have f2 : decide (1024 < n1) = true := decide_eq_true q
        have sl := SL.out q
        have en := Q1.out q
        subst en
        go_wp2_with fail
        go_meet
        case rel => exact ⟨rfl, rfl⟩
      · have f1 : decide ((1024 : Int) < (n1 : Int)) = false := by rw [decide_eq_false_iff_not]; omega
        have f2 : decide (1024 < n1) = false := decide_eq_false q
        have en := Q2.out q
        subst en
        go_wp2_with fail
        go_meet
        case rel => exact ⟨rfl, rfl⟩
    obtain ⟨rfl, rfl⟩ := hcut
    go_wp2_with fail
    go_loopw [11] (fun s11 wr => ∃ (i : Nat) (v1 v2 u1 u2 : Value) (A A' : List Sr) (r1 r2 s1 s2 : List En), s11 = .int .i64 (i : Int) ∧ i ≤ n ∧ Hid (T2 W b d late 5 wr v1 v2 u1 u2 A r1 r2 0 A' s1 s2 0) ∧ Hid (O1 A (fun x => x ∈ N.take i) i) ∧ Hid (O1 A' (fun x => x ∈ N.drop (n - i)) i)) (fun s11 _ => n - (intOf s11).toNat)
    case atStart =>
      refine ⟨0, _, _, _, _, [], [], [], [], [], [], rfl, by omega, J0, ⟨List.Pairwise.nil, by simp, Nat.le_refl _⟩, ⟨List.Pairwise.nil, fun s => ?_, Nat.le_refl _⟩⟩
      have : N.drop (n - 0) = [] := by rw [List.drop_eq_nil_iff]; have := HN.out; omega
      rw [this]; simp
    case round =>
      obtain ⟨i, v1, v2, u1, u2, A, A', r1, r2, s1, s2, rfl, hi, J, OA, OB⟩ := hrel
      by_cases hlt : i < n
      · have e1 : decide ((i : Int) < (n : Int)) = true := by rw [decide_eq_true_eq]; omega
        have e2 : decide (i < n) = true := by rw [decide_eq_true_eq]; omega
        have il : i < N.length := by have := HN.out; omega
        have kl : n - 1 - i < N.length := by have := HN.out; omega
        obtain ⟨g, o, rfl, kt⟩ := (HI.out.later J.out.bl).resolve_left (fun q => by rw [q] at il; simp at il)
        have gl := kt.lt
        have x0 := kt.cell i il
        obtain ⟨nm, hnm⟩ : ∃ nm, nm = N[i] := ⟨_, rfl⟩
        obtain ⟨nk, hnk⟩ : ∃ nk, nk = N[n - 1 - i] := ⟨_, rfl⟩
        have xs : nm.size ≤ maxLen := by rw [hnm]; exact HZ.out _ (List.getElem_mem il)
        have ys : nk.size ≤ maxLen := by rw [hnk]; exact HZ.out _ (List.getElem_mem kl)
        rw [← hnm] at x0
        have HNM := hide hnm
        have HNK := hide hnk
        have i1024 : i < 1024 := by omega
        have kA := hearA J.out nm xs 0 0
        rw [OA.out.heM i1024 hs1 nm] at kA
        have OA2 : Hid (O1 (heA 1024 A nm 0 0) (fun x => x ∈ N.take (i + 1)) (i + 1)) := by
          have s := OA.out.step i1024 nm
          refine ⟨s.names, fun x => ?_, s.len⟩
          have e : N.take (i + 1) = N.take i ++ [nm] := by rw [List.take_add_one, List.getElem?_eq_getElem il, hnm]; rfl
          rw [s.mem, e, List.mem_append, List.mem_singleton]
        generalize heA 1024 A nm 0 0 = A2 at kA OA2
        generalize heC 1024 A nm 0 0 = C at kA
        have wk1 : IntKind.i64.wrap ((n : Int) - 1) = (n : Int) - 1 := by rw [IntKind.wrap_i64]; omega
        have wk2 : IntKind.i64.wrap ((n : Int) - 1 - (i : Int)) = ((n - 1 - i : Nat) : Int) := by rw [IntKind.wrap_i64]; omega
        have wk3 : (n : Int) - 1 - (i : Int) = ((n - 1 - i : Nat) : Int) := by omega
        obtain ⟨k, hk⟩ : ∃ k, k = n - 1 - i := ⟨_, rfl⟩
        have HK := hide hk
        rw [← hk] at wk2 wk3 kl
        have kn0 : (0 : Int) ≤ (k : Int) := by omega
        have kn1 : (k : Int) < (n : Int) := by omega
        have kn2 : (k : Int).toNat = k := by omega
        clear hnm hnk hk kt
        go_upto_region 11 with (go_at_call 39; (with_reducible refine Calls.mono kA ?_); rintro e w4 ⟨v14, v24, r14, r24, rfl, J4⟩; clear kA)
        obtain ⟨g', o', e9, kt⟩ := (HI.out.later J4.out.bl).resolve_left (fun q => by rw [q] at il; simp at il)
        injection e9 with e9
        injection e9 with e10 e11
        subst e10 e11
        have gl4 := kt.lt
        have x4 := kt.cell k kl
        have hk := HK.out
        rw [show N[k] = nk from by rw [HNK.out]; congr 1] at x4
        have kB := hearB J4.out nk ys 0 0
        rw [OB.out.heM i1024 hs1 nk] at kB
        have OB2 : Hid (O1 (heA 1024 A' nk 0 0) (fun x => x ∈ N.drop (n - (i + 1))) (i + 1)) := by
          have s := OB.out.step i1024 nk
          refine ⟨s.names, fun x => ?_, s.len⟩
          have e : N.drop (n - (i + 1)) = nk :: N.drop (n - i) := by
            have q : n - (i + 1) = n - 1 - i := by omega
            have q2 : n - i = n - 1 - i + 1 := by omega
            have kl' : n - 1 - i < N.length := by have := HN.out; omega
            rw [q, q2, List.drop_eq_getElem_cons kl', HNK.out]
          rw [s.mem, e, List.mem_cons]
          constructor
          · rintro ⟨a, b | b⟩
            · exact ⟨a, .inr b⟩
            · exact ⟨a, .inl b⟩
          · rintro ⟨a, b | b⟩
            · exact ⟨a, .inr b⟩
            · exact ⟨a, .inl b⟩
        generalize heA 1024 A' nk 0 0 = B2 at kB OB2
        generalize heC 1024 A' nk 0 0 = C' at kB
        clear hk kt
        go_wp2_with (go_at_call 39; (with_reducible refine Calls.mono kB ?_); rintro e w5 ⟨u14, u24, s14, s24, rfl, J5⟩; clear kB)
        go_roundw
        case rel => exact ⟨i + 1, v14, v24, u14, u24, A2, B2, r14, r24, s14, s24, by go_num, by omega, J5, OA2, OB2⟩
        case measure => (first | (simp [intOf]; done) | (simp [intOf]; omega))
      · obtain rfl : i = n := by omega
        have e1 : decide ((i : Int) < (i : Int)) = false := by rw [decide_eq_false_iff_not]; omega
        have e2 : decide (i < i) = false := by rw [decide_eq_false_iff_not]; omega
        have OA1 : O1 A (fun x => x ∈ N) i := by
          have q := OA.out
          rw [← HN.out, List.take_length] at q
          rw [← HN.out]
          exact q
        have OB1 : O1 A' (fun x => x ∈ N) i := by
          have q := OB.out
          rw [Nat.sub_self, List.drop_zero] at q
          exact q
        have eA : A' = A := OB1.same OA1 (fun x => Iff.rfl)
        subst eA
        have OO := hide OA1
        obtain ⟨m, hm⟩ : ∃ m, m = L2.length := ⟨_, rfl⟩
        have HM := hide hm
        have em : n2 = m := by rw [hm]; exact HL2.out.symm
        subst em
        obtain ⟨PL, hPL⟩ : ∃ PL, PL = plO N L2 := ⟨_, rfl⟩
        have HPL := hide hPL
        have LPL : Hid (PL.length = n2) := by show _ = _; rw [hPL, plO_len, hm]
        have K0 : Hid (T2 W b d late 5 wr v1 v2 u1 u2 (stM A' (mxP (PL.take 0))) r1 r2 (markS (stM A' (mxP (PL.take 0))) late 0) (stM A' (mxP (PL.reverse.take 0))) s1 s2 (markS (stM A' (mxP (PL.reverse.take 0))) late 0)) := by
          have q := J.out
          rw [List.take_zero, List.take_zero, stM_zero OO.out, OO.out.mark hs1]
          exact q
        clear hm hPL OA1 OB1 OA OB J
        go_wp2_with fail
        go_loopw [13] (fun s13 wr => ∃ (j : Nat) (v1 v2 u1 u2 : Value) (r1 r2 s1 s2 : List En), s13 = .int .i64 (j : Int) ∧ j ≤ n2 ∧ Hid (T2 W b d late 5 wr v1 v2 u1 u2 (stM A' (mxP (PL.take j))) r1 r2 (markS (stM A' (mxP (PL.take j))) late 0) (stM A' (mxP (PL.reverse.take j))) s1 s2 (markS (stM A' (mxP (PL.reverse.take j))) late 0))) (fun s13 _ => n2 - (intOf s13).toNat)
        case atStart => exact ⟨0, _, _, _, _, _, _, _, _, rfl, by omega, K0⟩
        case round =>
          obtain ⟨j, x1, x2, y1, y2, p1, p2, q1, q2, rfl, hj, K⟩ := hrel
          by_cases cnd : j < n2 ∧ 0 < i
          · obtain ⟨jm, i0⟩ := cnd
            have f1 : decide ((j : Int) < (n2 : Int)) = true := by rw [decide_eq_true_eq]; omega
            have f2 : decide (j < n2) = true := by rw [decide_eq_true_eq]; omega
            have f3 : decide ((0 : Int) < (i : Int)) = true := by rw [decide_eq_true_eq]; omega
            have f4 : decide (0 < i) = true := by rw [decide_eq_true_eq]; omega
            have jL : j < L2.length := by have := HM.out; omega
            obtain ⟨k, hk⟩ : ∃ k, k = n2 - 1 - j := ⟨_, rfl⟩
            have HK := hide hk
            have kL : k < L2.length := by have := HM.out; omega
            have wk1 : IntKind.i64.wrap ((n2 : Int) - 1) = (n2 : Int) - 1 := by rw [IntKind.wrap_i64]; omega
            have wk2 : IntKind.i64.wrap ((n2 : Int) - 1 - (j : Int)) = (k : Int) := by rw [IntKind.wrap_i64]; omega
            have wk3 : (n2 : Int) - 1 - (j : Int) = (k : Int) := by omega
            have kn2 : k < n2 := by omega
            clear hk
            obtain ⟨rj, hrj⟩ : ∃ rj, rj = j % i := ⟨_, rfl⟩
            obtain ⟨rk, hrk⟩ : ∃ rk, rk = k % i := ⟨_, rfl⟩
            have rji : rj < i := by rw [hrj]; exact Nat.mod_lt _ i0
            have rki : rk < i := by rw [hrk]; exact Nat.mod_lt _ i0
            have rm1 : Int.tmod (j : Int) (i : Int) = (rj : Int) := by rw [hrj, Int.tmod_eq_emod_of_nonneg (by omega)]; simp
            have rm2 : Int.tmod (k : Int) (i : Int) = (rk : Int) := by rw [hrk, Int.tmod_eq_emod_of_nonneg (by omega)]; simp
            have wr1 : IntKind.i64.wrap (rj : Int) = (rj : Int) := by rw [IntKind.wrap_i64]; omega
            have wr2 : IntKind.i64.wrap (rk : Int) = (rk : Int) := by rw [IntKind.wrap_i64]; omega
            have iz1 : ((i : Int) == 0) = false := by rw [beq_eq_false_iff_ne]; omega
            have iz2 : (i == 0) = false := by rw [beq_eq_false_iff_ne]; omega
            have iz3 : (i : Int) ≠ 0 := by omega
            have rjN : rj < N.length := by have := HN.out; omega
            have rkN : rk < N.length := by have := HN.out; omega
            obtain ⟨g, o, rfl, kt⟩ := (HI.out.later K.out.bl).resolve_left (fun q => by rw [q] at rjN; simp at rjN)
            obtain ⟨g2, o2, rfl, kt2⟩ := (HI2.out.later K.out.bl).resolve_left (fun q => by rw [q] at jL; simp at jL)
            have gl := kt.lt
            have gl2 := kt2.lt
            have c0 := kt.cell rj rjN
            have c1' := kt2.cell j jL
            obtain ⟨nm, hnm⟩ : ∃ nm, nm = N[rj] := ⟨_, rfl⟩
            obtain ⟨t, ht⟩ : ∃ t, t = L2[j] := ⟨_, rfl⟩
            obtain ⟨nk, hnk⟩ : ∃ nk, nk = N[rk] := ⟨_, rfl⟩
            obtain ⟨tk, htk⟩ : ∃ tk, tk = L2[k] := ⟨_, rfl⟩
            have xs : nm.size ≤ maxLen := by rw [hnm]; exact HZ.out _ (List.getElem_mem rjN)
            have ys : nk.size ≤ maxLen := by rw [hnk]; exact HZ.out _ (List.getElem_mem rkN)
            have mA : ∃ s ∈ A', s.1 = nm := OO.out.has (by rw [hnm]; exact List.getElem_mem rjN)
            have mB : ∃ s ∈ A', s.1 = nk := OO.out.has (by rw [hnk]; exact List.getElem_mem rkN)
            have pj : Hid (mxP (PL.take (j + 1)) = upM (mxP (PL.take j)) nm t) := by
              have lj : j < PL.length := by rw [LPL.out]; exact jm
              have e : PL[j] = (nm, t) := by
                have q := plO_at (N := N) jL (by rw [HN.out]; rw [← hrj]; exact rji)
                rw [hnm, ht]
                simp only [HPL.out]
                rw [q]
                congr 1
                congr 1
                rw [HN.out, hrj]
              show _ = _
              rw [mxP_take lj, e]
            have pk : Hid (mxP (PL.reverse.take (j + 1)) = upM (mxP (PL.reverse.take j)) nk tk) := by
              have lj : j < PL.reverse.length := by rw [List.length_reverse, LPL.out]; exact jm
              have e : PL.reverse[j] = (nk, tk) := by
                rw [List.getElem_reverse]
                have q := plO_at (N := N) kL (by rw [HN.out]; rw [← hrk]; exact rki)
                have ek : PL.length - 1 - j = k := by rw [LPL.out, HK.out]
                have ee : ∀ (m : Nat) (hm : m < PL.length), m = k → PL[m]'hm = (N[k % N.length]'(by rw [HN.out, ← hrk]; exact rki), L2[k]) := by
                  rintro m hm rfl
                  have e := HPL.out
                  subst e
                  exact q
                rw [hnk, htk, ee _ _ ek]
                congr 1
                congr 1
                rw [HN.out, hrk]
              show _ = _
              rw [mxP_take lj, e]
            rw [← hnm] at c0
            rw [← ht] at c1'
            have HNK := hide hnk
            have HTK := hide htk
            have HT := hide ht
            have nA := OO.out.names
            have kA : ∀ V, Below wr.heap.size wr V → Calls Try.prog 39 #[.pointer (some ⟨b.tb, 0, none⟩), .string nm, .int .i64 t, .int .i64 0] V fun e w' => ∃ v1' v2' r1' r2', e = .returned (.int .i64 (if secB t then 0 else 1)) ∧ Hid (T2 W b d late 5 w' v1' v2' y1 y2 (stM A' (mxP (PL.take (j + 1)))) r1' r2' (markS (stM A' (mxP (PL.take (j + 1)))) late 0) (stM A' (mxP (PL.reverse.take j))) q1 q2 (markS (stM A' (mxP (PL.reverse.take j))) late 0)) := fun V q => by
              have k := hearA (K.out.later q) nm xs t 0
              rw [stM_code nA _ mA, stM_heM nA _ mA, stM_hear nA _ mA, ← pj.out] at k
              exact k
            have kB : Hid (∀ V x1 x2 M p1 p2 mk, T2 W b d late 5 V x1 x2 y1 y2 M p1 p2 mk (stM A' (mxP (PL.reverse.take j))) q1 q2 (markS (stM A' (mxP (PL.reverse.take j))) late 0) → Calls Try.prog 39 #[.pointer (some ⟨d.tb, 0, none⟩), .string nk, .int .i64 tk, .int .i64 0] V fun e w' => ∃ C u1' u2' s1' s2', e = .returned (.int .i64 C) ∧ Hid (T2 W b d late 5 w' x1 x2 u1' u2' M p1 p2 mk (stM A' (mxP (PL.reverse.take (j + 1)))) s1' s2' (markS (stM A' (mxP (PL.reverse.take (j + 1)))) late 0))) := fun V x1 x2 M p1 p2 mk h => by
              have k := hearB h nk ys tk 0
              rw [stM_heM nA _ mB, stM_hear nA _ mB, ← pk.out] at k
              refine k.mono ?_
              rintro e w' ⟨u1', u2', s1', s2', rfl, q⟩
              exact ⟨_, u1', u2', s1', s2', rfl, q⟩
            obtain ⟨C, hC⟩ : ∃ C : Int, C = if secB t then (0 : Int) else 1 := ⟨_, rfl⟩
            rw [← hC] at kA
            have HC := hide hC
            clear hC
            clear hnm ht hnk htk hrj hrk kt kt2 mA mB nA
            go_upto_region 17 with fail
            go_cut [15] from 107 to 119 (fun s15 w2 => s15 = .int .i64 C ∧ ∃ v1' v2' r1' r2', Hid (T2 W b d late 5 w2 v1' v2' y1 y2 (stM A' (mxP (PL.take (j + 1)))) r1' r2' (markS (stM A' (mxP (PL.take (j + 1)))) late 0) (stM A' (mxP (PL.reverse.take j))) q1 q2 (markS (stM A' (mxP (PL.reverse.take j))) late 0)))
            case first =>
              go_region_with (go_at_call 39; (with_reducible refine Calls.mono (kA _ (by first | exact Below.refl _ _ | exact (Below.refl _ _).drew | exact below_drewN (Below.refl _ _) _)) ?_); rintro e w4 ⟨v14, v24, r14, r24, rfl, J4⟩; clear kA)
              all_goals
                go_wp2_with fail
                go_meet
                case rel => exact ⟨rfl, v14, v24, r14, r24, J4⟩
            rename World => w4
            obtain ⟨rfl, v14, v24, r14, r24, J4⟩ := hcut
            obtain ⟨g', o', e9, kt⟩ := (HI.out.later J4.out.bl).resolve_left (fun q => by rw [q] at rkN; simp at rkN)
            injection e9 with e9
            injection e9 with e10 e11
            subst e10 e11
            obtain ⟨g', o', e9, kt2⟩ := (HI2.out.later J4.out.bl).resolve_left (fun q => by rw [q] at kL; simp at kL)
            injection e9 with e9
            injection e9 with e10 e11
            subst e10 e11
            have gl4 := kt.lt
            have gl24 := kt2.lt
            have x4 := kt.cell rk rkN
            have x4' := kt2.cell k kL
            rw [show N[rk] = nk from HNK.out.symm] at x4
            rw [show L2[k] = tk from HTK.out.symm] at x4'
            have kB' := fun V q => kB.out V _ _ _ _ _ _ (J4.out.later q)
            clear kt kt2 kA c0 c1' gl gl2
            go_upto_region 18 with fail
            go_cut [] from 119 to 131 (fun w2 => ∃ u1' u2' s1' s2', Hid (T2 W b d late 5 w2 v14 v24 u1' u2' (stM A' (mxP (PL.take (j + 1)))) r14 r24 (markS (stM A' (mxP (PL.take (j + 1)))) late 0) (stM A' (mxP (PL.reverse.take (j + 1)))) s1' s2' (markS (stM A' (mxP (PL.reverse.take (j + 1)))) late 0)))
            case first =>
              go_region_with (go_at_call 39; (with_reducible refine Calls.mono (kB' _ (by first | exact Below.refl _ _ | exact (Below.refl _ _).drew | exact below_drewN (Below.refl _ _) _)) ?_); rintro e w5 ⟨C5, u14, u24, s14, s24, rfl, J5⟩; clear kB')
              all_goals
                go_wp2_with fail
                go_meet
                case rel => exact ⟨u14, u24, s14, s24, J5⟩
            rename World => w5
            obtain ⟨u15', u25, s15, s25, J5⟩ := hcut
            obtain ⟨g', o', e9, kt2⟩ := (HI2.out.later J5.out.bl).resolve_left (fun q => by rw [q] at jL; simp at jL)
            injection e9 with e9
            injection e9 with e10 e11
            subst e10 e11
            have gl5 := kt2.lt
            have x5 := kt2.cell j jL
            rw [show L2[j] = t from HT.out.symm] at x5
            have wj : IntKind.i64.wrap ((j : Int) + 1) = ((j + 1 : Nat) : Int) := by rw [IntKind.wrap_i64]; omega
            clear kt2 kB kB' gl4 gl24 x4 x4'
            go_upto_region 19 with fail
            by_cases q1 : 0 ≤ t
            · by_cases q2 : t ≤ 1099511627775
              · have g1 : decide ((0 : Int) ≤ t) = true := by rw [decide_eq_true_eq]; omega
                have g2' : decide (t ≤ 1099511627775) = true := by rw [decide_eq_true_eq]; omega
                obtain rfl : C = 0 := by rw [HC.out, if_pos ((secB_iff t).2 ⟨q1, q2⟩)]
                go_wp2_with fail
                all_goals
                  (try go_region)
                  all_goals
                    go_wp2_with fail
                    go_roundw
                    case rel => exact ⟨j + 1, v14, v24, u15', u25, r14, r24, s15, s25, by go_num, by omega, J5⟩
                    case measure => (first | (simp [intOf]; done) | (simp [intOf]; omega))
              · have g1 : decide ((0 : Int) ≤ t) = true := by rw [decide_eq_true_eq]; omega
                have g2' : decide (t ≤ 1099511627775) = false := by rw [decide_eq_false_iff_not]; omega
                obtain rfl : C = 1 := by rw [HC.out, if_neg (fun z => q2 ((secB_iff t).1 z).2)]
                go_wp2_with fail
                all_goals
                  (try go_region)
                  all_goals
                    go_wp2_with fail
                    go_roundw
                    case rel => exact ⟨j + 1, v14, v24, u15', u25, r14, r24, s15, s25, by go_num, by omega, J5⟩
                    case measure => (first | (simp [intOf]; done) | (simp [intOf]; omega))
            · have g1 : decide ((0 : Int) ≤ t) = false := by rw [decide_eq_false_iff_not]; omega
              have g2' : decide (t ≤ 1099511627775) = true := by rw [decide_eq_true_eq]; omega
              obtain rfl : C = 1 := by rw [HC.out, if_neg (fun z => q1 ((secB_iff t).1 z).1)]
              go_wp2_with fail
              all_goals
                (try go_region)
                all_goals
                  go_wp2_with fail
                  go_roundw
                  case rel => exact ⟨j + 1, v14, v24, u15', u25, r14, r24, s15, s25, by go_num, by omega, J5⟩
                  case measure => (first | (simp [intOf]; done) | (simp [intOf]; omega))
          · have nj : ¬ j < n2 ∨ i = 0 := by omega
            have LE : stM A' (mxP (PL.reverse.take j)) = stM A' (mxP (PL.take j)) := by
              by_cases i0 : i = 0
              · have : A' = [] := by
                  cases hA : A' with
                  | nil => rfl
                  | cons a l =>
                    have q := ((OO.out.mem a).1 (by rw [hA]; exact List.mem_cons_self)).2
                    have lz : N.length = 0 := by rw [HN.out]; exact i0
                    rw [List.length_eq_zero_iff.1 lz] at q
                    simp at q
                rw [this]; rfl
              · have jn : PL.length ≤ j := by rw [LPL.out]; omega
                rw [List.take_of_length_le jn, List.take_of_length_le (by rw [List.length_reverse]; exact jn)]
                rw [mxP_perm (l := PL.reverse) (m := PL) (fun p => List.mem_reverse)]
            rw [LE] at K
            have NE : 0 < i → 0 < (stM A' (mxP (PL.take j))).length := fun q => by
              have iN : 0 < N.length := by rw [HN.out]; exact q
              obtain ⟨s, hs, _⟩ := OO.out.has (List.getElem_mem iN)
              rw [stM, List.length_map]
              exact List.length_pos_of_mem hs
            generalize stM A' (mxP (PL.take j)) = L at K NE
            clear LE
            obtain ⟨mk, hmk⟩ : ∃ mk, mk = markS L late 0 := ⟨_, rfl⟩
            rw [← hmk] at K
            obtain ⟨m, hm⟩ : ∃ m, m = L.length := ⟨_, rfl⟩
            rw [← hm] at NE
            have HM2 := hide hm
            have lm : m ≤ 1024 := by have := K.out.ta.mem.qa1.le; have := K.out.ta.pl.lim; have := K.out.ta.pl.s1.len; omega
            clear hmk hm
            have kla : ∀ V, Below wr.heap.size wr V → Calls Try.prog 37 #[.pointer (some ⟨b.tb, 0, none⟩)] V fun e w' => ∃ a c, e = .returned (.slice a m c) ∧ Hid (IsS w' a L) ∧ Hid (Below wr.heap.size wr w') := fun V q => by
              refine (tall_is (K.out.ta.later q)).mono ?_
              rintro e w' ⟨a, c, rfl, i, bl⟩
              exact ⟨a, c, by rw [HM2.out], i, q.trans (bl.mono q.size)⟩
            have klb : ∀ V, Below wr.heap.size wr V → Calls Try.prog 37 #[.pointer (some ⟨d.tb, 0, none⟩)] V fun e w' => ∃ a c, e = .returned (.slice a m c) ∧ Hid (IsS w' a L) ∧ Hid (Below wr.heap.size wr w') ∧ Hid (Below V.heap.size V w') := fun V q => by
              refine (tall_is (K.out.tb.later q)).mono ?_
              rintro e w' ⟨a, c, rfl, i, bl⟩
              exact ⟨a, c, by rw [HM2.out], i, q.trans (bl.mono q.size), bl⟩
            have KS : Hid (∀ V a1 c1 a2 c2, Below wr.heap.size wr V → IsS V a1 L → IsS V a2 L → Calls Try.prog 36 #[.slice a1 m c1, .slice a2 m c2] V fun e w' => e = .returned (.bool true) ∧ Hid (Below wr.heap.size wr w')) := fun V a1 c1 a2 c2 q i1 i2 => by
              have kk := rsame_spec (c1 := c1) (c2 := c2) i1 i2 (by have := K.out.ta.mem.qa1.le; have := K.out.ta.pl.lim; have := K.out.ta.pl.s1.len; omega)
              rw [← HM2.out] at kk
              refine kk.mono ?_
              rintro e w' ⟨rfl, bl⟩
              exact ⟨rfl, q.trans (bl.mono q.size)⟩
            have kma : ∀ V, Below wr.heap.size wr V → CalcN 35 #[.pointer (some ⟨b.tb, 0, none⟩)] V (.int .i64 mk) := fun V q => tmark (K.out.ta.later q)
            have kmb : ∀ V, Below wr.heap.size wr V → CalcN 35 #[.pointer (some ⟨d.tb, 0, none⟩)] V (.int .i64 mk) := fun V q => tmark (K.out.tb.later q)
            have ka6 : ∀ V, Below wr.heap.size wr V → Calls Try.prog 33 #[] V fun e w' => e = .returned (.bool true) ∧ Hid (Below wr.heap.size wr w') := fun V q => by
              refine (ka V).mono ?_
              rintro e w' ⟨rfl, bl⟩
              exact ⟨rfl, q.trans (bl.mono q.size)⟩
            clear ka
            by_cases jn : j < n2
            · have f1 : decide ((j : Int) < (n2 : Int)) = true := by rw [decide_eq_true_eq]; omega
              have f2 : decide (j < n2) = true := by rw [decide_eq_true_eq]; omega
              obtain rfl : i = 0 := by omega
              have f3 : decide ((0 : Int) < 0) = false := by decide
              go_upto_region 21 with fail
              go_wp2_with               (first
              | (go_at_call 37; (with_reducible refine Calls.mono (kla _ (by first | exact Below.refl _ _ | exact (Below.refl _ _).drew | exact below_drewN (Below.refl _ _) _ | exact B7.out | exact B7.out.drew | exact below_drewN B7.out _ | exact B8.out | exact B8.out.drew | exact below_drewN B8.out _ | exact B9.out | exact B9.out.drew | exact below_drewN B9.out _ | exact B12.out | exact B12.out.drew | exact below_drewN B12.out _)) ?_); rintro e w7 ⟨a7, c7, rfl, I7, B7⟩)
              | (go_at_call 37; (with_reducible refine Calls.mono (klb _ (by first | exact Below.refl _ _ | exact (Below.refl _ _).drew | exact below_drewN (Below.refl _ _) _ | exact B7.out | exact B7.out.drew | exact below_drewN B7.out _ | exact B8.out | exact B8.out.drew | exact below_drewN B8.out _ | exact B9.out | exact B9.out.drew | exact below_drewN B9.out _ | exact B12.out | exact B12.out.drew | exact below_drewN B12.out _)) ?_); rintro e w8 ⟨a8, c8, rfl, I8, B8, B78⟩)
              | (go_at_call 36; (with_reducible refine Calls.mono (KS.out _ _ _ _ _ (by first | exact Below.refl _ _ | exact (Below.refl _ _).drew | exact below_drewN (Below.refl _ _) _ | exact B7.out | exact B7.out.drew | exact below_drewN B7.out _ | exact B8.out | exact B8.out.drew | exact below_drewN B8.out _ | exact B9.out | exact B9.out.drew | exact below_drewN B9.out _ | exact B12.out | exact B12.out.drew | exact below_drewN B12.out _) (I7.out.later (by first | exact B78.out | exact B78.out.drew | exact below_drewN B78.out _)) (I8.out.later (by first | exact Below.refl _ _ | exact (Below.refl _ _).drew | exact below_drewN (Below.refl _ _) _))) ?_); rintro e w9 ⟨rfl, B9⟩)
              | (go_at_call 35; (with_reducible refine Calls.mono (kma _ (by first | exact Below.refl _ _ | exact (Below.refl _ _).drew | exact below_drewN (Below.refl _ _) _ | exact B7.out | exact B7.out.drew | exact below_drewN B7.out _ | exact B8.out | exact B8.out.drew | exact below_drewN B8.out _ | exact B9.out | exact B9.out.drew | exact below_drewN B9.out _ | exact B12.out | exact B12.out.drew | exact below_drewN B12.out _)) ?_); rintro e w10 ⟨rfl, rfl⟩)
              | (go_at_call 35; (with_reducible refine Calls.mono (kmb _ (by first | exact Below.refl _ _ | exact (Below.refl _ _).drew | exact below_drewN (Below.refl _ _) _ | exact B7.out | exact B7.out.drew | exact below_drewN B7.out _ | exact B8.out | exact B8.out.drew | exact below_drewN B8.out _ | exact B9.out | exact B9.out.drew | exact below_drewN B9.out _ | exact B12.out | exact B12.out.drew | exact below_drewN B12.out _)) ?_); rintro e w11 ⟨rfl, rfl⟩)
              | (go_at_call 33; (with_reducible refine Calls.mono (ka6 _ (by first | exact Below.refl _ _ | exact (Below.refl _ _).drew | exact below_drewN (Below.refl _ _) _ | exact B7.out | exact B7.out.drew | exact below_drewN B7.out _ | exact B8.out | exact B8.out.drew | exact below_drewN B8.out _ | exact B9.out | exact B9.out.drew | exact below_drewN B9.out _ | exact B12.out | exact B12.out.drew | exact below_drewN B12.out _)) ?_); rintro e w12 ⟨rfl, B12⟩))
              all_goals
                go_wp2_with               (first
              | (go_at_call 37; (with_reducible refine Calls.mono (kla _ (by first | exact Below.refl _ _ | exact (Below.refl _ _).drew | exact below_drewN (Below.refl _ _) _ | exact B7.out | exact B7.out.drew | exact below_drewN B7.out _ | exact B8.out | exact B8.out.drew | exact below_drewN B8.out _ | exact B9.out | exact B9.out.drew | exact below_drewN B9.out _ | exact B12.out | exact B12.out.drew | exact below_drewN B12.out _)) ?_); rintro e w7 ⟨a7, c7, rfl, I7, B7⟩)
              | (go_at_call 37; (with_reducible refine Calls.mono (klb _ (by first | exact Below.refl _ _ | exact (Below.refl _ _).drew | exact below_drewN (Below.refl _ _) _ | exact B7.out | exact B7.out.drew | exact below_drewN B7.out _ | exact B8.out | exact B8.out.drew | exact below_drewN B8.out _ | exact B9.out | exact B9.out.drew | exact below_drewN B9.out _ | exact B12.out | exact B12.out.drew | exact below_drewN B12.out _)) ?_); rintro e w8 ⟨a8, c8, rfl, I8, B8, B78⟩)
              | (go_at_call 36; (with_reducible refine Calls.mono (KS.out _ _ _ _ _ (by first | exact Below.refl _ _ | exact (Below.refl _ _).drew | exact below_drewN (Below.refl _ _) _ | exact B7.out | exact B7.out.drew | exact below_drewN B7.out _ | exact B8.out | exact B8.out.drew | exact below_drewN B8.out _ | exact B9.out | exact B9.out.drew | exact below_drewN B9.out _ | exact B12.out | exact B12.out.drew | exact below_drewN B12.out _) (I7.out.later (by first | exact B78.out | exact B78.out.drew | exact below_drewN B78.out _)) (I8.out.later (by first | exact Below.refl _ _ | exact (Below.refl _ _).drew | exact below_drewN (Below.refl _ _) _))) ?_); rintro e w9 ⟨rfl, B9⟩)
              | (go_at_call 35; (with_reducible refine Calls.mono (kma _ (by first | exact Below.refl _ _ | exact (Below.refl _ _).drew | exact below_drewN (Below.refl _ _) _ | exact B7.out | exact B7.out.drew | exact below_drewN B7.out _ | exact B8.out | exact B8.out.drew | exact below_drewN B8.out _ | exact B9.out | exact B9.out.drew | exact below_drewN B9.out _ | exact B12.out | exact B12.out.drew | exact below_drewN B12.out _)) ?_); rintro e w10 ⟨rfl, rfl⟩)
              | (go_at_call 35; (with_reducible refine Calls.mono (kmb _ (by first | exact Below.refl _ _ | exact (Below.refl _ _).drew | exact below_drewN (Below.refl _ _) _ | exact B7.out | exact B7.out.drew | exact below_drewN B7.out _ | exact B8.out | exact B8.out.drew | exact below_drewN B8.out _ | exact B9.out | exact B9.out.drew | exact below_drewN B9.out _ | exact B12.out | exact B12.out.drew | exact below_drewN B12.out _)) ?_); rintro e w11 ⟨rfl, rfl⟩)
              | (go_at_call 33; (with_reducible refine Calls.mono (ka6 _ (by first | exact Below.refl _ _ | exact (Below.refl _ _).drew | exact below_drewN (Below.refl _ _) _ | exact B7.out | exact B7.out.drew | exact below_drewN B7.out _ | exact B8.out | exact B8.out.drew | exact below_drewN B8.out _ | exact B9.out | exact B9.out.drew | exact below_drewN B9.out _ | exact B12.out | exact B12.out.drew | exact below_drewN B12.out _)) ?_); rintro e w12 ⟨rfl, B12⟩))
                go_returns
                exact ⟨rfl, K.out.bl.trans ((by first | exact B12.out | exact B12.out.drew | exact below_drewN B12.out _ : Below wr.heap.size wr _).mono K.out.bl.size)⟩
            · have f1 : decide ((j : Int) < (n2 : Int)) = false := by rw [decide_eq_false_iff_not]; omega
              have f2 : decide (j < n2) = false := by rw [decide_eq_false_iff_not]; omega
              by_cases i0 : i = 0
              · subst i0
                go_upto_region 21 with fail
                go_wp2_with               (first
                | (go_at_call 37; (with_reducible refine Calls.mono (kla _ (by first | exact Below.refl _ _ | exact (Below.refl _ _).drew | exact below_drewN (Below.refl _ _) _ | exact B7.out | exact B7.out.drew | exact below_drewN B7.out _ | exact B8.out | exact B8.out.drew | exact below_drewN B8.out _ | exact B9.out | exact B9.out.drew | exact below_drewN B9.out _ | exact B12.out | exact B12.out.drew | exact below_drewN B12.out _)) ?_); rintro e w7 ⟨a7, c7, rfl, I7, B7⟩)
                | (go_at_call 37; (with_reducible refine Calls.mono (klb _ (by first | exact Below.refl _ _ | exact (Below.refl _ _).drew | exact below_drewN (Below.refl _ _) _ | exact B7.out | exact B7.out.drew | exact below_drewN B7.out _ | exact B8.out | exact B8.out.drew | exact below_drewN B8.out _ | exact B9.out | exact B9.out.drew | exact below_drewN B9.out _ | exact B12.out | exact B12.out.drew | exact below_drewN B12.out _)) ?_); rintro e w8 ⟨a8, c8, rfl, I8, B8, B78⟩)
                | (go_at_call 36; (with_reducible refine Calls.mono (KS.out _ _ _ _ _ (by first | exact Below.refl _ _ | exact (Below.refl _ _).drew | exact below_drewN (Below.refl _ _) _ | exact B7.out | exact B7.out.drew | exact below_drewN B7.out _ | exact B8.out | exact B8.out.drew | exact below_drewN B8.out _ | exact B9.out | exact B9.out.drew | exact below_drewN B9.out _ | exact B12.out | exact B12.out.drew | exact below_drewN B12.out _) (I7.out.later (by first | exact B78.out | exact B78.out.drew | exact below_drewN B78.out _)) (I8.out.later (by first | exact Below.refl _ _ | exact (Below.refl _ _).drew | exact below_drewN (Below.refl _ _) _))) ?_); rintro e w9 ⟨rfl, B9⟩)
                | (go_at_call 35; (with_reducible refine Calls.mono (kma _ (by first | exact Below.refl _ _ | exact (Below.refl _ _).drew | exact below_drewN (Below.refl _ _) _ | exact B7.out | exact B7.out.drew | exact below_drewN B7.out _ | exact B8.out | exact B8.out.drew | exact below_drewN B8.out _ | exact B9.out | exact B9.out.drew | exact below_drewN B9.out _ | exact B12.out | exact B12.out.drew | exact below_drewN B12.out _)) ?_); rintro e w10 ⟨rfl, rfl⟩)
                | (go_at_call 35; (with_reducible refine Calls.mono (kmb _ (by first | exact Below.refl _ _ | exact (Below.refl _ _).drew | exact below_drewN (Below.refl _ _) _ | exact B7.out | exact B7.out.drew | exact below_drewN B7.out _ | exact B8.out | exact B8.out.drew | exact below_drewN B8.out _ | exact B9.out | exact B9.out.drew | exact below_drewN B9.out _ | exact B12.out | exact B12.out.drew | exact below_drewN B12.out _)) ?_); rintro e w11 ⟨rfl, rfl⟩)
                | (go_at_call 33; (with_reducible refine Calls.mono (ka6 _ (by first | exact Below.refl _ _ | exact (Below.refl _ _).drew | exact below_drewN (Below.refl _ _) _ | exact B7.out | exact B7.out.drew | exact below_drewN B7.out _ | exact B8.out | exact B8.out.drew | exact below_drewN B8.out _ | exact B9.out | exact B9.out.drew | exact below_drewN B9.out _ | exact B12.out | exact B12.out.drew | exact below_drewN B12.out _)) ?_); rintro e w12 ⟨rfl, B12⟩))
                all_goals
                  go_wp2_with               (first
                | (go_at_call 37; (with_reducible refine Calls.mono (kla _ (by first | exact Below.refl _ _ | exact (Below.refl _ _).drew | exact below_drewN (Below.refl _ _) _ | exact B7.out | exact B7.out.drew | exact below_drewN B7.out _ | exact B8.out | exact B8.out.drew | exact below_drewN B8.out _ | exact B9.out | exact B9.out.drew | exact below_drewN B9.out _ | exact B12.out | exact B12.out.drew | exact below_drewN B12.out _)) ?_); rintro e w7 ⟨a7, c7, rfl, I7, B7⟩)
                | (go_at_call 37; (with_reducible refine Calls.mono (klb _ (by first | exact Below.refl _ _ | exact (Below.refl _ _).drew | exact below_drewN (Below.refl _ _) _ | exact B7.out | exact B7.out.drew | exact below_drewN B7.out _ | exact B8.out | exact B8.out.drew | exact below_drewN B8.out _ | exact B9.out | exact B9.out.drew | exact below_drewN B9.out _ | exact B12.out | exact B12.out.drew | exact below_drewN B12.out _)) ?_); rintro e w8 ⟨a8, c8, rfl, I8, B8, B78⟩)
                | (go_at_call 36; (with_reducible refine Calls.mono (KS.out _ _ _ _ _ (by first | exact Below.refl _ _ | exact (Below.refl _ _).drew | exact below_drewN (Below.refl _ _) _ | exact B7.out | exact B7.out.drew | exact below_drewN B7.out _ | exact B8.out | exact B8.out.drew | exact below_drewN B8.out _ | exact B9.out | exact B9.out.drew | exact below_drewN B9.out _ | exact B12.out | exact B12.out.drew | exact below_drewN B12.out _) (I7.out.later (by first | exact B78.out | exact B78.out.drew | exact below_drewN B78.out _)) (I8.out.later (by first | exact Below.refl _ _ | exact (Below.refl _ _).drew | exact below_drewN (Below.refl _ _) _))) ?_); rintro e w9 ⟨rfl, B9⟩)
                | (go_at_call 35; (with_reducible refine Calls.mono (kma _ (by first | exact Below.refl _ _ | exact (Below.refl _ _).drew | exact below_drewN (Below.refl _ _) _ | exact B7.out | exact B7.out.drew | exact below_drewN B7.out _ | exact B8.out | exact B8.out.drew | exact below_drewN B8.out _ | exact B9.out | exact B9.out.drew | exact below_drewN B9.out _ | exact B12.out | exact B12.out.drew | exact below_drewN B12.out _)) ?_); rintro e w10 ⟨rfl, rfl⟩)
                | (go_at_call 35; (with_reducible refine Calls.mono (kmb _ (by first | exact Below.refl _ _ | exact (Below.refl _ _).drew | exact below_drewN (Below.refl _ _) _ | exact B7.out | exact B7.out.drew | exact below_drewN B7.out _ | exact B8.out | exact B8.out.drew | exact below_drewN B8.out _ | exact B9.out | exact B9.out.drew | exact below_drewN B9.out _ | exact B12.out | exact B12.out.drew | exact below_drewN B12.out _)) ?_); rintro e w11 ⟨rfl, rfl⟩)
                | (go_at_call 33; (with_reducible refine Calls.mono (ka6 _ (by first | exact Below.refl _ _ | exact (Below.refl _ _).drew | exact below_drewN (Below.refl _ _) _ | exact B7.out | exact B7.out.drew | exact below_drewN B7.out _ | exact B8.out | exact B8.out.drew | exact below_drewN B8.out _ | exact B9.out | exact B9.out.drew | exact below_drewN B9.out _ | exact B12.out | exact B12.out.drew | exact below_drewN B12.out _)) ?_); rintro e w12 ⟨rfl, B12⟩))
                  go_returns
                  exact ⟨rfl, K.out.bl.trans ((by first | exact B12.out | exact B12.out.drew | exact below_drewN B12.out _ : Below wr.heap.size wr _).mono K.out.bl.size)⟩
              · have i1 : 0 < i := by omega
                have m0 := NE i1
                have f4 : ((i : Int) == 0) = false := by rw [beq_eq_false_iff_ne]; omega
                have f5 : (i == 0) = false := by rw [beq_eq_false_iff_ne]; omega
                have f6 : decide ((0 : Int) < (m : Int)) = true := by rw [decide_eq_true_eq]; omega
                have f7 : decide (0 < m) = true := by rw [decide_eq_true_eq]; omega
                go_upto_region 21 with fail
                go_wp2_with               (first
                | (go_at_call 37; (with_reducible refine Calls.mono (kla _ (by first | exact Below.refl _ _ | exact (Below.refl _ _).drew | exact below_drewN (Below.refl _ _) _ | exact B7.out | exact B7.out.drew | exact below_drewN B7.out _ | exact B8.out | exact B8.out.drew | exact below_drewN B8.out _ | exact B9.out | exact B9.out.drew | exact below_drewN B9.out _ | exact B12.out | exact B12.out.drew | exact below_drewN B12.out _)) ?_); rintro e w7 ⟨a7, c7, rfl, I7, B7⟩)
                | (go_at_call 37; (with_reducible refine Calls.mono (klb _ (by first | exact Below.refl _ _ | exact (Below.refl _ _).drew | exact below_drewN (Below.refl _ _) _ | exact B7.out | exact B7.out.drew | exact below_drewN B7.out _ | exact B8.out | exact B8.out.drew | exact below_drewN B8.out _ | exact B9.out | exact B9.out.drew | exact below_drewN B9.out _ | exact B12.out | exact B12.out.drew | exact below_drewN B12.out _)) ?_); rintro e w8 ⟨a8, c8, rfl, I8, B8, B78⟩)
                | (go_at_call 36; (with_reducible refine Calls.mono (KS.out _ _ _ _ _ (by first | exact Below.refl _ _ | exact (Below.refl _ _).drew | exact below_drewN (Below.refl _ _) _ | exact B7.out | exact B7.out.drew | exact below_drewN B7.out _ | exact B8.out | exact B8.out.drew | exact below_drewN B8.out _ | exact B9.out | exact B9.out.drew | exact below_drewN B9.out _ | exact B12.out | exact B12.out.drew | exact below_drewN B12.out _) (I7.out.later (by first | exact B78.out | exact B78.out.drew | exact below_drewN B78.out _)) (I8.out.later (by first | exact Below.refl _ _ | exact (Below.refl _ _).drew | exact below_drewN (Below.refl _ _) _))) ?_); rintro e w9 ⟨rfl, B9⟩)
                | (go_at_call 35; (with_reducible refine Calls.mono (kma _ (by first | exact Below.refl _ _ | exact (Below.refl _ _).drew | exact below_drewN (Below.refl _ _) _ | exact B7.out | exact B7.out.drew | exact below_drewN B7.out _ | exact B8.out | exact B8.out.drew | exact below_drewN B8.out _ | exact B9.out | exact B9.out.drew | exact below_drewN B9.out _ | exact B12.out | exact B12.out.drew | exact below_drewN B12.out _)) ?_); rintro e w10 ⟨rfl, rfl⟩)
                | (go_at_call 35; (with_reducible refine Calls.mono (kmb _ (by first | exact Below.refl _ _ | exact (Below.refl _ _).drew | exact below_drewN (Below.refl _ _) _ | exact B7.out | exact B7.out.drew | exact below_drewN B7.out _ | exact B8.out | exact B8.out.drew | exact below_drewN B8.out _ | exact B9.out | exact B9.out.drew | exact below_drewN B9.out _ | exact B12.out | exact B12.out.drew | exact below_drewN B12.out _)) ?_); rintro e w11 ⟨rfl, rfl⟩)
                | (go_at_call 33; (with_reducible refine Calls.mono (ka6 _ (by first | exact Below.refl _ _ | exact (Below.refl _ _).drew | exact below_drewN (Below.refl _ _) _ | exact B7.out | exact B7.out.drew | exact below_drewN B7.out _ | exact B8.out | exact B8.out.drew | exact below_drewN B8.out _ | exact B9.out | exact B9.out.drew | exact below_drewN B9.out _ | exact B12.out | exact B12.out.drew | exact below_drewN B12.out _)) ?_); rintro e w12 ⟨rfl, B12⟩))
                all_goals
                  go_wp2_with               (first
                | (go_at_call 37; (with_reducible refine Calls.mono (kla _ (by first | exact Below.refl _ _ | exact (Below.refl _ _).drew | exact below_drewN (Below.refl _ _) _ | exact B7.out | exact B7.out.drew | exact below_drewN B7.out _ | exact B8.out | exact B8.out.drew | exact below_drewN B8.out _ | exact B9.out | exact B9.out.drew | exact below_drewN B9.out _ | exact B12.out | exact B12.out.drew | exact below_drewN B12.out _)) ?_); rintro e w7 ⟨a7, c7, rfl, I7, B7⟩)
                | (go_at_call 37; (with_reducible refine Calls.mono (klb _ (by first | exact Below.refl _ _ | exact (Below.refl _ _).drew | exact below_drewN (Below.refl _ _) _ | exact B7.out | exact B7.out.drew | exact below_drewN B7.out _ | exact B8.out | exact B8.out.drew | exact below_drewN B8.out _ | exact B9.out | exact B9.out.drew | exact below_drewN B9.out _ | exact B12.out | exact B12.out.drew | exact below_drewN B12.out _)) ?_); rintro e w8 ⟨a8, c8, rfl, I8, B8, B78⟩)
                | (go_at_call 36; (with_reducible refine Calls.mono (KS.out _ _ _ _ _ (by first | exact Below.refl _ _ | exact (Below.refl _ _).drew | exact below_drewN (Below.refl _ _) _ | exact B7.out | exact B7.out.drew | exact below_drewN B7.out _ | exact B8.out | exact B8.out.drew | exact below_drewN B8.out _ | exact B9.out | exact B9.out.drew | exact below_drewN B9.out _ | exact B12.out | exact B12.out.drew | exact below_drewN B12.out _) (I7.out.later (by first | exact B78.out | exact B78.out.drew | exact below_drewN B78.out _)) (I8.out.later (by first | exact Below.refl _ _ | exact (Below.refl _ _).drew | exact below_drewN (Below.refl _ _) _))) ?_); rintro e w9 ⟨rfl, B9⟩)
                | (go_at_call 35; (with_reducible refine Calls.mono (kma _ (by first | exact Below.refl _ _ | exact (Below.refl _ _).drew | exact below_drewN (Below.refl _ _) _ | exact B7.out | exact B7.out.drew | exact below_drewN B7.out _ | exact B8.out | exact B8.out.drew | exact below_drewN B8.out _ | exact B9.out | exact B9.out.drew | exact below_drewN B9.out _ | exact B12.out | exact B12.out.drew | exact below_drewN B12.out _)) ?_); rintro e w10 ⟨rfl, rfl⟩)
                | (go_at_call 35; (with_reducible refine Calls.mono (kmb _ (by first | exact Below.refl _ _ | exact (Below.refl _ _).drew | exact below_drewN (Below.refl _ _) _ | exact B7.out | exact B7.out.drew | exact below_drewN B7.out _ | exact B8.out | exact B8.out.drew | exact below_drewN B8.out _ | exact B9.out | exact B9.out.drew | exact below_drewN B9.out _ | exact B12.out | exact B12.out.drew | exact below_drewN B12.out _)) ?_); rintro e w11 ⟨rfl, rfl⟩)
                | (go_at_call 33; (with_reducible refine Calls.mono (ka6 _ (by first | exact Below.refl _ _ | exact (Below.refl _ _).drew | exact below_drewN (Below.refl _ _) _ | exact B7.out | exact B7.out.drew | exact below_drewN B7.out _ | exact B8.out | exact B8.out.drew | exact below_drewN B8.out _ | exact B9.out | exact B9.out.drew | exact below_drewN B9.out _ | exact B12.out | exact B12.out.drew | exact below_drewN B12.out _)) ?_); rintro e w12 ⟨rfl, B12⟩))
                  go_returns
                  exact ⟨rfl, K.out.bl.trans ((by first | exact B12.out | exact B12.out.drew | exact below_drewN B12.out _ : Below wr.heap.size wr _).mono K.out.bl.size)⟩
  · have kn := fun w => tnew_bad 1024 late 5 (fun q => hs ((secB_iff _).1 q.2.2.1)) w
    clear hI1 hI2 hz1
    by_cases h1 : late < 0
    · have d1 := decide_eq_true h1
      go_enter Try.func11, Try.ntmps11
      go_wp2_with (first
        | (go_at_call 31; refine (kn _).mono ?_; rintro e w1 ⟨rfl, rfl⟩)
        | (go_at_call 33; refine (ka _).mono ?_; rintro e w3 ⟨rfl, b3⟩))
      go_returns
      exact ⟨rfl, b3⟩
    · have d1 := decide_eq_false h1
      have d2 : decide (1099511627775 < late) = true := by rw [decide_eq_true_eq]; omega
      go_enter Try.func11, Try.ntmps11
      go_wp2_with (first
        | (go_at_call 31; refine (kn _).mono ?_; rintro e w1 ⟨rfl, rfl⟩)
        | (go_at_call 33; refine (ka _).mono ?_; rintro e w3 ⟨rfl, b3⟩))
      go_returns
      exact ⟨rfl, b3⟩
end Go.Proofs.Ytbnlhjooimppeaa
/-
  SourceOrder: for every input the law returns true, and each argument reads afterwards as it read before. No condition on the input.
-/
namespace Go.Proofs.Ytbnlhjooimppeaa.sourceOrder
open Go.ChangeShapes Go.WideShapes Go.ChangeAt Go.RowKit Go.Deep W
open Go.ChangeMaps (open_string shut_string)
set_option linter.unusedVariables false
theorem own : ownKnob Try.prog.godebug = none := by kernel_rfl
theorem laidOut : laidOutB Try.prog = true := by kernel_rfl
set_option maxRecDepth 100000 in
theorem lifted (os : Os) (started : os.Started) (H : Type) (enc : TypeId × Value → H) :
    ReturnsInHanded {} Try.checked os 11 .any (Rows.sourceOrderSpec.pre6 enc Try.prog Try.f11 Rows.sourceOrderRow.domain false) (Rows.sourceOrderSpec.post enc Try.prog Try.f11 false true false false) := by
  refine returnsInHanded_of_change_sized (C := Try.checked) own started (by kernel_rfl) Try.func11
    (ChangeSpec.witness6 (enc := enc) (C := Try.checked) false ⟨#[], #[.slice none 0 0, .slice none 0 0, .int .i64 0], []⟩ 8 (by kernel_rfl) (by kernel_rfl) (by kernel_rfl) (by kernel_rfl)) ?_
  intro W base args ds gs before hval0 hW hcnd hsz0 _
  have hsz : (DataW.weightsEach Try.prog (Try.f11.params.toList ++ Rows.sourceOrderSpec.plain.varTypes Try.prog) (ds ++ gs)).all (· ≤ reachBytes) = true := hsz0
  clear hsz0
  have hval : ∀ (j : Nat) t v, Try.f11.params[j]? = some t → args[j]? = some v → Value.okWide Try.prog W .any base t v := hval0
  have hW' := hW
  obtain ⟨p, q, hA0, hV, rfl, hfz, hnd⟩ := hW
  have hA : DataW.TrodAll enc Try.prog W 0 (fun _ => true) true Try.f11.params.toList args.toList ds p := hA0
  rw [Try.params11] at hA hval hsz
  obtain ⟨v0, vs0, d0, ds0, p0, q0, hargs, rfl, rfl, h0, r0⟩ := trodAll_cons hA
  obtain ⟨v1, vs1, d1, ds1, p1, q1, rfl, rfl, rfl, h1, r1⟩ := trodAll_cons r0
  obtain ⟨v2, vs2, d2, ds2, p2, q2, rfl, rfl, rfl, h2, r2⟩ := trodAll_cons r1
  obtain ⟨rfl, rfl, rfl⟩ := trodAll_nil r2
  obtain rfl : args = #[v0, v1, v2] := by cases args; simp_all
  obtain ⟨rfl, rfl⟩ := trodVars_none hV
  have k0 := h0
  have lt0 : ∀ x ∈ p0, x.block < W.heap.size := by obtain ⟨m, hm⟩ := k0; exact DataW.trod_lt m _ _ _ hm
  obtain ⟨s0, n0, c0, rfl⟩ := okWide_slice Try.underlying78 (hval 0 78 v0 rfl rfl)
  obtain ⟨fuel0, hf0⟩ := h0
  obtain ⟨L0, hl0, hL0, hz0, hd0⟩ := Go.Proofs.Ytbnlhjooimppeaa.rd_txts (by simpa [Value.cells] using hf0)
  have hn0 : L0.length = n0 ∧ n0 ≤ 140737488355328 := by
    refine ⟨hl0, ?_⟩
    rcases hd0 with e | ⟨el, spd, e, el2⟩
    · omega
    · have h1 := sized_slice hsz (j := 0) (t := 78) (e := 9) (elems := el) (spare := spd) rfl (by simp; exact e) Try.underlying78
      have rl : reachBytes ≤ 140737488355328 := by decide
      rw [(by kernel_rfl : Try.prog.bytesOf 9 = 16)] at h1
      omega
  have k1 := h1
  have lt1 : ∀ x ∈ p1, x.block < W.heap.size := by obtain ⟨m, hm⟩ := k1; exact DataW.trod_lt m _ _ _ hm
  obtain ⟨s1, n1, c1, rfl⟩ := okWide_slice Try.underlying87 (hval 1 87 v1 rfl rfl)
  obtain ⟨fuel1, hf1⟩ := h1
  obtain ⟨L1, hl1, hL1, hz1, hd1⟩ := Go.Proofs.Ytbnlhjooimppeaa.rd_ints (by simpa [Value.cells] using hf1)
  have hn1 : L1.length = n1 ∧ n1 ≤ 140737488355328 := by
    refine ⟨hl1, ?_⟩
    rcases hd1 with e | ⟨el, spd, e, el2⟩
    · omega
    · have h1 := sized_slice hsz (j := 1) (t := 87) (e := 2) (elems := el) (spare := spd) rfl (by simp; exact e) Try.underlying87
      have rl : reachBytes ≤ 140737488355328 := by decide
      rw [(by kernel_rfl : Try.prog.bytesOf 2 = 8)] at h1
      omega
  obtain ⟨a2, rfl, rfl, rfl, w2⟩ := open_int Try.underlying2 (hval 2 2 v2 rfl rfl) h2
  clear hA0 hval0 hsz
  refine (Go.Proofs.Ytbnlhjooimppeaa.law_SourceOrder s0 n0 c0 L0 s1 n1 c1 L1 a2 hn0 hz0 hn1 hz1 W hL0 hL1).mono fun e W' ⟨he, bel⟩ => ?_
  subst he
  exact ⟨_, rfl, _, _, _, [], _, [], hW', trodAll_mk1 (shut_bool Try.underlying4 _), (trodAll_cons_mk (Below.trod laidOut (by kernel_rfl) (of_decide_eq_true (by kernel_rfl)) k0 bel lt0) (trodAll_cons_mk (Below.trod laidOut (by kernel_rfl) (of_decide_eq_true (by kernel_rfl)) k1 bel lt1) (trodAll_cons_mk (shut_int Try.underlying2 w2) trodAll_mk0))), rfl, bel.frame _, fun h => by cases h⟩
theorem over : Rows.sourceOrderRow.holds Try.pinned (OpenSpec.ofChange Rows.sourceOrderSpec) :=
  OpenClaim.holds_of_wide 11 Try.f11 rfl rfl rfl rfl rfl rfl rfl ⟨rfl, rfl, rfl, rfl, rfl⟩ rfl rfl rfl rfl rfl (by kernel_rfl) Try.func11 (by kernel_rfl)
    (of_decide_eq_true (by kernel_rfl)) (by unfold Func.isWrapper; first | (rw [if_pos (by decide +kernel)]; kernel_rfl) | (rw [if_neg (by decide +kernel)]; exact ⟨rfl, rfl⟩))
    (fun os started H enc _ => lifted os started H enc)
end Go.Proofs.Ytbnlhjooimppeaa.sourceOrder
namespace Go.Proofs.Ytbnlhjooimppeaa
theorem sourceOrder_holds : Rows.SourceOrderSaid := sourceOrder.over
#print axioms sourceOrder_holds
end Go.Proofs.Ytbnlhjooimppeaa
