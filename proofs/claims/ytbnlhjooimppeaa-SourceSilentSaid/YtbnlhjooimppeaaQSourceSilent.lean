/- Texts that belong together: Spc Lawss FSourceSilent. -/
import Derived.Test.YtbnlhjooimppeaaG04
import Derived.Deep.CutRange
import Derived.Test.YtbnlhjooimppeaaRows
import Derived.Test.YtbnlhjooimppeaaG03
import Derived.WalkKit
import Derived.ProofKit
import Derived.OpenShut
import Derived.ShutString
import Derived.ChangeOld
import Derived.Below
import Derived.SizedLaws
import Derived.Deep.SlicePairs
set_option linter.unusedSimpArgs false
set_option linter.unusedVariables false
/- source: who is told, counted. -/
namespace Go.Proofs.Ytbnlhjooimppeaa
set_option linter.unusedVariables false
set_option linter.unusedSimpArgs false
open Go.RowKit W Go.Maps
def cntB (l : List ByteArray) (x : ByteArray) : Nat := (l.filter fun y => decide (y = x)).length
theorem cntB_nil (x : ByteArray) : cntB [] x = 0 := rfl
theorem cntB_take {l : List ByteArray} {k : Nat} (h : k < l.length) (x : ByteArray) : cntB (l.take (k + 1)) x = cntB (l.take k) x + if l[k] = x then 1 else 0 := by
  unfold cntB
  rw [List.take_add_one, List.getElem?_eq_getElem h, List.filter_append, List.length_append]
  congr 1
  simp only [Option.toList_some]
  by_cases e : l[k] = x <;> simp [e]
theorem cntB_le (l : List ByteArray) (x : ByteArray) : cntB l x ≤ l.length := List.length_filter_le _ _
theorem cntB_zero {l : List ByteArray} {x : ByteArray} (h : x ∉ l) : cntB l x = 0 := by
  unfold cntB
  rw [List.length_eq_zero_iff, List.filter_eq_nil_iff]
  intro y hy
  simp only [decide_eq_true_eq]
  rintro rfl
  exact h hy
theorem cntB_one {l : List ByteArray} {x : ByteArray} (n : l.Pairwise (· ≠ ·)) (h : x ∈ l) : cntB l x = 1 := by
  induction l with
  | nil => cases h
  | cons a l ih =>
    have n' := List.pairwise_cons.1 n
    by_cases e : a = x
    · have z : cntB l x = 0 := cntB_zero (fun q => n'.1 x q e)
      unfold cntB at z ⊢
      simp [e, z]
    · have q : x ∈ l := by
        rcases List.mem_cons.1 h with q | q
        · exact absurd q.symm e
        · exact q
      have z := ih n'.2 q
      unfold cntB at z ⊢
      simp [e, z]
theorem goneN_pair {A : List Sr} (hA : Names A) (idle now : Int) : (goneN A idle now).Pairwise (· ≠ ·) := by
  unfold goneN
  refine List.pairwise_map.2 ?_
  have n0 : (goS A idle now).Pairwise fun a b => a.1 ≠ b.1 := (List.Pairwise.filter _ hA).imp (fun q => ltB_ne q)
  exact (List.Perm.pairwise_iff (fun {_ _} q => Ne.symm q) (goneH_perm A idle now)).2 n0
theorem mem_goneN {A : List Sr} {idle now : Int} {x : ByteArray} : x ∈ goneN A idle now ↔ ∃ s ∈ A, ¬ now - idle < s.2.2 ∧ s.1 = x := by
  unfold goneN
  rw [List.mem_map]
  constructor
  · rintro ⟨s, hs, rfl⟩
    obtain ⟨h1, h2⟩ := List.mem_filter.1 ((goneH_perm A idle now).subset hs)
    exact ⟨s, h1, by simpa using h2, rfl⟩
  · rintro ⟨s, h1, h2, rfl⟩
    exact ⟨s, (goneH_perm A idle now).symm.subset (List.mem_filter.2 ⟨h1, by simpa using h2⟩), rfl⟩
theorem stay_find {A : List Sr} (hA : Names A) {idle now : Int} {s : Sr} (hs : s ∈ A) : findS (stayS A idle now) s.1 = if now - idle < s.2.2 then some s else none := by
  by_cases c : now - idle < s.2.2
  · rw [if_pos c]
    exact (findS_some (hA.stay _ _)).2 ⟨List.mem_filter.2 ⟨hs, by simpa using c⟩, rfl⟩
  · rw [if_neg c, findS_none]
    intro t ht e
    obtain ⟨h1, h2⟩ := List.mem_filter.1 ht
    have := hA.eq h1 hs e
    subst this
    exact c (by simpa using h2)
theorem gone_count {A : List Sr} (hA : Names A) {idle now : Int} {s : Sr} (hs : s ∈ A) : cntB (goneN A idle now) s.1 = if now - idle < s.2.2 then 0 else 1 := by
  by_cases c : now - idle < s.2.2
  · rw [if_pos c]
    refine cntB_zero fun q => ?_
    obtain ⟨t, h1, h2, e⟩ := mem_goneN.1 q
    have := hA.eq h1 hs e
    subst this
    exact h2 c
  · rw [if_neg c]
    exact cntB_one (goneN_pair hA _ _) (mem_goneN.2 ⟨s, hs, c, rfl⟩)
theorem filter_split {α : Type} (p : α → Bool) : ∀ l : List α, (l.filter p).length + (l.filter fun x => !p x).length = l.length
  | [] => rfl
  | a :: l => by
    have := filter_split p l
    cases h : p a <;> simp [h] <;> omega
theorem gone_len (A : List Sr) (idle now : Int) : (stayS A idle now).length + (goneN A idle now).length = A.length := by
  unfold goneN
  rw [List.length_map, (goneH_perm A idle now).length_eq]
  exact filter_split _ A
theorem gone_stay (A : List Sr) (idle now : Int) : goneN (stayS A idle now) idle now = [] := by
  unfold goneN goneH
  have : goS (stayS A idle now) idle now = [] := by
    unfold goS stayS
    rw [List.filter_filter, List.filter_eq_nil_iff]
    intro s _
    simp
  rw [this]
  simp
/-- How many stay of the first. -/
def stayN (A : List Sr) (idle now : Int) (i : Nat) : Nat := (stayS (A.take i) idle now).length
theorem stayN_zero (A : List Sr) (idle now : Int) : stayN A idle now 0 = 0 := by simp [stayN, stayS]
theorem stayN_all (A : List Sr) (idle now : Int) : stayN A idle now A.length = (stayS A idle now).length := by simp [stayN]
theorem stayN_succ {A : List Sr} {idle now : Int} {i : Nat} (h : i < A.length) : stayN A idle now (i + 1) = stayN A idle now i + if now - idle < A[i].2.2 then 1 else 0 := by
  unfold stayN stayS
  rw [List.take_add_one, List.getElem?_eq_getElem h, List.filter_append, List.length_append]
  congr 1
  simp only [Option.toList_some]
  by_cases c : now - idle < A[i].2.2 <;> simp [c]
theorem stayN_le (A : List Sr) (idle now : Int) (i : Nat) : stayN A idle now i ≤ i := by
  unfold stayN stayS
  refine Nat.le_trans (List.length_filter_le _ _) ?_
  rw [List.length_take]; omega
/-- A list of names of one's own reads. -/
theorem isT_own {w : World} {B n : Nat} {s : Value} {l : List ByteArray} (h : w.ownsRow B 9 1 s n (l.map Value.string)) (hn : n = l.length) : ∃ a c, s = .slice a n c ∧ IsTxts w a l := by
  subst hn
  rcases h.2 with ⟨rfl, e⟩ | ⟨g, cap, cur, rfl, hb, hh, hc, _⟩
  · exact ⟨none, 0, by rw [e], .inl (List.eq_nil_of_length_eq_zero e)⟩
  · refine ⟨_, cap, rfl, .inr ⟨g, 0, rfl, ⟨fun i hi => ?_, blk_lt hh⟩⟩⟩
    rw [Nat.zero_add]
    refine (row_look h).1 i _ ?_
    simp [hi]
/-- Tick, as it reads. -/
theorem ttick_is {B : Nat} {w : World} {b : Tb} {lim : Nat} {late idle : Int} {v1 v2 : Value} {A : List Sr} {r1 r2 : List En} {mark : Int} (h : TM B w b lim late idle v1 v2 A r1 r2 mark) (hB : B ≤ w.heap.size) (now : Int) :
    Calls Try.prog 38 #[.pointer (some ⟨b.tb, 0, none⟩), .int .i64 now] w fun e w' => ∃ a c v1' v2' r1' r2', e = .returned (.slice a (if secB now then goneN A idle now else []).length c) ∧ IsTxts w' a (if secB now then goneN A idle now else []) ∧
      TM B w' b lim late idle v1' v2' (if secB now then stayS A idle now else A) r1' r2' (if secB now then markS (stayS A idle now) late mark else mark) ∧ Chg (tS b v1 v2) w w' := by
  refine (ttick_spec h hB now).mono ?_
  rintro e w' ⟨v1', v2', r1', r2', s, rfl, o, t, c, _, _⟩
  obtain ⟨a, cp, rfl, i⟩ := isT_own o rfl
  exact ⟨a, cp, v1', v2', r1', r2', rfl, i, t, c⟩
end Go.Proofs.Ytbnlhjooimppeaa
/- source: SourceSilent. -/
namespace Go.Proofs.Ytbnlhjooimppeaa
set_option linter.unusedVariables false
set_option linter.unusedSimpArgs false
open Go.RowKit W Go.Maps
/-- A script of Hears is under way. -/
structure NS (W : World) (b : Tb) (lim : Nat) (late idle : Int) (wr : World) (v1 v2 : Value) (A : List Sr) (r1 r2 : List En) (mark : Int) : Prop where
  tm : TM W.heap.size wr b lim late idle v1 v2 A r1 r2 mark
  bl : Below W.heap.size W wr
theorem NS.below {W wr w' : World} {b : Tb} {lim : Nat} {late idle : Int} {v1 v2 : Value} {A : List Sr} {r1 r2 : List En} {mark : Int} (h : NS W b lim late idle wr v1 v2 A r1 r2 mark) (k : Below wr.heap.size wr w') : NS W b lim late idle w' v1 v2 A r1 r2 mark :=
  ⟨h.tm.later k, h.bl.trans (k.mono h.bl.size)⟩
theorem NS.next {W wr w' : World} {b : Tb} {lim : Nat} {late idle : Int} {v1 v2 v1' v2' : Value} {A A' : List Sr} {r1 r2 r1' r2' : List En} {mark mark' : Int} (h : NS W b lim late idle wr v1 v2 A r1 r2 mark) (t : TM W.heap.size w' b lim late idle v1' v2' A' r1' r2' mark') (c : Chg (tS b v1 v2) wr w') : NS W b lim late idle w' v1' v2' A' r1' r2' mark' :=
  ⟨t, h.bl.trans (c.below (fun k q => (h.tm.old k q).1) h.bl.size)⟩
/-- What is done behind the script: SourceSilent's end, from a world on. -/
def SilEnd (W : World) (wr : World) (b : Tb) (idle now : Int) (v1 v2 : Value) (A : List Sr) (r1 r2 : List En) (mark : Int) : Prop := True
set_option maxRecDepth 100000 in
set_option maxHeartbeats 8000000 in
theorem law_SourceSilent (idle : Int) (a : Option Addr) (n c : Nat) (L : List Oq) (now : Int) (hn : L.length = n ∧ n ≤ 140737488355328) (hsz : ∀ o ∈ L, o.nm.size ≤ maxLen) (W : World) (hI : IsOq W a L) :
    Calls Try.prog 10 #[.int .i64 idle, .slice a n c, .int .i64 now] W fun e w' => e = .returned (.bool true) ∧ Below W.heap.size W w' := by
  obtain ⟨hl, hb⟩ := hn
  have ka := alive11_spec
  have HL := hide hl
  have HS := hide hsz
  have HI := hide hI
  clear hl hsz hI
  by_cases hs : 1 ≤ idle ∧ idle ≤ 1099511627775
  · obtain ⟨hs1, hs2⟩ := hs
    have kn := tnew_ok 1024 (by decide) (by decide) 0 idle (by decide) ((secB_iff _).2 ⟨by omega, hs2⟩) (by omega) W
    rw [show ((1024 : Nat) : Int) = 1024 from rfl] at kn
    have d1 : decide (idle < 1) = false := by rw [decide_eq_false_iff_not]; omega
    have d2 : decide (1099511627775 < idle) = false := by rw [decide_eq_false_iff_not]; omega
    go_enter Try.func10, Try.ntmps10
    go_wp2_with (go_at_call 31; refine kn.mono ?_; rintro e w1 ⟨b, rfl, t1, b1⟩)
    have N1 : Hid (NS W b 1024 0 idle w1 (.slice none 0 0) (.slice none 0 0) [] [] [] 0) := ⟨t1, b1⟩
    clear kn t1 b1
    go_loopw [9] (fun s9 wr => ∃ (i : Nat) (v1 v2 : Value) (A : List Sr) (r1 r2 : List En) (mark : Int), s9 = .int .i64 (i : Int) ∧ i ≤ n ∧ Hid (NS W b 1024 0 idle wr v1 v2 A r1 r2 mark)) (fun s9 _ => n - (intOf s9).toNat)
    case atStart => exact ⟨0, _, _, [], [], [], 0, rfl, by omega, N1⟩
    case round =>
      obtain ⟨i, v1, v2, A, r1, r2, mark, rfl, hi, N⟩ := hrel
      by_cases hlt : i < n
      · have e1 : decide ((i : Int) < (n : Int)) = true := by rw [decide_eq_true_eq]; omega
        have e2 : decide (i < n) = true := by rw [decide_eq_true_eq]; omega
        have il : i < L.length := by have := HL.out; omega
        obtain ⟨g, o, rfl, gl, x0, x1, x2, x3⟩ := (HI.out.later (N.out.bl)).at_ il
        have xs : L[i].nm.size ≤ maxLen := HS.out _ (List.getElem_mem il)
        obtain ⟨⟨kd, nm, t, tn⟩, hq⟩ : ∃ q, q = L[i] := ⟨_, rfl⟩
        rw [← hq] at x0 x1 x2 x3 xs
        dsimp only at x0 x1 x2 x3 xs
        have zW : W.heap.size ≤ wr.heap.size := N.out.bl.size
        have kh := fun W' (q : Below wr.heap.size wr W') => thear_spec (N.out.tm.later q) (Nat.le_trans zW q.size) nm xs t tn
        generalize heA 1024 A nm t tn = A' at kh
        generalize heC 1024 A nm t tn = C at kh
        generalize heM 1024 0 A mark nm t tn = mk at kh
        clear hq
        go_wp2_with fail
        go_region_with (go_at_call 39; (with_reducible refine Calls.mono (kh _ (by first | exact Below.refl _ _ | exact (Below.refl _ _).drew | exact below_drewN (Below.refl _ _) _)) ?_); rintro e w2 ⟨v1', v2', r1', r2', rfl, t2, c2, _, _⟩; have N2 := hide ((N.out.below (by first | exact Below.refl _ _ | exact (Below.refl _ _).drew | exact below_drewN (Below.refl _ _) _)).next t2 c2); clear t2 c2)
        all_goals
          go_wp2_with fail
          go_roundw
          case rel => exact ⟨i + 1, v1', v2', A', r1', r2', mk, by go_num, by omega, N2⟩
          case measure => (first | (simp [intOf]; done) | (simp [intOf]; omega))
      · obtain rfl : i = n := by omega
        have e1 : decide ((i : Int) < (i : Int)) = false := by rw [decide_eq_false_iff_not]; omega
        have e2 : decide (i < i) = false := by rw [decide_eq_false_iff_not]; omega
        obtain ⟨m, hm⟩ : ∃ m, m = A.length := ⟨_, rfl⟩
        have HM := hide hm
        have lA : m ≤ 1024 := by have := N.out.tm.mem.qa1.le; have := N.out.tm.pl.lim; have := N.out.tm.pl.s1.len; omega
        have zW : W.heap.size ≤ wr.heap.size := N.out.bl.size
        have kl : Calls Try.prog 37 #[.pointer (some ⟨b.tb, 0, none⟩)] wr fun e w' => ∃ s c, e = .returned (.slice s m c) ∧ Hid (w'.ownsRow wr.heap.size 82 3 (.slice s m c) m (srcsL A)) ∧ Hid (Below wr.heap.size wr w') := by
          refine (tall_spec N.out.tm).mono ?_
          rintro e w' ⟨s, rfl, o, bl⟩
          obtain ⟨aS, cS, rfl, _⟩ := isS_own o rfl
          exact ⟨aS, cS, by rw [HM.out], by rw [HM.out]; exact o, bl⟩
        clear hm
        go_wp2_with (go_at_call 37; refine kl.mono ?_; rintro e w3 ⟨aS, cS, rfl, O3, B3⟩)
        have N3 := hide (N.out.below B3.out)
        have z3 := B3.out.size
        cases hsn : secB now with
        | false =>
          have kt : Calls Try.prog 38 #[.pointer (some ⟨b.tb, 0, none⟩), .int .i64 now] w3 fun e w' => ∃ a c v1' v2' r1' r2', e = .returned (.slice a 0 c) ∧ Hid (TM W.heap.size w' b 1024 0 idle v1' v2' A r1' r2' mark) ∧ Hid (Chg (tS b v1 v2) w3 w') := by
            have k := ttick_is N3.out.tm (Nat.le_trans zW z3) now
            rw [hsn] at k
            simp only [if_neg Bool.false_ne_true, List.length_nil] at k
            refine k.mono ?_
            rintro e w' ⟨a, c, v1', v2', r1', r2', rfl, _, t, c⟩
            exact ⟨a, _, v1', v2', r1', r2', rfl, t, c⟩
          refine kt.mono ?_
          rintro e w4 ⟨aT, cT, v1', v2', r1', r2', rfl, T4, C4⟩
          have N4 : Hid (NS W b 1024 0 idle w4 v1' v2' A r1' r2' mark) := N3.out.next T4.out C4.out
          have S4 : Hid (IsS w4 aS A) := by
            have o := chg_row O3.out C4.out (fun k e q => by have := (own_old O3.out e).1; have := (N.out.tm.old k q).2; omega)
            obtain ⟨a2, c2, e2, h2⟩ := isS_own o HM.out
            injection e2 with e2
            subst e2
            exact h2
          have kl4 : Calls Try.prog 37 #[.pointer (some ⟨b.tb, 0, none⟩)] w4 fun e w' => ∃ s c, e = .returned (.slice s m c) ∧ Hid (IsS w' s A) ∧ Hid (Below w4.heap.size w4 w') := by
            refine (tall_is T4.out).mono ?_
            rintro e w' ⟨s, c, rfl, i, bl⟩
            exact ⟨s, c, by rw [HM.out], i, bl⟩
          have ks : ∀ W' s1 c1 c2, IsS W' s1 A → IsS W' aS A → Calls Try.prog 36 #[.slice s1 m c1, .slice aS m c2] W' fun e w' => e = .returned (.bool true) ∧ Below W'.heap.size W' w' := fun W' s1 c1 c2 h1 h2 => by
            have k := rsame_spec (c1 := c1) (c2 := c2) h1 h2 (by have := HM.out; omega)
            rw [← HM.out] at k
            exact k
          have HKS := hide ks
          have hnow : now < 0 ∨ 1099511627775 < now := by
            by_cases q1 : now < 0
            · exact .inl q1
            · by_cases q2 : 1099511627775 < now
              · exact .inr q2
              · have := (secB_iff now).2 ⟨by omega, by omega⟩
                rw [hsn] at this; cases this
          clear hsn kt kl ks
          by_cases q1 : now < 0
          · have f1 := decide_eq_true q1
            go_wp2_with (first
              | (go_at_call 37; refine kl4.mono ?_; rintro e w5 ⟨s5, c5, rfl, S5, B5⟩; have k5 := HKS.out w5 s5 c5 cS S5.out (S4.out.later B5.out))
              | (go_at_call 36; refine k5.mono ?_; rintro e w6 ⟨rfl, b6⟩; have B6 := hide b6; clear b6 k5)
              | (go_at_call 33; refine (ka _).mono ?_; rintro e w7 ⟨rfl, b7⟩))
            go_returns
            exact ⟨rfl, (((N4.out.below B5.out).below B6.out).below b7).bl⟩
          · have f1 := decide_eq_false q1
            have f2 : decide (1099511627775 < now) = true := by rw [decide_eq_true_eq]; omega
            go_wp2_with (first
              | (go_at_call 37; refine kl4.mono ?_; rintro e w5 ⟨s5, c5, rfl, S5, B5⟩; have k5 := HKS.out w5 s5 c5 cS S5.out (S4.out.later B5.out))
              | (go_at_call 36; refine k5.mono ?_; rintro e w6 ⟨rfl, b6⟩; have B6 := hide b6; clear b6 k5)
              | (go_at_call 33; refine (ka _).mono ?_; rintro e w7 ⟨rfl, b7⟩))
            go_returns
            exact ⟨rfl, (((N4.out.below B5.out).below B6.out).below b7).bl⟩
        | true =>
          obtain ⟨nb1, nb2⟩ := (secB_iff now).1 hsn
          have f1 : decide (now < 0) = false := by rw [decide_eq_false_iff_not]; omega
          have f2 : decide (1099511627775 < now) = false := by rw [decide_eq_false_iff_not]; omega
          have wrp : IntKind.i64.wrap (now - idle) = now - idle := by rw [IntKind.wrap_i64]; omega
          obtain ⟨G, hG⟩ : ∃ G, G = goneN A idle now := ⟨_, rfl⟩
          obtain ⟨A', hA'⟩ : ∃ A', A' = stayS A idle now := ⟨_, rfl⟩
          obtain ⟨p, hp⟩ : ∃ p, p = G.length := ⟨_, rfl⟩
          obtain ⟨q, hq⟩ : ∃ q, q = A'.length := ⟨_, rfl⟩
          have HG := hide hG
          have HA' := hide hA'
          have HP := hide hp
          have HQ := hide hq
          have nA : Hid (Names A) := N3.out.tm.pl.names
          have pq : q + p = m := by rw [hp, hq, hG, hA', HM.out]; exact gone_len A idle now
          have kt : Calls Try.prog 38 #[.pointer (some ⟨b.tb, 0, none⟩), .int .i64 now] w3 fun e w' => ∃ a c v1' v2' r1' r2' mk, e = .returned (.slice a p c) ∧ Hid (IsTxts w' a G) ∧ Hid (TM W.heap.size w' b 1024 0 idle v1' v2' A' r1' r2' mk) ∧ Hid (Chg (tS b v1 v2) w3 w') := by
            have k := ttick_is N3.out.tm (Nat.le_trans zW z3) now
            rw [hsn] at k
            simp only [↓reduceIte] at k
            rw [← hG, ← hA', ← hp] at k
            refine k.mono ?_
            rintro e w' ⟨a, c, v1', v2', r1', r2', rfl, i, t, c⟩
            exact ⟨a, _, v1', v2', r1', r2', _, rfl, i, t, c⟩
          have HSN := hide hsn
          clear hG hA' hp hq hsn kl
          refine kt.mono ?_
          rintro e w4 ⟨aT, cT, v1', v2', r1', r2', mk, rfl, X4, T4, C4⟩
          have N4 : Hid (NS W b 1024 0 idle w4 v1' v2' A' r1' r2' mk) := N3.out.next T4.out C4.out
          have z4 := C4.out.size
          have S4 : Hid (IsS w4 aS A) := by
            have o := chg_row O3.out C4.out (fun k e q => by have := (own_old O3.out e).1; have := (N.out.tm.old k q).2; omega)
            obtain ⟨a2, c2, e2, h2⟩ := isS_own o HM.out
            injection e2 with e2
            subst e2
            exact h2
          clear kt
          go_wp2_with fail
          go_loopw [12, 13] (fun s12 s13 wr2 => ∃ (k u : Nat), s12 = .int .i64 (u : Int) ∧ s13 = .int .i64 (k : Int) ∧ k ≤ m ∧ u ≤ k ∧ Hid (u = stayN A idle now k) ∧ Hid (Below w4.heap.size w4 wr2)) (fun _ s13 _ => m - (intOf s13).toNat)
          case atStart => exact ⟨0, 0, rfl, rfl, by omega, by omega, hide (stayN_zero A idle now).symm, hide (Below.refl _ _)⟩
          case round =>
            obtain ⟨k, u, rfl, rfl, hk, huk, HU, BR⟩ := hrel
            by_cases hkm : k < m
            · have g1 : decide ((k : Int) < (m : Int)) = true := by rw [decide_eq_true_eq]; omega
              have g2 : decide (k < m) = true := by rw [decide_eq_true_eq]; omega
              have kA : k < A.length := by have := HM.out; omega
              obtain ⟨ga, oa, rfl, gla, y0, y1, y2⟩ := (S4.out.later BR.out).at_ kA
              have FI := stay_find nA.out (idle := idle) (now := now) (List.getElem_mem kA)
              have CN := gone_count nA.out (idle := idle) (now := now) (List.getElem_mem kA)
              have SU := stayN_succ (idle := idle) (now := now) kA
              have xs := (N3.out.tm.pl.sec _ (List.getElem_mem kA)).2.2
              rw [← HA'.out] at FI
              rw [← HG.out] at CN
              rw [← HU.out] at SU
              obtain ⟨⟨sk, sa, sl⟩, hs⟩ : ∃ s, s = A[k] := ⟨_, rfl⟩
              rw [← hs] at y0 y1 y2 FI CN SU xs
              dsimp only at y0 y1 y2 FI CN SU xs
              have kg := fun W' (b : Below w4.heap.size w4 W') => tget_spec (T4.out.later b) sk xs
              have HK := hide hs
              have CN' := hide CN
              have SU' := hide SU
              have z5 := BR.out.size
              clear hs CN SU
              by_cases st : now - idle < sl
              · have g3 := decide_eq_true st
                have e5 : srcOf A' sk = (sk, sa, sl) := by unfold srcOf; rw [FI, if_pos st]; rfl
                have e6 : (findS A' sk).isSome = true := by rw [FI, if_pos st]; rfl
                rw [e5, e6] at kg
                have CN0 : Hid (cntB G sk = 0) := by have := CN'.out; rw [if_pos st] at this; exact this
                have SU0 : Hid (stayN A idle now (k + 1) = u + 1) := by have := SU'.out; rw [if_pos st] at this; exact this
                clear e5 e6 FI
                go_wp2_with (go_at_call 40; (with_reducible refine Calls.mono (kg _ BR.out) ?_); rintro e w5 ⟨rfl, b5⟩; have B5 : Hid (Below w4.heap.size w4 w5) := hide (BR.out.trans (b5.mono z5)); have z6 := b5.size; have y2' : w5.cell? ⟨ga, oa + k * 3 + 2, none⟩ = some (.int .i64 sl) := (b5.cell (p := ⟨ga, oa + k * 3 + 2, none⟩) gla).trans y2; have gl5 : ga < w5.heap.size := Nat.lt_of_lt_of_le gla z6; clear b5)
                refine abs_wp (fun V => Hid (Below w4.heap.size w4 V) ∧ V.cell? ⟨w5.heap.size, 0, none⟩ = some (.string sk) ∧ V.cell? ⟨w5.heap.size, 1, none⟩ = some (.int .i64 sa) ∧ V.cell? ⟨w5.heap.size, 2, none⟩ = some (.int .i64 sl) ∧ w5.heap.size < V.heap.size) ⟨hide (B5.out.alloc B5.out.size _), by simp [go_sem], by simp [go_sem], by simp [go_sem], by simp⟩ ?_
                rintro V ⟨BV, p0, p1, p2, zV⟩
                clear y0 y1 y2 gla y2' gl5
                go_loopw [17, 18] (fun s17 s18 wr3 => ∃ (j t : Nat), s17 = .int .i64 (t : Int) ∧ s18 = .int .i64 (j : Int) ∧ j ≤ p ∧ t ≤ j ∧ Hid (t = cntB (G.take j) sk) ∧ Hid (Below V.heap.size V wr3)) (fun _ s18 _ => p - (intOf s18).toNat)
                case atStart => exact ⟨0, 0, rfl, rfl, by omega, by omega, hide (by rw [List.take_zero]; rfl), hide (Below.refl _ _)⟩
                case round =>
                  obtain ⟨j, t, rfl, rfl, hj, htj, HT, B3'⟩ := hrel
                  have BW : Hid (Below w4.heap.size w4 wr) := hide (BV.out.trans (B3'.out.mono BV.out.size))
                  obtain ⟨ga', oa', e9, gla, y0, y1, y2⟩ := (S4.out.later BW.out).at_ kA
                  injection e9 with e9
                  injection e9 with e10 e11
                  subst e10 e11
                  rw [← HK.out] at y0 y1 y2
                  dsimp only at y0 y1 y2
                  by_cases hjp : j < p
                  · have f3 : decide ((j : Int) < (p : Int)) = true := by rw [decide_eq_true_eq]; omega
                    have f4 : decide (j < p) = true := by rw [decide_eq_true_eq]; omega
                    have jG : j < G.length := by have := HP.out; omega
                    obtain ⟨gt, ot, rfl, kt4⟩ := (X4.out.later BW.out).resolve_left (fun z => by rw [z] at jG; simp at jG)
                    have gtl := kt4.lt
                    have x0 := kt4.cell j jG
                    have TK := cntB_take jG sk
                    rw [← HT.out] at TK
                    obtain ⟨nj, hnj⟩ : ∃ nj, nj = G[j] := ⟨_, rfl⟩
                    rw [← hnj] at x0 TK
                    clear kt4 hnj
                    by_cases e : nj = sk
                    · have f5 : (nj.toList == sk.toList) = true := by rw [e]; simp
                      rw [if_pos e] at TK
                      have HTK := hide TK
                      clear e TK
                      go_wp2_with fail
                      go_quiet (fail)
                      go_wp2_with fail
                      go_roundw
                      case rel => exact ⟨j + 1, t + 1, by go_num, by go_num, by omega, by omega, hide HTK.out.symm, hide (B3'.out.trans (by first | exact below_drewN (Below.refl _ _) _ | exact Below.refl _ _))⟩
                      case measure => (first | (simp [intOf]; done) | (simp [intOf]; omega))
                    · have f5 : (nj.toList == sk.toList) = false := by
                        cases h : nj.toList == sk.toList
                        · rfl
                        · exact absurd (toL_inj (by simpa using h)) e
                      rw [if_neg e] at TK
                      have HTK := hide TK
                      clear e TK
                      go_wp2_with fail
                      go_quiet (fail)
                      go_wp2_with fail
                      go_roundw
                      case rel => exact ⟨j + 1, t, by first | rfl | go_num, by go_num, by omega, by omega, hide HTK.out.symm, hide (B3'.out.trans (by first | exact below_drewN (Below.refl _ _) _ | exact Below.refl _ _))⟩
                      case measure => (first | (simp [intOf]; done) | (simp [intOf]; omega))
                  · obtain rfl : j = p := by omega
                    have f3 : decide ((j : Int) < (j : Int)) = false := by rw [decide_eq_false_iff_not]; omega
                    have f4 : decide (j < j) = false := by rw [decide_eq_false_iff_not]; omega
                    have et : t = 0 := by
                      have := HT.out
                      rw [HP.out, List.take_length, CN0.out] at this
                      exact this
                    subst et
                    have q0 : wr.cell? ⟨w5.heap.size, 0, none⟩ = some (.string sk) := (B3'.out.cell (p := ⟨w5.heap.size, 0, none⟩) zV).trans p0
                    have q1 : wr.cell? ⟨w5.heap.size, 1, none⟩ = some (.int .i64 sa) := (B3'.out.cell (p := ⟨w5.heap.size, 1, none⟩) zV).trans p1
                    have q2 : wr.cell? ⟨w5.heap.size, 2, none⟩ = some (.int .i64 sl) := (B3'.out.cell (p := ⟨w5.heap.size, 2, none⟩) zV).trans p2
                    have qz : w5.heap.size < wr.heap.size := Nat.lt_of_lt_of_le zV B3'.out.size
                    have f6 : (sk.toList == sk.toList) = true := by simp
                    clear p0 p1 p2
                    go_wp2_with fail
                    go_quiet (fail)
                    go_wp2_with fail
                    go_roundw
                    case rel => exact ⟨k + 1, u + 1, by first | rfl | go_num, by go_num, by omega, by omega, hide SU0.out.symm, hide (BW.out.trans (by first | exact below_drewN ((Below.refl _ _).mono BW.out.size) _ | exact Below.refl _ _))⟩
                    case measure => (first | (simp [intOf]; done) | (simp [intOf]; omega))
              · have g3 := decide_eq_false st
                have e5 : srcOf A' sk = (ByteArray.empty, 0, 0) := by unfold srcOf; rw [FI, if_neg st]; rfl
                have e6 : (findS A' sk).isSome = false := by rw [FI, if_neg st]; rfl
                rw [e5, e6] at kg
                have CN0 : Hid (cntB G sk = 1) := by have := CN'.out; rw [if_neg st] at this; exact this
                have SU0 : Hid (stayN A idle now (k + 1) = u) := by have := SU'.out; rw [if_neg st] at this; exact this
                clear e5 e6 FI
                go_wp2_with (go_at_call 40; (with_reducible refine Calls.mono (kg _ BR.out) ?_); rintro e w5 ⟨rfl, b5⟩; have B5 : Hid (Below w4.heap.size w4 w5) := hide (BR.out.trans (b5.mono z5)); have z6 := b5.size; have y2' : w5.cell? ⟨ga, oa + k * 3 + 2, none⟩ = some (.int .i64 sl) := (b5.cell (p := ⟨ga, oa + k * 3 + 2, none⟩) gla).trans y2; have gl5 : ga < w5.heap.size := Nat.lt_of_lt_of_le gla z6; clear b5)
                refine abs_wp (fun V => Hid (Below w4.heap.size w4 V) ∧ V.cell? ⟨w5.heap.size, 0, none⟩ = some (.string ByteArray.empty) ∧ V.cell? ⟨w5.heap.size, 1, none⟩ = some (.int .i64 0) ∧ V.cell? ⟨w5.heap.size, 2, none⟩ = some (.int .i64 0) ∧ w5.heap.size < V.heap.size) ⟨hide (B5.out.alloc B5.out.size _), by simp [go_sem], by simp [go_sem], by simp [go_sem], by simp⟩ ?_
                rintro V ⟨BV, p0, p1, p2, zV⟩
                clear y0 y1 y2 gla y2' gl5
                go_loopw [17, 18] (fun s17 s18 wr3 => ∃ (j t : Nat), s17 = .int .i64 (t : Int) ∧ s18 = .int .i64 (j : Int) ∧ j ≤ p ∧ t ≤ j ∧ Hid (t = cntB (G.take j) sk) ∧ Hid (Below V.heap.size V wr3)) (fun _ s18 _ => p - (intOf s18).toNat)
                case atStart => exact ⟨0, 0, rfl, rfl, by omega, by omega, hide (by rw [List.take_zero]; rfl), hide (Below.refl _ _)⟩
                case round =>
                  obtain ⟨j, t, rfl, rfl, hj, htj, HT, B3'⟩ := hrel
                  have BW : Hid (Below w4.heap.size w4 wr) := hide (BV.out.trans (B3'.out.mono BV.out.size))
                  obtain ⟨ga', oa', e9, gla, y0, y1, y2⟩ := (S4.out.later BW.out).at_ kA
                  injection e9 with e9
                  injection e9 with e10 e11
                  subst e10 e11
                  rw [← HK.out] at y0 y1 y2
                  dsimp only at y0 y1 y2
                  by_cases hjp : j < p
                  · have f3 : decide ((j : Int) < (p : Int)) = true := by rw [decide_eq_true_eq]; omega
                    have f4 : decide (j < p) = true := by rw [decide_eq_true_eq]; omega
                    have jG : j < G.length := by have := HP.out; omega
                    obtain ⟨gt, ot, rfl, kt4⟩ := (X4.out.later BW.out).resolve_left (fun z => by rw [z] at jG; simp at jG)
                    have gtl := kt4.lt
                    have x0 := kt4.cell j jG
                    have TK := cntB_take jG sk
                    rw [← HT.out] at TK
                    obtain ⟨nj, hnj⟩ : ∃ nj, nj = G[j] := ⟨_, rfl⟩
                    rw [← hnj] at x0 TK
                    clear kt4 hnj
                    by_cases e : nj = sk
                    · have f5 : (nj.toList == sk.toList) = true := by rw [e]; simp
                      rw [if_pos e] at TK
                      have HTK := hide TK
                      clear e TK
                      go_wp2_with fail
                      go_quiet (fail)
                      go_wp2_with fail
                      go_roundw
                      case rel => exact ⟨j + 1, t + 1, by go_num, by go_num, by omega, by omega, hide HTK.out.symm, hide (B3'.out.trans (by first | exact below_drewN (Below.refl _ _) _ | exact Below.refl _ _))⟩
                      case measure => (first | (simp [intOf]; done) | (simp [intOf]; omega))
                    · have f5 : (nj.toList == sk.toList) = false := by
                        cases h : nj.toList == sk.toList
                        · rfl
                        · exact absurd (toL_inj (by simpa using h)) e
                      rw [if_neg e] at TK
                      have HTK := hide TK
                      clear e TK
                      go_wp2_with fail
                      go_quiet (fail)
                      go_wp2_with fail
                      go_roundw
                      case rel => exact ⟨j + 1, t, by first | rfl | go_num, by go_num, by omega, by omega, hide HTK.out.symm, hide (B3'.out.trans (by first | exact below_drewN (Below.refl _ _) _ | exact Below.refl _ _))⟩
                      case measure => (first | (simp [intOf]; done) | (simp [intOf]; omega))
                  · obtain rfl : j = p := by omega
                    have f3 : decide ((j : Int) < (j : Int)) = false := by rw [decide_eq_false_iff_not]; omega
                    have f4 : decide (j < j) = false := by rw [decide_eq_false_iff_not]; omega
                    have et : t = 1 := by
                      have := HT.out
                      rw [HP.out, List.take_length, CN0.out] at this
                      exact this
                    subst et
                    have q0 : wr.cell? ⟨w5.heap.size, 0, none⟩ = some (.string ByteArray.empty) := (B3'.out.cell (p := ⟨w5.heap.size, 0, none⟩) zV).trans p0
                    have q1 : wr.cell? ⟨w5.heap.size, 1, none⟩ = some (.int .i64 0) := (B3'.out.cell (p := ⟨w5.heap.size, 1, none⟩) zV).trans p1
                    have q2 : wr.cell? ⟨w5.heap.size, 2, none⟩ = some (.int .i64 0) := (B3'.out.cell (p := ⟨w5.heap.size, 2, none⟩) zV).trans p2
                    have qz : w5.heap.size < wr.heap.size := Nat.lt_of_lt_of_le zV B3'.out.size
                    have f6 : (sk.toList == sk.toList) = true := by simp
                    clear p0 p1 p2
                    go_wp2_with fail
                    go_quiet (fail)
                    go_wp2_with fail
                    go_roundw
                    case rel => exact ⟨k + 1, u, by first | rfl | go_num, by go_num, by omega, by omega, hide SU0.out.symm, hide (BW.out.trans (by first | exact below_drewN ((Below.refl _ _).mono BW.out.size) _ | exact Below.refl _ _))⟩
                    case measure => (first | (simp [intOf]; done) | (simp [intOf]; omega))
            · obtain rfl : k = m := by omega
              have g1 : decide ((k : Int) < (k : Int)) = false := by rw [decide_eq_false_iff_not]; omega
              have g2 : decide (k < k) = false := by rw [decide_eq_false_iff_not]; omega
              obtain rfl : u = q := by
                have e1 := HU.out
                rw [HM.out, stayN_all, ← HA'.out, ← HQ.out] at e1
                exact e1
              have w1 : IntKind.i64.wrap ((k : Int) - (u : Int)) = (p : Int) := by rw [IntKind.wrap_i64]; omega
              have w2 : (k : Int) - (u : Int) = (p : Int) := by omega
              have z7 := BR.out.size
              have kl6 : ∀ W', Below w4.heap.size w4 W' → Calls Try.prog 37 #[.pointer (some ⟨b.tb, 0, none⟩)] W' fun e w' => ∃ s c, e = .returned (.slice s u c) ∧ Below W'.heap.size W' w' := fun W' bw => by
                refine (tall_is (T4.out.later bw)).mono ?_
                rintro e w' ⟨s, c, rfl, _, bl⟩
                exact ⟨s, c, by rw [HQ.out], bl⟩
              have kt6 : ∀ W', Below w4.heap.size w4 W' → Calls Try.prog 38 #[.pointer (some ⟨b.tb, 0, none⟩), .int .i64 now] W' fun e w' => ∃ s c, e = .returned (.slice s 0 c) ∧ Hid (Below W.heap.size W w') := fun W' bw => by
                have k := ttick_is (T4.out.later bw) (N4.out.below bw).bl.size now
                rw [HSN.out] at k
                simp only [↓reduceIte] at k
                rw [HA'.out, gone_stay, ← HA'.out] at k
                refine k.mono ?_
                rintro e w' ⟨s, c, x1, x2, x3, x4, rfl, _, t, cc⟩
                exact ⟨s, c, rfl, ((N4.out.below bw).next t cc).bl⟩
              clear w2
              go_wp2_with (first
                | (go_at_call 37; (with_reducible refine Calls.mono (kl6 _ BR.out) ?_); rintro e w6 ⟨s6, c6, rfl, b6⟩; have B6 := hide (BR.out.trans (b6.mono z7)); clear b6)
                | (go_at_call 38; (with_reducible refine Calls.mono (kt6 _ B6.out) ?_); rintro e w7 ⟨s7, c7, rfl, B7⟩)
                | (go_at_call 33; refine (ka _).mono ?_; rintro e w8 ⟨rfl, b8⟩))
              go_returns
              exact ⟨rfl, B7.out.trans (b8.mono B7.out.size)⟩
  · have kn := tnew_bad 1024 0 idle (fun q => hs ⟨by have := (secB_iff _).1 q.2.2.2.1; have := q.2.2.2.2; omega, ((secB_iff _).1 q.2.2.2.1).2⟩) W
    by_cases h1 : idle < 1
    · have d1 := decide_eq_true h1
      go_enter Try.func10, Try.ntmps10
      go_wp2_with (first
        | (go_at_call 31; refine kn.mono ?_; rintro e w1 ⟨rfl, rfl⟩)
        | (go_at_call 33; refine (ka _).mono ?_; rintro e w3 ⟨rfl, b3⟩))
      go_returns
      exact ⟨rfl, b3⟩
    · have d1 := decide_eq_false h1
      have d2 : decide (1099511627775 < idle) = true := by rw [decide_eq_true_eq]; omega
      go_enter Try.func10, Try.ntmps10
      go_wp2_with (first
        | (go_at_call 31; refine kn.mono ?_; rintro e w1 ⟨rfl, rfl⟩)
        | (go_at_call 33; refine (ka _).mono ?_; rintro e w3 ⟨rfl, b3⟩))
      go_returns
      exact ⟨rfl, b3⟩
end Go.Proofs.Ytbnlhjooimppeaa
/-
  SourceSilent: for every input the law returns true, and each argument reads afterwards as it read before. No condition on the input.
-/
namespace Go.Proofs.Ytbnlhjooimppeaa.sourceSilent
open Go.ChangeShapes Go.WideShapes Go.ChangeAt Go.RowKit Go.Deep W
open Go.ChangeMaps (open_string shut_string)
set_option linter.unusedVariables false
theorem own : ownKnob Try.prog.godebug = none := by kernel_rfl
theorem laidOut : laidOutB Try.prog = true := by kernel_rfl
set_option maxRecDepth 100000 in
theorem lifted (os : Os) (started : os.Started) (H : Type) (enc : TypeId × Value → H) :
    ReturnsInHanded {} Try.checked os 10 .any (Rows.sourceSilentSpec.pre6 enc Try.prog Try.f10 Rows.sourceSilentRow.domain false) (Rows.sourceSilentSpec.post enc Try.prog Try.f10 false true false false) := by
  refine returnsInHanded_of_change_sized (C := Try.checked) own started (by kernel_rfl) Try.func10
    (ChangeSpec.witness6 (enc := enc) (C := Try.checked) false ⟨#[], #[.int .i64 0, .slice none 0 0, .int .i64 0], []⟩ 8 (by kernel_rfl) (by kernel_rfl) (by kernel_rfl) (by kernel_rfl)) ?_
  intro W base args ds gs before hval0 hW hcnd hsz0 _
  have hsz : (DataW.weightsEach Try.prog (Try.f10.params.toList ++ Rows.sourceSilentSpec.plain.varTypes Try.prog) (ds ++ gs)).all (· ≤ reachBytes) = true := hsz0
  clear hsz0
  have hval : ∀ (j : Nat) t v, Try.f10.params[j]? = some t → args[j]? = some v → Value.okWide Try.prog W .any base t v := hval0
  have hW' := hW
  obtain ⟨p, q, hA0, hV, rfl, hfz, hnd⟩ := hW
  have hA : DataW.TrodAll enc Try.prog W 0 (fun _ => true) true Try.f10.params.toList args.toList ds p := hA0
  rw [Try.params10] at hA hval hsz
  obtain ⟨v0, vs0, d0, ds0, p0, q0, hargs, rfl, rfl, h0, r0⟩ := trodAll_cons hA
  obtain ⟨v1, vs1, d1, ds1, p1, q1, rfl, rfl, rfl, h1, r1⟩ := trodAll_cons r0
  obtain ⟨v2, vs2, d2, ds2, p2, q2, rfl, rfl, rfl, h2, r2⟩ := trodAll_cons r1
  obtain ⟨rfl, rfl, rfl⟩ := trodAll_nil r2
  obtain rfl : args = #[v0, v1, v2] := by cases args; simp_all
  obtain ⟨rfl, rfl⟩ := trodVars_none hV
  obtain ⟨a0, rfl, rfl, rfl, w0⟩ := open_int Try.underlying2 (hval 0 2 v0 rfl rfl) h0
  have k1 := h1
  have lt1 : ∀ x ∈ p1, x.block < W.heap.size := by obtain ⟨m, hm⟩ := k1; exact DataW.trod_lt m _ _ _ hm
  obtain ⟨s1, n1, c1, rfl⟩ := okWide_slice Try.underlying61 (hval 1 61 v1 rfl rfl)
  obtain ⟨fuel1, hf1⟩ := h1
  obtain ⟨L1, hl1, hL1, hz1, hd1⟩ := Go.Proofs.Ytbnlhjooimppeaa.rd_oqs (by simpa [Value.cells] using hf1)
  have hn1 : L1.length = n1 ∧ n1 ≤ 140737488355328 := by
    refine ⟨hl1, ?_⟩
    rcases hd1 with e | ⟨el, spd, e, el2⟩
    · omega
    · have h1 := sized_slice hsz (j := 1) (t := 61) (e := 73) (elems := el) (spare := spd) rfl (by simp; exact e) Try.underlying61
      have rl : reachBytes ≤ 140737488355328 := by decide
      rw [(by kernel_rfl : Try.prog.bytesOf 73 = 40)] at h1
      omega
  obtain ⟨a2, rfl, rfl, rfl, w2⟩ := open_int Try.underlying2 (hval 2 2 v2 rfl rfl) h2
  clear hA0 hval0 hsz
  refine (Go.Proofs.Ytbnlhjooimppeaa.law_SourceSilent a0 s1 n1 c1 L1 a2 hn1 hz1 W hL1).mono fun e W' ⟨he, bel⟩ => ?_
  subst he
  exact ⟨_, rfl, _, _, _, [], _, [], hW', trodAll_mk1 (shut_bool Try.underlying4 _), (trodAll_cons_mk (shut_int Try.underlying2 w0) (trodAll_cons_mk (Below.trod laidOut (by kernel_rfl) (of_decide_eq_true (by kernel_rfl)) k1 bel lt1) (trodAll_cons_mk (shut_int Try.underlying2 w2) trodAll_mk0))), rfl, bel.frame _, fun h => by cases h⟩
theorem over : Rows.sourceSilentRow.holds Try.pinned (OpenSpec.ofChange Rows.sourceSilentSpec) :=
  OpenClaim.holds_of_wide 10 Try.f10 rfl rfl rfl rfl rfl rfl rfl ⟨rfl, rfl, rfl, rfl, rfl⟩ rfl rfl rfl rfl rfl (by kernel_rfl) Try.func10 (by kernel_rfl)
    (of_decide_eq_true (by kernel_rfl)) (by unfold Func.isWrapper; first | (rw [if_pos (by decide +kernel)]; kernel_rfl) | (rw [if_neg (by decide +kernel)]; exact ⟨rfl, rfl⟩))
    (fun os started H enc _ => lifted os started H enc)
end Go.Proofs.Ytbnlhjooimppeaa.sourceSilent
namespace Go.Proofs.Ytbnlhjooimppeaa
theorem sourceSilent_holds : Rows.SourceSilentSaid := sourceSilent.over
#print axioms sourceSilent_holds
end Go.Proofs.Ytbnlhjooimppeaa
