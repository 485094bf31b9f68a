/- Texts that belong together: Srh Sri Srj Sjo Spc Srk Srl Sst Ssu Ssv Ssx Lawsk11 FSourceKeeps. -/
import Derived.Test.YtbnlhjooimppeaaG04
import Derived.Deep.CutRange
import Derived.Test.YtbnlhjooimppeaaRows
import Derived.Test.YtbnlhjooimppeaaG03
import Derived.WalkKit
import Derived.ProofKit
import Derived.OpenShut
import Derived.ShutString
import Derived.ChangeOld
import Derived.Below
import Derived.SizedLaws
import Derived.Deep.SlicePairs
set_option linter.unusedSimpArgs false
set_option linter.unusedVariables false
/- source: the reference's Hear, its parts. -/
namespace Go.Proofs.Ytbnlhjooimppeaa
set_option linter.unusedVariables false
set_option linter.unusedSimpArgs false
open Go.RowKit W Go.Maps
/-- The reference's table, with a list of its own. -/
structure RO (B : Nat) (w : World) (rb : Nat) (lim : Nat) (late idle : Int) (s : Value) (A : List Sr) (mark : Int) : Prop where
  r : Bw w rb 67 #[.int .i64 (lim : Int), .int .i64 late, .int .i64 idle, s, .int .i64 mark]
  row : w.ownsRow B 82 3 s A.length (srcsL A)
  nil : A = [] → s = .slice none 0 0
theorem RO.chg {B : Nat} {S : Nat → Prop} {w w' : World} {rb lim : Nat} {late idle : Int} {s : Value} {A : List Sr} {mark : Int} (h : RO B w rb lim late idle s A mark) (c : Chg S w w') (n1 : ¬ S rb) (n2 : ∀ k, s.ownBlock = some k → ¬ S k) : RO B w' rb lim late idle s A mark :=
  ⟨h.r.chg c n1, chg_row h.row c n2, h.nil⟩
theorem RO.later {B : Nat} {w w' : World} {rb lim : Nat} {late idle : Int} {s : Value} {A : List Sr} {mark : Int} (h : RO B w rb lim late idle s A mark) (c : Below w.heap.size w w') : RO B w' rb lim late idle s A mark :=
  h.chg (S := fun _ => False) (Chg.of_below c) (fun q => q) (fun _ _ q => q)
theorem RO.rt {B : Nat} {w : World} {rb lim : Nat} {late idle : Int} {s : Value} {A : List Sr} {mark : Int} (h : RO B w rb lim late idle s A mark) : ∃ a c, s = .slice a A.length c ∧ RT w rb (lim : Int) late idle a c A mark ∧ ∀ g o, a = some ⟨g, o, none⟩ → g ≠ rb := by
  obtain ⟨a, c, rfl, i⟩ := isS_own h.row rfl
  refine ⟨a, c, rfl, ⟨h.r, i⟩, fun g o e q => ?_⟩
  subst e q
  exact h.r.ne_row h.row (by decide) rfl
theorem RO.form {B : Nat} {w : World} {rb lim : Nat} {late idle : Int} {s : Value} {A : List Sr} {mark : Int} (h : RO B w rb lim late idle s A mark) (h0 : A ≠ []) : ∃ g c, s = .slice (some ⟨g, 0, none⟩) A.length c ∧ A.length ≤ c ∧ c ≤ maxLen ∧ g < w.heap.size ∧ B ≤ g := by
  rcases h.row.2 with ⟨_, e⟩ | ⟨g, cap, cur, rfl, hb, hh, hn, hm, _⟩
  · exact absurd (List.eq_nil_of_length_eq_zero e) h0
  · exact ⟨g, cap, rfl, hn, hm, blk_lt hh, hb⟩
/-! ### where a name stands -/
theorem FdP.tail {a : Sr} {A : List Sr} {name : ByteArray} {i : Nat} (h : FdP (a :: A) name (i + 1)) : ltB a.1 name = true ∧ FdP A name i := by
  refine ⟨h.lt 0 (by simp) (by omega), by have := h.le; simp at this; omega, fun k hk ki => ?_, fun hi => ?_⟩
  · have := h.lt (k + 1) (by simp; omega) (by omega)
    simpa using this
  · have := h.ge (by simp; omega)
    simpa using this
theorem put_at {A : List Sr} {s : Sr} {i : Nat} (hA : Names A) (h : FdP A s.1 i) : putS A s = A.take i ++ s :: A.drop (if (findS A s.1).isSome then i + 1 else i) := by
  induction A generalizing i with
  | nil =>
    have : i = 0 := by have := h.le; simpa using this
    subst this
    simp [putS, dropS, findS]
  | cons a A ih =>
    have h' := List.pairwise_cons.1 hA
    cases i with
    | zero =>
      have g := h.ge (by simp)
      simp only [List.getElem_cons_zero] at g
      by_cases e : a.1 = s.1
      · rw [putS_cons_eq e]
        simp [findS, e]
      · rw [putS_cons_gt g e]
        have : (findS (a :: A) s.1).isSome = false := by
          cases q : (findS (a :: A) s.1).isSome
          · rfl
          · obtain ⟨hi, z⟩ := (h.there hA).1 q
            exact absurd z (by simpa using e)
        rw [this]; simp
    | succ i =>
      obtain ⟨h1, h2⟩ := h.tail
      rw [putS_cons_lt h1, ih h'.2 h2]
      have : findS (a :: A) s.1 = findS A s.1 := by simp [findS, ltB_ne h1]
      rw [this]
      simp only [List.take_succ_cons, List.cons_append]
      split <;> rfl
/-! ### parts of a list -/
theorem srcs_take : ∀ (l : List Sr) (k : Nat), srcsL (l.take k) = (srcsL l).take (k * 3)
  | [], k => by simp [srcsL]
  | e :: l, 0 => by simp [srcsL]
  | e :: l, k + 1 => by
    rw [show (k + 1) * 3 = k * 3 + 1 + 1 + 1 from by omega]
    simp [srcsL, srcs_take l k]
theorem srcs_drop : ∀ (l : List Sr) (k : Nat), srcsL (l.drop k) = (srcsL l).drop (k * 3)
  | [], k => by simp [srcsL]
  | e :: l, 0 => by simp [srcsL]
  | e :: l, k + 1 => by
    rw [show (k + 1) * 3 = k * 3 + 1 + 1 + 1 from by omega]
    simp [srcsL, srcs_drop l k]
theorem size_src (w : World) : (Go.sizeOf (Try.prog.elem 65)).run Try.prog w = .ok 3 w := by kernel_rfl
theorem addz11 (x : Addr) : x.add 0 = x := by unfold Addr.add; simp
theorem srcs_to {a : Option Addr} {n c e : Nat} (he : e ≤ n) (hc : n ≤ c) (v : World) : (Instr.slice 65 (.slice a n c) none (some (.int .i64 (e : Int))) none).run Try.prog v = .ok (.slice a e c) v := by
  rw [run_slice_h (P := Try.prog) (w := v) 65 a n c (by kernel_rfl) .i64 (e : Int) (by omega) (by omega), size_src]
  cases a <;> simp [Result.andThen, sliced, addz11]
theorem srcs_from {g n c k : Nat} {A : List Sr} (hn : n = A.length) (hk : k ≤ n) (hc : n ≤ c) (h63 : c ≤ maxLen) :
    ∃ ad, (∀ v, (Instr.slice 65 (.slice (some ⟨g, 0, none⟩) n c) (some (.int .i64 (k : Int))) none none).run Try.prog v = .ok (.slice (some ad) (n - k) (c - k)) v) ∧ ∀ w : World, (∀ t u, (srcsL A)[t]? = some u → w.cell? ⟨g, t, none⟩ = some u) → ∀ j u, (srcsL (A.drop k))[j]? = some u → w.cell? (ad.add j) = some u := by
  refine ⟨if c = k then ⟨g, 0, none⟩ else ⟨g, k * 3, none⟩, fun v => ?_, fun w h j u e => ?_⟩
  · rw [run_slice_l (P := Try.prog) (w := v) 65 (some ⟨g, 0, none⟩) n c (by kernel_rfl) .i64 (k : Int) (by omega) (by omega), size_src]
    by_cases q : c = k
    · simp [Result.andThen, sliced, q]
    · simp [Result.andThen, sliced, q, Addr.add]
      try (intro z; omega)
  · rw [srcs_drop, List.getElem?_drop] at e
    have lt : k * 3 + j < (srcsL A).length := (List.getElem?_eq_some_iff.1 e).1
    rw [srcs_len] at lt
    have q : ¬ c = k := by omega
    rw [if_neg q, Go.WideShapes.add_plain]
    exact h _ _ e
theorem own_succ {w : World} {base size k : Nat} {e : TypeId} {v : Value} {xs : List Value} (h : w.ownsRow base e size v (k + 1) xs) : ∃ g cap, v = .slice (some ⟨g, 0, none⟩) (k + 1) cap ∧ k + 1 ≤ cap := by
  rcases h.2 with ⟨_, h0⟩ | ⟨g, cap, _, rfl, _, _, hc, _⟩
  · omega
  · exact ⟨g, cap, rfl, hc⟩
theorem srcs_head {w : World} {g : Nat} {A : List Sr} {i : Nat} (hr : ∀ t u, (srcsL A)[t]? = some u → w.cell? ⟨g, t, none⟩ = some u) : ∀ j u, (srcsL (A.take i))[j]? = some u → w.cell? ((⟨g, 0, none⟩ : Addr).add j) = some u := by
  intro j u e
  rw [srcs_take, List.getElem?_take] at e
  split at e
  · rw [Go.WideShapes.add_plain, Nat.zero_add]
    exact hr _ _ e
  · cases e
def HearR (B : Nat) (w : World) (rb : Nat) (lim : Nat) (late idle : Int) (s : Value) (A : List Sr) (mark c : Int) (e : Ending) (w' : World) : Prop :=
  ∃ s', e = .returned (.int .i64 c) ∧ RO B w' rb lim late idle s' A mark ∧ Chg (· = rb) w w' ∧ Mvd w s s'
end Go.Proofs.Ytbnlhjooimppeaa
/- source: the reference's Hear. -/
namespace Go.Proofs.Ytbnlhjooimppeaa
set_option linter.unusedVariables false
set_option linter.unusedSimpArgs false
open Go.RowKit W Go.Maps
section
variable {B : Nat} {w : World} {rb lim : Nat} {late idle : Int} {s : Value} {A : List Sr} {mark : Int}
theorem hearR_bad (h : RO B w rb lim late idle s A mark) (c : Int) {w' : World} (b : Below w.heap.size w w') : HearR B w rb lim late idle s A mark c (.returned (.int .i64 c)) w' :=
  ⟨s, rfl, h.later b, Chg.of_below b, Mvd.refl _ _⟩
set_option maxRecDepth 100000 in
set_option maxHeartbeats 4000000 in
theorem rhear_arg (h : RO B w rb lim late idle s A mark) (name : ByteArray) (at' now : Int) (hb : (secB at' && secB now) = false) :
    Calls Try.prog 41 #[.pointer (some ⟨rb, 0, none⟩), .string name, .int .i64 at', .int .i64 now] w (HearR B w rb lim late idle s A mark 1) := by
  have k1 := rsecond11 at'
  have k2 := rsecond11 now
  have H := hide h
  cases ha : secB at' with
  | false =>
    rw [ha] at k1
    clear h hb ha
    go_enter Try.func41, Try.ntmps41
    go_wp2_with (go_at_call 57; (with_reducible refine Calls.mono (k1 _) ?_); rintro e w' ⟨rfl, rfl⟩)
    go_returns
    exact hearR_bad H.out 1 (Below.refl _ _)
  | true =>
    have hn : secB now = false := by rw [ha] at hb; simpa using hb
    rw [ha] at k1
    rw [hn] at k2
    clear h hb ha hn
    go_enter Try.func41, Try.ntmps41
    go_wp2_with (go_at_call 57; (first | ((with_reducible refine Calls.mono (k1 _) ?_); rintro e w' ⟨rfl, rfl⟩) | ((with_reducible refine Calls.mono (k2 _) ?_); rintro e w' ⟨rfl, rfl⟩)))
    go_returns
    exact hearR_bad H.out 1 (Below.refl _ _)
/-- Put together. -/
theorem hear_fin {ns : Sr} (h : RO B w rb lim late idle s A mark) (hB : B ≤ w.heap.size) (hA : Names A) {w5 w6 : World} {v3 : Value} (bl : Below w.heap.size w w5)
    (o : w5.ownsRow w.heap.size 82 3 v3 (putS A ns).length (srcsL (putS A ns))) (e6 : w6 = w5.setCell ⟨rb, 3, none⟩ v3) :
    RO B w6 rb lim late idle v3 (putS A ns) mark ∧ Chg (· = rb) w w6 ∧ ∀ s0, Mvd w s0 v3 := by
  have r5 := h.later bl
  have C : Chg (· = rb) w5 w6 := by rw [e6]; exact Chg.set _ rfl
  refine ⟨⟨by rw [e6]; exact r5.r.set 3 v3, own_mono' (chg_row o C (fun k e (q : k = rb) => r5.r.ne_row o (by decide) (q ▸ e))) hB, fun e => ?_⟩, (Chg.of_below bl).trans C (fun _ _ q => q), fun s0 k e => .inr (own_old o e).1⟩
  have := (mem_putS hA (s := ns) (x := ns)).2 (.inl rfl)
  rw [e] at this; cases this
/-- Reckoned. -/
theorem reckon_fin {w7 : World} {v3 : Value} {P : List Sr} (h : RO B w7 rb lim late idle v3 P mark) (hl : P.length ≤ 1048576) (hs : ∀ s ∈ P, 0 ≤ s.2.1 ∧ s.2.1 ≤ 1099511627775) (hla : 0 ≤ late ∧ late ≤ 1099511627775) :
    Calls Try.prog 68 #[.pointer (some ⟨rb, 0, none⟩)] w7 fun e w' => e = .returned (.tuple #[]) ∧ RO B w' rb lim late idle v3 P (markS P late mark) ∧ Chg (· = rb) w7 w' := by
  obtain ⟨a, c, rfl, rt, ng⟩ := h.rt
  refine (rreckon_spec rt ng hl hs hla).mono ?_
  rintro e w' ⟨rfl, rt', C⟩
  exact ⟨rfl, ⟨rt'.r, chg_row h.row C (fun k e (q : k = rb) => h.r.ne_row h.row (by decide) (q ▸ e)), h.nil⟩, C⟩
end
set_option maxRecDepth 100000 in
set_option maxHeartbeats 8000000 in
theorem rhear_room {B : Nat} {w : World} {rb lim : Nat} {late idle : Int} {s : Value} {A : List Sr} {mark : Int} (h : RO B w rb lim late idle s A mark) (hB : B ≤ w.heap.size) (hA : Names A) (hl : A.length ≤ 1024) (h0 : A ≠ []) (hs : ∀ s ∈ A, (0 ≤ s.2.1 ∧ s.2.1 ≤ 1099511627775) ∧ (0 ≤ s.2.2 ∧ s.2.2 ≤ 1099511627775)) (hla : 0 ≤ late ∧ late ≤ 1099511627775)
    (name : ByteArray) (at' now : Int) (ha : secB at' = true) (hn : secB now = true) (cc : (findS A name).isSome = true ∨ A.length < lim) :
    Calls Try.prog 41 #[.pointer (some ⟨rb, 0, none⟩), .string name, .int .i64 at', .int .i64 now] w (HearR B w rb lim late idle s (putS A (newS A name at' now)) (markS (putS A (newS A name at' now)) late mark) 0) := by
  have k1 := rsecond11 at'
  have k2 := rsecond11 now
  rw [ha] at k1
  rw [hn] at k2
  obtain ⟨ha1, ha2⟩ := (secB_iff _).1 ha
  obtain ⟨hn1, hn2⟩ := (secB_iff _).1 hn
  obtain ⟨g, c, rfl, nc, cm, gl, gB⟩ := h.form h0
  obtain ⟨a9, c9, e9, rt, ng⟩ := h.rt
  injection e9 with e1 e2 e3
  subst e1 e3
  have kf := rfind_spec rt hA (by omega) name
  have gr := ng g 0 rfl
  obtain ⟨t0, ht0⟩ : ∃ t0, t0 = (findS A name).isSome := ⟨_, rfl⟩
  rw [← ht0] at kf cc
  have T0 := hide ht0
  obtain ⟨n, hnn⟩ : ∃ n, n = A.length := ⟨_, rfl⟩
  have HN := hide hnn
  have H := hide h
  rw [← hnn] at nc hl cc H
  have HA := hide hA
  have HS := hide hs
  have n0 : 0 < n := by
    rw [hnn]
    cases A with
    | nil => exact absurd rfl h0
    | cons a A => simp
  have kf' : Calls Try.prog 67 #[.pointer (some ⟨rb, 0, none⟩), .string name] w fun e w' => ∃ i : Nat, e = .returned (.tuple #[.int .i64 (i : Int), .bool t0]) ∧ Hid (FdP A name i) ∧ i ≤ n ∧ Hid (Below w.heap.size w w') := by
    refine kf.mono ?_
    rintro e w' ⟨i, rfl, f, b⟩
    exact ⟨i, rfl, f, by have := f.le; omega, b⟩
  obtain ⟨i0, hi0⟩ : ∃ i0, Hid (Try.prog.info? 82 = some i0 ∧ i0.zero = some (.agg #[.string ByteArray.empty, .int .i64 0, .int .i64 0]) ∧ i0.size = 3 ∧ i0.bytes = 32) := by
    obtain ⟨i0, h1, h2, h3, h4⟩ := info_parts info_src
    exact ⟨i0, h1, h2, h3, h4⟩
  have lr := h.r.lt
  clear h rt ng kf ht0 hnn hA hs ha hn h0 e2
  go_enter Try.func41, Try.ntmps41
  go_wp2_with (first
    | (go_at_call 57; (first | ((with_reducible refine Calls.mono (k1 _) ?_); rintro e w' ⟨rfl, rfl⟩) | ((with_reducible refine Calls.mono (k2 _) ?_); rintro e w' ⟨rfl, rfl⟩)))
    | (go_at_call 67; refine kf'.mono ?_; rintro e w1 ⟨i, rfl, FD, hin, B1⟩))
  have R1 := hide (H.out.later B1.out)
  have c3 := R1.out.r.cell 3 _ rfl
  have c0 := R1.out.r.cell 0 _ rfl
  have lr1 := R1.out.r.lt
  have sl1 := fun v => srcs_to (a := some ⟨g, 0, none⟩) (n := n) (c := c) hin nc v
  obtain ⟨i2, hi2⟩ : ∃ i2, i2 = if t0 then i + 1 else i := ⟨_, rfl⟩
  have HI2 := hide hi2
  obtain ⟨mx, hmx⟩ : ∃ mx, mx = max (srcOf A name).2.1 at' := ⟨_, rfl⟩
  obtain ⟨ls, hls⟩ : ∃ ls, ls = max (srcOf A name).2.2 now := ⟨_, rfl⟩
  have HMX := hide hmx
  have HLS := hide hls
  have i2n : i2 ≤ n := by
    rw [hi2]
    cases t0 with
    | false => simpa using hin
    | true =>
      obtain ⟨z, _⟩ := (FD.out.there HA.out).1 T0.out.symm
      have := HN.out
      simp; omega
  clear k1 k2 kf' hi2 hmx hls
  go_cut [40] from 27 to 40 (fun s40 w2 => s40 = .bool false ∧ Hid (Below w.heap.size w w2))
  case first =>
    cases t0 with
    | true =>
      go_quiet (fail)
      go_wp2_with fail
      go_meet
      case rel => exact ⟨rfl, hide (B1.out.trans (below_drewN ((Below.refl _ _).mono B1.out.size) _))⟩
    | false =>
      have q : n < lim := by simpa using cc
      have d1 : decide ((lim : Int) ≤ (n : Int)) = false := by rw [decide_eq_false_iff_not]; omega
      have d2 : decide (lim ≤ n) = false := by rw [decide_eq_false_iff_not]; omega
      go_quiet (fail)
      go_wp2_with fail
      go_meet
      case rel => exact ⟨rfl, hide (B1.out.trans (below_drewN ((Below.refl _ _).mono B1.out.size) _))⟩
  rename World => W2
  obtain ⟨rfl, B2⟩ := hcut
  have R2 := hide (H.out.later B2.out)
  have c3' := R2.out.r.cell 3 _ rfl
  have lr2 := R2.out.r.lt
  have z2 := B2.out.size
  have HR := hide (row_look (by have q := R2.out.row; rw [← HN.out] at q; exact q)).1
  clear c3 c0
  go_upto_if 53 with (first
          | (at_builtin
             refine wpList_append_own_at _ rfl _ _ 65 rfl w.heap.size 82 i0 (.agg #[.string ByteArray.empty, .int .i64 0, .int .i64 0]) 3 32 Try.underlying65 hi0.out.1 hi0.out.2.1 hi0.out.2.2.1 hi0.out.2.2.2 ?a1 ?a2 (.slice none 0 0) 0 [] ?a3 ?a4 ⟨g, 0, none⟩ i c (srcsL (A.take i)) ?a5 ?a6 ?a7 ?a8 ?a9 ?b1 ?b2 ?_
             case a1 => rfl
             case a2 => decide
             case a3 => rfl
             case a4 => exact World.ownsRow_nil _ _ _ _
             case a5 => rfl
             case a6 => (rw [srcs_len, List.length_take]; have := HN.out; rw [Nat.min_eq_left (by omega)])
             case a7 => exact srcs_head HR.out
             case a8 => exact srcs_one _
             case a9 => (unfold maxLen; omega)
             case b1 => omega
             case b2 => exact z2
             intro v1 w3 hown hgrow _ hat
             obtain ⟨A1, c1, rfl, _, _⟩ := own_form hown
             rw [Nat.zero_add] at hown ⊢
             have O1 : Hid (w3.ownsRow w.heap.size 82 3 (.slice A1 i c1) i (srcsL (A.take i))) := hown
             have B3 : Hid (Below w.heap.size w w3) := hide (B2.out.grown hgrow z2 (fun j e => by cases e))
             clear hown hgrow hat))
  have z3 := B3.out.size
  have R3 := hide (H.out.later B3.out)
  have c3'' := R3.out.r.cell 3 _ rfl
  have lr3 := R3.out.r.lt
  have gl3 : g < w3.heap.size := Nat.lt_of_lt_of_le gl z3
  have HR3 := hide (row_look (by have q := R3.out.row; rw [← HN.out] at q; exact q)).1
  have bl3 : Hid (Below w3.heap.size w3 (w3.alloc (.cells #[.string name, .int .i64 at', .int .i64 now] 82))) := hide ((Below.refl _ _).alloc (Nat.le_refl _) _)
  clear c3'
  go_cut [9] from 54 to 93 (fun s9 w4 => s9 = .int .i64 (i2 : Int) ∧ w4.cell? ⟨w3.heap.size, 0, none⟩ = some (.string name) ∧ w4.cell? ⟨w3.heap.size, 1, none⟩ = some (.int .i64 mx) ∧ w4.cell? ⟨w3.heap.size, 2, none⟩ = some (.int .i64 ls) ∧ w3.heap.size < w4.heap.size ∧ Hid (Below w3.heap.size w3 w4))
  case first =>
    cases t0 with
    | false =>
      have so : srcOf A name = (ByteArray.empty, 0, 0) := by
        unfold srcOf
        have := T0.out
        cases e : findS A name with
        | none => rfl
        | some z => rw [e] at this; cases this
      have e1 : mx = at' := by rw [HMX.out, so]; simp only; omega
      have e2 : ls = now := by rw [HLS.out, so]; simp only; omega
      have e3 : i2 = i := HI2.out
      subst e1 e2 e3
      clear so
      go_wp2_with fail
      go_meet
      case rel => exact ⟨rfl, by simp [go_sem], by simp [go_sem], by simp [go_sem], by simp, bl3⟩
    | true =>
      obtain ⟨il, en⟩ := (FD.out.there HA.out).1 T0.out.symm
      have so : srcOf A name = A[i] := by
        unfold srcOf
        rw [(findS_some HA.out).2 ⟨List.getElem_mem il, en⟩]; rfl
      have iln : i < n := by have := HN.out; omega
      have x1 := HR3.out (i * 3 + 1) _ (srcs_at il (j := 1) (by decide))
      have x2 := HR3.out (i * 3 + 2) _ (srcs_at il (j := 2) (by decide))
      obtain ⟨⟨sk, sm, sl⟩, hsx⟩ : ∃ x, x = A[i] := ⟨_, rfl⟩
      rw [← hsx] at x1 x2 so
      dsimp only at x1 x2
      have e1 : mx = max sm at' := by rw [HMX.out, so]
      have e2 : ls = max sl now := by rw [HLS.out, so]
      have e3 : i2 = i + 1 := HI2.out
      have rbne : rb ≠ w3.heap.size := by omega
      have gne : g ≠ w3.heap.size := by omega
      have st : ∀ (V : World) k u, Below w3.heap.size w3 V → Below w3.heap.size w3 (V.setCell ⟨w3.heap.size, k, none⟩ u) := fun V k u b => b.setCell (p := ⟨w3.heap.size, k, none⟩) (Nat.le_refl _) u
      have ST := hide st
      have d3 : decide ((i : Int) < (n : Int)) = true := by rw [decide_eq_true_eq]; omega
      have ib1 : (i : Int) < (n : Int) := by omega
      have ib0 : (0 : Int) ≤ (i : Int) := by omega
      have itn : (i : Int).toNat = i := by omega
      clear so hsx en st
      by_cases p1 : at' < sm
      · have f1 := decide_eq_true p1
        have m1 : mx = sm := by omega
        by_cases p2 : now < sl
        · have f2 := decide_eq_true p2
          have m2 : ls = sl := by omega
          subst m1 m2 e3
          clear e1 e2
          go_wp2_with fail
          go_meet
          case rel => exact ⟨by first | rfl | go_num, by simp [go_sem], by simp [go_sem], by simp [go_sem], by simp, hide ((Below.refl _ _).alloc (Nat.le_refl _) _)⟩
        · have f2 := decide_eq_false p2
          have m2 : ls = now := by omega
          subst m1 m2 e3
          clear e1 e2
          go_wp2_with fail
          go_meet
          case rel => exact ⟨by first | rfl | go_num, by simp [go_sem], by simp [go_sem], by simp [go_sem], by simp, hide ((Below.refl _ _).alloc (Nat.le_refl _) _)⟩
      · have f1 := decide_eq_false p1
        have m1 : mx = at' := by omega
        by_cases p2 : now < sl
        · have f2 := decide_eq_true p2
          have m2 : ls = sl := by omega
          subst m1 m2 e3
          clear e1 e2
          go_wp2_with fail
          go_meet
          case rel => exact ⟨by first | rfl | go_num, by simp [go_sem], by simp [go_sem], by simp [go_sem], by simp, hide ((Below.refl _ _).alloc (Nat.le_refl _) _)⟩
        · have f2 := decide_eq_false p2
          have m2 : ls = now := by omega
          subst m1 m2 e3
          clear e1 e2
          go_wp2_with fail
          go_meet
          case rel => exact ⟨by first | rfl | go_num, by simp [go_sem], by simp [go_sem], by simp [go_sem], by simp, bl3⟩
  rename World => W4
  obtain ⟨rfl, y0, y1, y2, z4, B4⟩ := hcut
  have O4 : Hid (W4.ownsRow w.heap.size 82 3 (.slice A1 i c1) i (srcsL (A.take i))) := hide (chg_row O1.out (Chg.of_below (S := fun _ => False) B4.out) (fun _ _ q => q))
  have B4w : Hid (Below w.heap.size w W4) := hide (B3.out.trans (B4.out.mono z3))
  have R4 := hide (R3.out.later B4.out)
  have c34 := R4.out.r.cell 3 _ rfl
  have f34 := R4.out.r.frz 3
  have lr4 := R4.out.r.lt
  have HR4 := hide (row_look (by have q := R4.out.row; rw [← HN.out] at q; exact q)).1
  have z5 : w.heap.size ≤ W4.heap.size := B4w.out.size
  clear c3'' HR3 R3 HR O1
  obtain ⟨ns, hns⟩ : ∃ ns : Sr, ns = (name, mx, ls) := ⟨_, rfl⟩
  have NS : Hid (newS A name at' now = ns) := by show _ = _; rw [hns, HMX.out, HLS.out]; rfl
  have PA : Hid (putS A ns = A.take i ++ [ns] ++ A.drop i2) := by
    have e1 : ns.1 = name := by rw [hns]
    have := put_at (s := ns) HA.out (by rw [e1]; exact FD.out)
    show _ = _
    rw [this, e1, ← T0.out, ← HI2.out]
    simp
  have PL : Hid ((putS A ns).length = i + 1 + (n - i2)) := by
    show _ = _
    rw [PA.out, List.length_append, List.length_append, List.length_take, List.length_drop, ← HN.out, Nat.min_eq_left hin]
    rfl
  have PN : Hid (Names (putS A ns)) := HA.out.put ns
  have i2i : i ≤ i2 := by rw [HI2.out]; split <;> omega
  have lP : Hid ((putS A ns).length ≤ 1025) := by show _ ≤ _; rw [PL.out]; omega
  obtain ⟨ad, sl3, hc3⟩ := srcs_from (g := g) (n := n) (c := c) (A := A) HN.out i2n nc cm
  have HC3 := hide hc3
  have NSE := hide hns
  clear hns hc3
  go_upto_region 16 with (first
          | (at_builtin
             refine wpList_append_own_at _ rfl _ _ 65 rfl w.heap.size 82 i0 (.agg #[.string ByteArray.empty, .int .i64 0, .int .i64 0]) 3 32 Try.underlying65 hi0.out.1 hi0.out.2.1 hi0.out.2.2.1 hi0.out.2.2.2 ?a1 ?a2 (.slice A1 i c1) i (srcsL (A.take i)) ?a3 ?a4 ⟨W4.heap.size, 0, none⟩ 1 1 [.string name, .int .i64 mx, .int .i64 ls] ?a5 ?a6 ?a7 ?a8 ?a9 ?b1 ?b2 ?_
             case a1 => rfl
             case a2 => decide
             case a3 => rfl
             case a4 => exact O4.out.alloc _
             case a5 => rfl
             case a6 => rfl
             case a7 => exact cells_new' _ _ _ _ (by simp)
             case a8 => (intro u hu; simp at hu; rcases hu with rfl | rfl | rfl <;> rfl)
             case a9 => (unfold maxLen; omega)
             case b1 => omega
             case b2 => (simp; omega)
             intro v2 w5 hown hgrow _ hat
             obtain ⟨A2, c2, rfl, _, _⟩ := own_form hown
             have O5 : Hid (w5.ownsRow w.heap.size 82 3 (.slice A2 (i + 1) c2) (i + 1) (srcsL (A.take i ++ [ns]))) := (by rw [srcs_snoc, NSE.out]; exact hown)
             have B5 : Hid (Below w.heap.size w w5) := hide (B4w.out.trans ((Chg.grown2 (w := W4) (S := fun k => (Value.slice A1 i c1).ownBlock = some k) hgrow rfl rfl rfl rfl (fun _ e => e)).below (fun k e => (own_old O4.out e).1) z5))
             clear hown hgrow hat))
  have R5 := hide (H.out.later B5.out)
  have c35 := R5.out.r.cell 3 _ rfl
  have f35 := R5.out.r.frz 3
  have lr5 := R5.out.r.lt
  have z6 : w.heap.size ≤ w5.heap.size := B5.out.size
  have HR5 := hide (row_look (by have q := R5.out.row; rw [← HN.out] at q; exact q)).1
  have rne : Hid (∀ k, (Value.slice A2 (i + 1) c2).ownBlock = some k → k ≠ rb) := fun k e q => by have := (own_old O5.out e).1; omega
  clear c34 f34 y0 y1 y2
  go_wp2_with (first
          | (at_builtin
             refine wpList_append_own_at _ rfl _ _ 65 rfl w.heap.size 82 i0 (.agg #[.string ByteArray.empty, .int .i64 0, .int .i64 0]) 3 32 Try.underlying65 hi0.out.1 hi0.out.2.1 hi0.out.2.2.1 hi0.out.2.2.2 ?a1 ?a2 (.slice A2 (i + 1) c2) (i + 1) (srcsL (A.take i ++ [ns])) ?a3 ?a4 ad (n - i2) (c - i2) (srcsL (A.drop i2)) ?a5 ?a6 ?a7 ?a8 ?a9 ?b1 ?b2 ?_
             case a1 => rfl
             case a2 => decide
             case a3 => rfl
             case a4 => exact O5.out
             case a5 => rfl
             case a6 => (rw [srcs_len, List.length_drop, ← HN.out])
             case a7 => exact HC3.out _ HR5.out
             case a8 => exact srcs_one _
             case a9 => (unfold maxLen; omega)
             case b1 => omega
             case b2 => exact z6
             intro v3 w6 hown hgrow _ hat
             obtain ⟨A3, c3, rfl, _, _⟩ := own_form hown
             have O6 : Hid (w6.ownsRow w.heap.size 82 3 (.slice A3 (i + 1 + (n - i2)) c3) (putS A ns).length (srcsL (putS A ns))) := (by rw [PL.out, PA.out, srcs_app]; exact hown)
             have B6 : Hid (Below w.heap.size w w6) := hide (B5.out.trans ((Chg.grown (S := fun k => (Value.slice A2 (i + 1) c2).ownBlock = some k) hgrow (fun _ e => e)).below (fun k e => (own_old O5.out e).1) z6))
             have R6 := hide (H.out.later B6.out)
             have f36 := R6.out.r.frz 3
             have c36 := R6.out.r.cell 3 _ rfl
             have lr6 := R6.out.r.lt
             clear hown hgrow hat))
  have F := hide (hear_fin (ns := ns) H.out hB HA.out B6.out (by have o := O6.out; exact o) rfl)
  have hs2 : ∀ s ∈ putS A ns, 0 ≤ s.2.1 ∧ s.2.1 ≤ 1099511627775 := fun t ht => by
    rcases (mem_putS HA.out).1 ht with q | ⟨q, _⟩
    · rw [q, NSE.out]
      have := HMX.out
      have b0 : 0 ≤ (srcOf A name).2.1 ∧ (srcOf A name).2.1 ≤ 1099511627775 := by
        unfold srcOf
        cases e : findS A name with
        | none => simp
        | some z => exact (HS.out z ((findS_some HA.out).1 e).1).1
      simp only
      omega
    · exact (HS.out t q).1
  have kr := reckon_fin F.out.1 (by have := lP.out; omega) hs2 hla
  refine kr.mono ?_
  rintro e w8 ⟨rfl, R8, C8⟩
  go_wp2_with fail
  go_returns
  rw [NS.out]
  exact ⟨_, rfl, R8, F.out.2.1.trans C8 (fun _ _ q => q), F.out.2.2 _⟩
end Go.Proofs.Ytbnlhjooimppeaa
/- source: the reference's Hear, the other cases. -/
namespace Go.Proofs.Ytbnlhjooimppeaa
set_option linter.unusedVariables false
set_option linter.unusedSimpArgs false
open Go.RowKit W Go.Maps
set_option maxRecDepth 100000 in
set_option maxHeartbeats 4000000 in
theorem rhear_full {B : Nat} {w : World} {rb lim : Nat} {late idle : Int} {s : Value} {A : List Sr} {mark : Int} (h : RO B w rb lim late idle s A mark) (hA : Names A) (hl : A.length ≤ 1024)
    (name : ByteArray) (at' now : Int) (ha : secB at' = true) (hn : secB now = true) (cc : ¬ ((findS A name).isSome = true ∨ A.length < lim)) :
    Calls Try.prog 41 #[.pointer (some ⟨rb, 0, none⟩), .string name, .int .i64 at', .int .i64 now] w (HearR B w rb lim late idle s A mark 110) := by
  have k1 := rsecond11 at'
  have k2 := rsecond11 now
  rw [ha] at k1
  rw [hn] at k2
  obtain ⟨a, c, rfl, rt, ng⟩ := h.rt
  have kf := rfind_spec rt hA (by omega) name
  have t0 : (findS A name).isSome = false := by
    cases q : (findS A name).isSome
    · rfl
    · exact absurd (.inl q) cc
  rw [t0] at kf
  obtain ⟨n, hnn⟩ : ∃ n, n = A.length := ⟨_, rfl⟩
  have q : lim ≤ n := by
    have : ¬ A.length < lim := fun z => cc (.inr z)
    omega
  have d1 : decide ((lim : Int) ≤ (n : Int)) = true := by rw [decide_eq_true_eq]; omega
  have d2 : decide (lim ≤ n) = true := by rw [decide_eq_true_eq]; omega
  have H := hide h
  rw [← hnn] at H
  have HN := hide hnn
  have lr := h.r.lt
  clear h rt ng t0 hnn hA ha hn cc
  go_enter Try.func41, Try.ntmps41
  go_wp2_with (first
    | (go_at_call 57; (first | ((with_reducible refine Calls.mono (k1 _) ?_); rintro e w' ⟨rfl, rfl⟩) | ((with_reducible refine Calls.mono (k2 _) ?_); rintro e w' ⟨rfl, rfl⟩)))
    | (go_at_call 67; refine kf.mono ?_; rintro e w1 ⟨i, rfl, fd, b1⟩; have R1 := hide (H.out.later b1); have c3 := R1.out.r.cell 3 _ rfl; have c0 := R1.out.r.cell 0 _ rfl; have lr1 := R1.out.r.lt; have B1 := hide b1; clear fd b1))
  go_quiet (fail)
  go_wp2_with fail
  go_returns
  have := hearR_bad H.out 110 (B1.out.trans (below_drewN ((Below.refl w1.heap.size w1).mono B1.out.size) nq))
  rw [HN.out] at this
  exact this
set_option maxRecDepth 100000 in
set_option maxHeartbeats 4000000 in
theorem rhear_first {B : Nat} {w : World} {rb lim : Nat} {late idle : Int} {s : Value} {mark : Int} (h : RO B w rb lim late idle s [] mark) (hB : B ≤ w.heap.size) (hla : 0 ≤ late ∧ late ≤ 1099511627775) (hlim : 0 < lim)
    (name : ByteArray) (at' now : Int) (ha : secB at' = true) (hn : secB now = true) :
    Calls Try.prog 41 #[.pointer (some ⟨rb, 0, none⟩), .string name, .int .i64 at', .int .i64 now] w (HearR B w rb lim late idle s (putS [] (newS [] name at' now)) (markS (putS [] (newS [] name at' now)) late mark) 0) := by
  have k1 := rsecond11 at'
  have k2 := rsecond11 now
  rw [ha] at k1
  rw [hn] at k2
  obtain ⟨ha1, ha2⟩ := (secB_iff _).1 ha
  obtain ⟨hn1, hn2⟩ := (secB_iff _).1 hn
  have es := h.nil rfl
  subst es
  obtain ⟨a, c, e9, rt, ng⟩ := h.rt
  injection e9 with e1 e2 e3
  subst e1 e3
  have kf := rfind_spec rt List.Pairwise.nil (by simp) name
  have t0 : (findS [] name).isSome = false := rfl
  rw [t0] at kf
  have kf' : Calls Try.prog 67 #[.pointer (some ⟨rb, 0, none⟩), .string name] w fun e w' => e = .returned (.tuple #[.int .i64 0, .bool false]) ∧ Hid (Below w.heap.size w w') := by
    refine kf.mono ?_
    rintro e w' ⟨i, rfl, f, b⟩
    have : i = 0 := by have := f.le; simpa using this
    subst this
    exact ⟨rfl, b⟩
  obtain ⟨i0, hi0⟩ : ∃ i0, Hid (Try.prog.info? 82 = some i0 ∧ i0.zero = some (.agg #[.string ByteArray.empty, .int .i64 0, .int .i64 0]) ∧ i0.size = 3 ∧ i0.bytes = 32) := by
    obtain ⟨i0, h1, h2, h3, h4⟩ := info_parts info_src
    exact ⟨i0, h1, h2, h3, h4⟩
  have d1 : decide ((lim : Int) ≤ 0) = false := by rw [decide_eq_false_iff_not]; omega
  have d2 : decide (lim ≤ 0) = false := by rw [decide_eq_false_iff_not]; omega
  have H := hide h
  have lr := h.r.lt
  clear h rt ng t0 ha hn kf e2
  go_enter Try.func41, Try.ntmps41
  go_wp2_with (first
    | (go_at_call 57; (first | ((with_reducible refine Calls.mono (k1 _) ?_); rintro e w' ⟨rfl, rfl⟩) | ((with_reducible refine Calls.mono (k2 _) ?_); rintro e w' ⟨rfl, rfl⟩)))
    | (go_at_call 67; refine kf'.mono ?_; rintro e w1 ⟨rfl, B1⟩; have R1 := hide (H.out.later B1.out); have c3 := R1.out.r.cell 3 _ rfl; have c0 := R1.out.r.cell 0 _ rfl; have lr1 := R1.out.r.lt))
  go_quiet (fail)
  have R2 := hide (R1.out.later (below_drewN (Below.refl _ _) nq))
  have B2 : Hid (Below w.heap.size w (w1.drewN nq)) := B1.out.trans (below_drewN ((Below.refl w1.heap.size w1).mono B1.out.size) nq)
  generalize w1.drewN nq = W2 at R2 B2 ⊢
  have c3' := R2.out.r.cell 3 _ rfl
  have lr2 := R2.out.r.lt
  clear c3 c0
  obtain ⟨ns, hns⟩ : ∃ ns : Sr, ns = (name, at', now) := ⟨_, rfl⟩
  have NS : Hid (newS [] name at' now = ns) := by
    show _ = _
    rw [hns]
    unfold newS srcOf
    simp only [findS, List.find?_nil, Option.getD_none]
    rw [show max 0 at' = at' from by omega, show max 0 now = now from by omega]
  have PA : Hid (putS [] ns = [ns]) := by show _ = _; rfl
  have NSE := hide hns
  have z2 := B2.out.size
  clear hns
  go_upto_region 16 with (first
          | (at_builtin
             refine wpList_append_own_at _ rfl _ _ 65 rfl w.heap.size 82 i0 (.agg #[.string ByteArray.empty, .int .i64 0, .int .i64 0]) 3 32 Try.underlying65 hi0.out.1 hi0.out.2.1 hi0.out.2.2.1 hi0.out.2.2.2 ?a1 ?a2 (.slice none 0 0) 0 [] ?a3 ?a4 ⟨W2.heap.size + 1, 0, none⟩ 1 1 [.string name, .int .i64 at', .int .i64 now] ?a5 ?a6 ?a7 ?a8 ?a9 ?b1 ?b2 ?_
             case a1 => rfl
             case a2 => decide
             case a3 => rfl
             case a4 => exact World.ownsRow_nil _ _ _ _
             case a5 => rfl
             case a6 => rfl
             case a7 => exact cells_new' _ _ _ _ (by simp)
             case a8 => (intro u hu; simp at hu; rcases hu with rfl | rfl | rfl <;> rfl)
             case a9 => (unfold maxLen; omega)
             case b1 => omega
             case b2 => (simp; omega)
             intro v2 w5 hown hgrow _ hat
             obtain ⟨g2, c2, rfl, c2b⟩ := own_succ hown
             have c2c : 1 ≤ c2 := c2b
             have O5 : Hid (w5.ownsRow w.heap.size 82 3 (.slice (some ⟨g2, 0, none⟩) 1 c2) (putS [] ns).length (srcsL (putS [] ns))) := (by rw [PA.out, NSE.out]; exact hown)
             have B5 : Hid (Below w.heap.size w w5) := hide (((B2.out.alloc z2 _).alloc (Nat.le_trans z2 (by simp)) _).grown hgrow (Nat.le_trans z2 (by simp; omega)) (fun j e => by cases e))
             clear hown hgrow hat))
  have R5 := hide (H.out.later B5.out)
  have c35 := R5.out.r.cell 3 _ rfl
  have f35 := R5.out.r.frz 3
  have lr5 := R5.out.r.lt
  clear c3'
  go_wp2_with fail
  have F := hide (hear_fin (ns := ns) H.out hB List.Pairwise.nil B5.out O5.out rfl)
  have kr := reckon_fin F.out.1 (by rw [PA.out]; simp) (fun t ht => by rw [PA.out, List.mem_singleton] at ht; rw [ht, NSE.out]; exact ⟨ha1, ha2⟩) hla
  refine kr.mono ?_
  rintro e w8 ⟨rfl, R8, C8⟩
  go_wp2_with fail
  go_returns
  rw [NS.out]
  exact ⟨_, rfl, R8, F.out.2.1.trans C8 (fun _ _ q => q), F.out.2.2 _⟩
theorem rhear_spec {B : Nat} {w : World} {rb lim : Nat} {late idle : Int} {s : Value} {A : List Sr} {mark : Int} (h : RO B w rb lim late idle s A mark) (hB : B ≤ w.heap.size) (hA : Names A) (hl : A.length ≤ 1024) (hs : ∀ s ∈ A, (0 ≤ s.2.1 ∧ s.2.1 ≤ 1099511627775) ∧ (0 ≤ s.2.2 ∧ s.2.2 ≤ 1099511627775)) (hla : 0 ≤ late ∧ late ≤ 1099511627775) (hlim : 0 < lim)
    (name : ByteArray) (at' now : Int) :
    Calls Try.prog 41 #[.pointer (some ⟨rb, 0, none⟩), .string name, .int .i64 at', .int .i64 now] w (HearR B w rb lim late idle s (heA lim A name at' now) (heM lim late A mark name at' now) (heC lim A name at' now)) := by
  unfold heA heM heC heOk
  cases hb : (secB at' && secB now) with
  | false => exact rhear_arg h name at' now hb
  | true =>
    have ha : secB at' = true := by simp only [Bool.and_eq_true] at hb; exact hb.1
    have hn : secB now = true := by simp only [Bool.and_eq_true] at hb; exact hb.2
    by_cases cc : (findS A name).isSome = true ∨ A.length < lim
    · have e : ((findS A name).isSome || decide (A.length < lim)) = true := by simpa using cc
      rw [e]
      by_cases h0 : A = []
      · subst h0
        exact rhear_first h hB hla hlim name at' now ha hn
      · exact rhear_room h hB hA hl h0 hs hla name at' now ha hn cc
    · have e : ((findS A name).isSome || decide (A.length < lim)) = false := by
        cases q : ((findS A name).isSome || decide (A.length < lim))
        · rfl
        · exact absurd (by simpa using q) cc
      rw [e]
      exact rhear_full h hA hl name at' now ha hn cc
end Go.Proofs.Ytbnlhjooimppeaa
/- source: the table and the reference's, side by side. -/
namespace Go.Proofs.Ytbnlhjooimppeaa
set_option linter.unusedVariables false
set_option linter.unusedSimpArgs false
open Go.RowKit W Go.Maps
section
variable {B B' : Nat} {w w' : World} {b : Tb} {rb lim lim' : Nat} {late idle late' idle' : Int} {v1 v2 s : Value} {A A' : List Sr} {r1 r2 : List En} {mark mark' : Int}
/-- What a table's call leaves of the reference's. -/
theorem RO.tab (h : RO B' w rb lim' late' idle' s A' mark') (t : TM B w b lim late idle v1 v2 A r1 r2 mark) (c : Chg (tS b v1 v2) w w') : RO B' w' rb lim' late' idle' s A' mark' := by
  refine h.chg c ?_ ?_
  · rintro (q | q | q | q)
    · exact h.r.ne t.mem.i (by decide) q
    · exact h.r.ne_map t.mem.m q
    · exact h.r.nkS t.mem.qa1 (by decide) (by decide) q
    · exact h.r.nkS t.mem.qa2 (by decide) (by decide) q
  · rintro k e (q | q | q | q)
    · subst q; exact t.mem.i.ne_row h.row (by decide) e
    · subst q; exact row_ne_map h.row t.mem.m e
    · exact t.mem.qa1.ne_own h.row (by decide) (by decide) k q e
    · exact t.mem.qa2.ne_own h.row (by decide) (by decide) k q e
/-- What the reference's call leaves of a table. -/
theorem TM.ref (t : TM B w b lim late idle v1 v2 A r1 r2 mark) (h : RO B' w rb lim' late' idle' s A' mark') (c : Chg (· = rb) w w') : TM B w' b lim late idle v1 v2 A r1 r2 mark := by
  refine ⟨⟨t.mem.t.chg c ?_, t.mem.i.chg c ?_, t.mem.qa1.chg c ?_ ?_, t.mem.qa2.chg c ?_ ?_, t.mem.m.chg c ?_, t.mem.a12, t.mem.as1, t.mem.as2, t.mem.aq1, t.mem.aq2, t.mem.bt, t.mem.bi, t.mem.bs⟩, t.pl⟩
  · exact t.mem.t.ne h.r (by decide)
  · exact t.mem.i.ne h.r (by decide)
  · exact t.mem.qa1.q.ne h.r (by decide)
  · rintro k z q; subst q; exact h.r.nkS t.mem.qa1 (by decide) (by decide) z
  · exact t.mem.qa2.q.ne h.r (by decide)
  · rintro k z q; subst q; exact h.r.nkS t.mem.qa2 (by decide) (by decide) z
  · exact fun q => h.r.ne_map t.mem.m q.symm
/-- Both, between calls. -/
structure NJ (W : World) (b : Tb) (rb lim : Nat) (late idle : Int) (wr : World) (v1 v2 s : Value) (A : List Sr) (r1 r2 : List En) (mark : Int) : Prop where
  tm : TM W.heap.size wr b lim late idle v1 v2 A r1 r2 mark
  ro : RO W.heap.size wr rb lim late idle s A mark
  bl : Below W.heap.size W wr
theorem NJ.below {W wr : World} (h : NJ W b rb lim late idle wr v1 v2 s A r1 r2 mark) (k : Below wr.heap.size wr w') : NJ W b rb lim late idle w' v1 v2 s A r1 r2 mark := ⟨h.tm.later k, h.ro.later k, h.bl.trans (k.mono h.bl.size)⟩
theorem NJ.len {W wr : World} (h : NJ W b rb lim late idle wr v1 v2 s A r1 r2 mark) : A.length ≤ 1024 := by have := h.tm.mem.qa1.le; have := h.tm.pl.lim; have := h.tm.pl.s1.len; omega
theorem NJ.tabn {W wr w1 : World} {v1' v2' : Value} {r1' r2' : List En} (h : NJ W b rb lim late idle wr v1 v2 s A r1 r2 mark) (k : Below wr.heap.size wr w1) (t : TM W.heap.size w' b lim late idle v1' v2' A' r1' r2' mark') (c : Chg (tS b v1 v2) w1 w') :
    TM W.heap.size w' b lim late idle v1' v2' A' r1' r2' mark' ∧ RO W.heap.size w' rb lim late idle s A mark ∧ Below W.heap.size W w' :=
  ⟨t, (h.below k).ro.tab (h.below k).tm c, (h.below k).bl.trans (c.below (fun k' q => ((h.below k).tm.old k' q).1) (h.below k).bl.size)⟩
theorem NJ.refn {W wr w1 : World} {s' : Value} (t : TM W.heap.size wr b lim late idle v1 v2 A' r1 r2 mark') (r : RO W.heap.size wr rb lim late idle s A mark) (bl : Below W.heap.size W wr) (hrb : W.heap.size ≤ rb) (k : Below wr.heap.size wr w1) (r' : RO W.heap.size w' rb lim late idle s' A' mark') (c : Chg (· = rb) w1 w') :
    NJ W b rb lim late idle w' v1 v2 s' A' r1 r2 mark' :=
  ⟨(t.later k).ref (r.later k) c, r', (bl.trans (k.mono bl.size)).trans (c.below (fun k' (q : k' = rb) => by rw [q]; exact hrb) (Nat.le_trans bl.size k.size))⟩
/-- The reference's table has a block of the statement's own. -/
theorem RO.bl {rb' : Nat} (h : RO B w rb' lim late idle s A mark) (hB : B ≤ rb') : ∀ {V : World}, Chg (· = rb') w V → B ≤ w.heap.size → Below B w V := fun c z => c.below (fun k q => by rw [q]; exact hB) z
end
end Go.Proofs.Ytbnlhjooimppeaa
/- source: who is told, counted. -/
namespace Go.Proofs.Ytbnlhjooimppeaa
set_option linter.unusedVariables false
set_option linter.unusedSimpArgs false
open Go.RowKit W Go.Maps
def cntB (l : List ByteArray) (x : ByteArray) : Nat := (l.filter fun y => decide (y = x)).length
theorem cntB_nil (x : ByteArray) : cntB [] x = 0 := rfl
theorem cntB_take {l : List ByteArray} {k : Nat} (h : k < l.length) (x : ByteArray) : cntB (l.take (k + 1)) x = cntB (l.take k) x + if l[k] = x then 1 else 0 := by
  unfold cntB
  rw [List.take_add_one, List.getElem?_eq_getElem h, List.filter_append, List.length_append]
  congr 1
  simp only [Option.toList_some]
  by_cases e : l[k] = x <;> simp [e]
theorem cntB_le (l : List ByteArray) (x : ByteArray) : cntB l x ≤ l.length := List.length_filter_le _ _
theorem cntB_zero {l : List ByteArray} {x : ByteArray} (h : x ∉ l) : cntB l x = 0 := by
  unfold cntB
  rw [List.length_eq_zero_iff, List.filter_eq_nil_iff]
  intro y hy
  simp only [decide_eq_true_eq]
  rintro rfl
  exact h hy
theorem cntB_one {l : List ByteArray} {x : ByteArray} (n : l.Pairwise (· ≠ ·)) (h : x ∈ l) : cntB l x = 1 := by
  induction l with
  | nil => cases h
  | cons a l ih =>
    have n' := List.pairwise_cons.1 n
    by_cases e : a = x
    · have z : cntB l x = 0 := cntB_zero (fun q => n'.1 x q e)
      unfold cntB at z ⊢
      simp [e, z]
    · have q : x ∈ l := by
        rcases List.mem_cons.1 h with q | q
        · exact absurd q.symm e
        · exact q
      have z := ih n'.2 q
      unfold cntB at z ⊢
      simp [e, z]
theorem goneN_pair {A : List Sr} (hA : Names A) (idle now : Int) : (goneN A idle now).Pairwise (· ≠ ·) := by
  unfold goneN
  refine List.pairwise_map.2 ?_
  have n0 : (goS A idle now).Pairwise fun a b => a.1 ≠ b.1 := (List.Pairwise.filter _ hA).imp (fun q => ltB_ne q)
  exact (List.Perm.pairwise_iff (fun {_ _} q => Ne.symm q) (goneH_perm A idle now)).2 n0
theorem mem_goneN {A : List Sr} {idle now : Int} {x : ByteArray} : x ∈ goneN A idle now ↔ ∃ s ∈ A, ¬ now - idle < s.2.2 ∧ s.1 = x := by
  unfold goneN
  rw [List.mem_map]
  constructor
  · rintro ⟨s, hs, rfl⟩
    obtain ⟨h1, h2⟩ := List.mem_filter.1 ((goneH_perm A idle now).subset hs)
    exact ⟨s, h1, by simpa using h2, rfl⟩
  · rintro ⟨s, h1, h2, rfl⟩
    exact ⟨s, (goneH_perm A idle now).symm.subset (List.mem_filter.2 ⟨h1, by simpa using h2⟩), rfl⟩
theorem stay_find {A : List Sr} (hA : Names A) {idle now : Int} {s : Sr} (hs : s ∈ A) : findS (stayS A idle now) s.1 = if now - idle < s.2.2 then some s else none := by
  by_cases c : now - idle < s.2.2
  · rw [if_pos c]
    exact (findS_some (hA.stay _ _)).2 ⟨List.mem_filter.2 ⟨hs, by simpa using c⟩, rfl⟩
  · rw [if_neg c, findS_none]
    intro t ht e
    obtain ⟨h1, h2⟩ := List.mem_filter.1 ht
    have := hA.eq h1 hs e
    subst this
    exact c (by simpa using h2)
theorem gone_count {A : List Sr} (hA : Names A) {idle now : Int} {s : Sr} (hs : s ∈ A) : cntB (goneN A idle now) s.1 = if now - idle < s.2.2 then 0 else 1 := by
  by_cases c : now - idle < s.2.2
  · rw [if_pos c]
    refine cntB_zero fun q => ?_
    obtain ⟨t, h1, h2, e⟩ := mem_goneN.1 q
    have := hA.eq h1 hs e
    subst this
    exact h2 c
  · rw [if_neg c]
    exact cntB_one (goneN_pair hA _ _) (mem_goneN.2 ⟨s, hs, c, rfl⟩)
theorem filter_split {α : Type} (p : α → Bool) : ∀ l : List α, (l.filter p).length + (l.filter fun x => !p x).length = l.length
  | [] => rfl
  | a :: l => by
    have := filter_split p l
    cases h : p a <;> simp [h] <;> omega
theorem gone_len (A : List Sr) (idle now : Int) : (stayS A idle now).length + (goneN A idle now).length = A.length := by
  unfold goneN
  rw [List.length_map, (goneH_perm A idle now).length_eq]
  exact filter_split _ A
theorem gone_stay (A : List Sr) (idle now : Int) : goneN (stayS A idle now) idle now = [] := by
  unfold goneN goneH
  have : goS (stayS A idle now) idle now = [] := by
    unfold goS stayS
    rw [List.filter_filter, List.filter_eq_nil_iff]
    intro s _
    simp
  rw [this]
  simp
/-- How many stay of the first. -/
def stayN (A : List Sr) (idle now : Int) (i : Nat) : Nat := (stayS (A.take i) idle now).length
theorem stayN_zero (A : List Sr) (idle now : Int) : stayN A idle now 0 = 0 := by simp [stayN, stayS]
theorem stayN_all (A : List Sr) (idle now : Int) : stayN A idle now A.length = (stayS A idle now).length := by simp [stayN]
theorem stayN_succ {A : List Sr} {idle now : Int} {i : Nat} (h : i < A.length) : stayN A idle now (i + 1) = stayN A idle now i + if now - idle < A[i].2.2 then 1 else 0 := by
  unfold stayN stayS
  rw [List.take_add_one, List.getElem?_eq_getElem h, List.filter_append, List.length_append]
  congr 1
  simp only [Option.toList_some]
  by_cases c : now - idle < A[i].2.2 <;> simp [c]
theorem stayN_le (A : List Sr) (idle now : Int) (i : Nat) : stayN A idle now i ≤ i := by
  unfold stayN stayS
  refine Nat.le_trans (List.length_filter_le _ _) ?_
  rw [List.length_take]; omega
/-- A list of names of one's own reads. -/
theorem isT_own {w : World} {B n : Nat} {s : Value} {l : List ByteArray} (h : w.ownsRow B 9 1 s n (l.map Value.string)) (hn : n = l.length) : ∃ a c, s = .slice a n c ∧ IsTxts w a l := by
  subst hn
  rcases h.2 with ⟨rfl, e⟩ | ⟨g, cap, cur, rfl, hb, hh, hc, _⟩
  · exact ⟨none, 0, by rw [e], .inl (List.eq_nil_of_length_eq_zero e)⟩
  · refine ⟨_, cap, rfl, .inr ⟨g, 0, rfl, ⟨fun i hi => ?_, blk_lt hh⟩⟩⟩
    rw [Nat.zero_add]
    refine (row_look h).1 i _ ?_
    simp [hi]
/-- Tick, as it reads. -/
theorem ttick_is {B : Nat} {w : World} {b : Tb} {lim : Nat} {late idle : Int} {v1 v2 : Value} {A : List Sr} {r1 r2 : List En} {mark : Int} (h : TM B w b lim late idle v1 v2 A r1 r2 mark) (hB : B ≤ w.heap.size) (now : Int) :
    Calls Try.prog 38 #[.pointer (some ⟨b.tb, 0, none⟩), .int .i64 now] w fun e w' => ∃ a c v1' v2' r1' r2', e = .returned (.slice a (if secB now then goneN A idle now else []).length c) ∧ IsTxts w' a (if secB now then goneN A idle now else []) ∧
      TM B w' b lim late idle v1' v2' (if secB now then stayS A idle now else A) r1' r2' (if secB now then markS (stayS A idle now) late mark else mark) ∧ Chg (tS b v1 v2) w w' := by
  refine (ttick_spec h hB now).mono ?_
  rintro e w' ⟨v1', v2', r1', r2', s, rfl, o, t, c, _, _⟩
  obtain ⟨a, cp, rfl, i⟩ := isT_own o rfl
  exact ⟨a, cp, v1', v2', r1', r2', rfl, i, t, c⟩
end Go.Proofs.Ytbnlhjooimppeaa
/- source: the reference's Tick, its parts. -/
namespace Go.Proofs.Ytbnlhjooimppeaa
set_option linter.unusedVariables false
set_option linter.unusedSimpArgs false
open Go.RowKit W Go.Maps
theorem srcs_set : ∀ (l : List Sr) (i : Nat) (e : Sr), srcsL (l.set i e) = (((srcsL l).set (i * 3) (.string e.1)).set (i * 3 + 1) (.int .i64 e.2.1)).set (i * 3 + 2) (.int .i64 e.2.2)
  | [], i, e => by simp [srcsL]
  | x :: l, 0, e => by simp [srcsL]
  | x :: l, i + 1, e => by
    rw [show (i + 1) * 3 = i * 3 + 1 + 1 + 1 from by omega, show i * 3 + 1 + 1 + 1 + 1 = (i * 3 + 1) + 1 + 1 + 1 from by omega, show i * 3 + 1 + 1 + 1 + 2 = (i * 3 + 2) + 1 + 1 + 1 from by omega]
    simp only [List.set_cons_succ, srcsL]
    rw [srcs_set l i e]
theorem set_mid {α : Type} {l : List α} {k : Nat} (hk : k ≤ l.length) (y z : α) : (l.take k ++ y :: l.drop k).set k z = l.take k ++ z :: l.drop k := by
  rw [List.set_append_right _ _ (by rw [List.length_take]; omega), List.length_take, Nat.min_eq_left hk, Nat.sub_self]
  rfl
theorem shift_mid {α : Type} {l : List α} {k : Nat} (hk : k < l.length) : l.take (k + 1) ++ l[k] :: l.drop (k + 1) = l.take k ++ l[k] :: l.drop k := by
  have e1 : l.drop k = l[k] :: l.drop (k + 1) := List.drop_eq_getElem_cons hk
  rw [e1, List.take_add_one, List.getElem?_eq_getElem hk, List.append_assoc]
  rfl
theorem stay_snoc {A : List Sr} {idle now : Int} {i : Nat} (h : i < A.length) : stayS (A.take (i + 1)) idle now = stayS (A.take i) idle now ++ (if now - idle < A[i].2.2 then [A[i]] else []) := by
  unfold stayS
  rw [List.take_add_one, List.getElem?_eq_getElem h, List.filter_append]
  congr 1
  by_cases c : now - idle < A[i].2.2 <;> simp [c]
theorem go_snoc {A : List Sr} {idle now : Int} {i : Nat} (h : i < A.length) : goS (A.take (i + 1)) idle now = goS (A.take i) idle now ++ (if now - idle < A[i].2.2 then [] else [A[i]]) := by
  unfold goS
  rw [List.take_add_one, List.getElem?_eq_getElem h, List.filter_append]
  congr 1
  by_cases c : now - idle < A[i].2.2 <;> simp [c]
/-- One more that goes: its place. -/
theorem ins_gone {A G : List Sr} {idle now : Int} {i k : Nat} (hA : Names A) (h : i < A.length) (hc : ¬ now - idle < A[i].2.2) (pr : G.Pairwise fun a b => ltL a b = true) (pm : G.Perm (goS (A.take i) idle now)) (hk : k ≤ G.length)
    (lo : ∀ h : 0 < k, ¬ A[i].2.2 < (G[k - 1]'(by omega)).2.2) (hi : ∀ j (h : j < G.length), k ≤ j → A[i].2.2 < G[j].2.2) :
    (G.take k ++ A[i] :: G.drop k).Pairwise (fun a b => ltL a b = true) ∧ (G.take k ++ A[i] :: G.drop k).Perm (goS (A.take (i + 1)) idle now) := by
  constructor
  · have p2 : (G.take k ++ G.drop k).Pairwise fun a b => ltL a b = true := by rw [List.take_append_drop]; exact pr
    obtain ⟨q1, q2, q3⟩ := List.pairwise_append.1 p2
    refine List.pairwise_append.2 ⟨q1, List.pairwise_cons.2 ⟨fun b hb => ?_, q2⟩, fun a ha b hb => ?_⟩
    · obtain ⟨j, hj, rfl⟩ := List.getElem_of_mem hb
      rw [List.getElem_drop]
      rw [List.length_drop] at hj
      have := hi (k + j) (by omega) (by omega)
      rw [ltL, ltE_iff]
      exact .inl this
    · rcases List.mem_cons.1 hb with e | hb
      · subst e
        obtain ⟨j, hj, rfl⟩ := List.getElem_of_mem ha
        rw [List.length_take] at hj
        rw [List.getElem_take]
        have lk := lo (by omega)
        have le : (G[j]'(by omega)).2.2 ≤ A[i].2.2 := by
          by_cases q : j = k - 1
          · subst q; omega
          · have := List.pairwise_iff_getElem.1 pr j (k - 1) (by omega) (by omega) (by omega)
            rw [ltL, ltE_iff] at this
            simp only at this
            omega
        rw [ltL, ltE_iff]
        by_cases e : (G[j]'(by omega)).2.2 = A[i].2.2
        · right
          refine ⟨e, ?_⟩
          have m := pm.subset (List.getElem_mem (l := G) (n := j) (by omega))
          obtain ⟨m1, _⟩ := List.mem_filter.1 m
          obtain ⟨u, hu, eu⟩ := List.getElem_of_mem m1
          rw [List.length_take] at hu
          rw [List.getElem_take] at eu
          simp only
          rw [← eu]
          exact List.pairwise_iff_getElem.1 hA u i (by omega) h (by omega)
        · left; simp only; omega
      · exact q3 a ha b hb
  · rw [go_snoc h, if_neg hc]
    refine List.perm_middle.trans ?_
    rw [List.take_append_drop]
    exact (pm.cons _).trans (List.perm_append_comm (l₁ := [A[i]]))
/-- While the reference's Tick goes on. -/
structure TR (w : World) (A : List Sr) (idle now : Int) (i : Nat) (wr : World) (s5 s6 : Value) (p q : Nat) (G : List Sr) : Prop where
  st : wr.ownsRow w.heap.size 82 3 s5 p (srcsL (stayS (A.take i) idle now))
  pe : p = (stayS (A.take i) idle now).length
  go : wr.ownsRow w.heap.size 82 3 s6 q (srcsL G)
  qe : q = G.length
  apt : Apt s5 s6
  nil : p = 0 → s5 = .slice none 0 0
  pr : G.Pairwise fun a b => ltL a b = true
  pm : G.Perm (goS (A.take i) idle now)
  bl : Below w.heap.size w wr
theorem TR.later {w wr w' : World} {A : List Sr} {idle now : Int} {i p q : Nat} {s5 s6 : Value} {G : List Sr} (h : TR w A idle now i wr s5 s6 p q G) (b : Below wr.heap.size wr w') : TR w A idle now i w' s5 s6 p q G :=
  ⟨chg_row h.st (Chg.of_below (S := fun _ => False) b) (fun _ _ q => q), h.pe, chg_row h.go (Chg.of_below (S := fun _ => False) b) (fun _ _ q => q), h.qe, h.apt, h.nil, h.pr, h.pm, h.bl.trans (b.mono h.bl.size)⟩
theorem TR.le {w wr : World} {A : List Sr} {idle now : Int} {i p q : Nat} {s5 s6 : Value} {G : List Sr} (h : TR w A idle now i wr s5 s6 p q G) : p ≤ i ∧ q ≤ i := by
  have a := h.pe
  have b := h.qe
  have c := h.pm.length_eq
  have d : (stayS (A.take i) idle now).length ≤ (A.take i).length := List.length_filter_le _ _
  have e : (goS (A.take i) idle now).length ≤ (A.take i).length := List.length_filter_le _ _
  rw [List.length_take] at d e
  omega
section
variable {w wr w3 : World} {A : List Sr} {idle now : Int} {i p q : Nat} {s5 s6 s5' s6' : Value} {G : List Sr}
theorem TR.stay (h : TR w A idle now i wr s5 s6 p q G) (il : i < A.length) (c : now - idle < A[i].2.2) {o : Obj} (hg : (wr.alloc o).grownBy w3 s5.ownBlock) (hown : w3.ownsRow w.heap.size 82 3 s5' (p + 1) (srcsL (stayS (A.take i) idle now) ++ srE A[i]))
    (hat : s5'.ownBlock = s5.ownBlock ∨ s5'.ownBlock = some (wr.alloc o).heap.size) : TR w A idle now (i + 1) w3 s5' s6 (p + 1) q G := by
  have C : Chg (fun k => s5.ownBlock = some k) wr w3 := Chg.grown2 hg rfl rfl rfl rfl (fun _ e => e)
  have e1 : stayS (A.take (i + 1)) idle now = stayS (A.take i) idle now ++ [A[i]] := by rw [stay_snoc il, if_pos c]
  refine ⟨by rw [e1, srcs_snoc]; exact hown, by rw [e1, List.length_append, ← h.pe]; rfl, chg_row h.go C (fun k e z => h.apt k z e), h.qe, ?_, fun z => by omega, h.pr, by rw [go_snoc il, if_pos c, List.append_nil]; exact h.pm, h.bl.trans (C.below (fun k e => (own_old h.st e).1) h.bl.size)⟩
  exact Apt.moved (w := wr.alloc o) h.apt (h.go.alloc o) hat
/-- While one that goes finds its place. -/
structure TG (w : World) (A : List Sr) (idle now : Int) (i : Nat) (il : i < A.length) (wr : World) (s5 s6 : Value) (p q : Nat) (G : List Sr) (k : Nat) (y : Sr) : Prop where
  st : wr.ownsRow w.heap.size 82 3 s5 p (srcsL (stayS (A.take i) idle now))
  pe : p = (stayS (A.take i) idle now).length
  go : wr.ownsRow w.heap.size 82 3 s6 (q + 1) (srcsL (G.take k ++ y :: G.drop k))
  qe : q = G.length
  apt : Apt s5 s6
  nil : p = 0 → s5 = .slice none 0 0
  pr : G.Pairwise fun a b => ltL a b = true
  pm : G.Perm (goS (A.take i) idle now)
  bl : Below w.heap.size w wr
  kq : k ≤ q
  hi : ∀ j (h : j < G.length), k ≤ j → A[i].2.2 < G[j].2.2
theorem TR.gone (h : TR w A idle now i wr s5 s6 p q G) (il : i < A.length) {o : Obj} {y : Sr} (hg : (wr.alloc o).grownBy w3 s6.ownBlock) (hown : w3.ownsRow w.heap.size 82 3 s6' (q + 1) (srcsL G ++ srE y))
    (hat : s6'.ownBlock = s6.ownBlock ∨ s6'.ownBlock = some (wr.alloc o).heap.size) : TG w A idle now i il w3 s5 s6' p q G q y := by
  have C : Chg (fun k => s6.ownBlock = some k) wr w3 := Chg.grown2 hg rfl rfl rfl rfl (fun _ e => e)
  refine ⟨chg_row h.st C (fun k e z => h.apt k e z), h.pe, ?_, h.qe, ?_, h.nil, h.pr, h.pm, h.bl.trans (C.below (fun k e => (own_old h.go e).1) h.bl.size), Nat.le_refl _, fun j hj z => ?_⟩
  · rw [h.qe, List.take_length, List.drop_length, srcs_snoc, ← h.qe]; exact hown
  · exact (Apt.moved (w := wr.alloc o) h.apt.symm (h.st.alloc o) hat).symm
  · have := h.qe; omega
theorem TG.later {il : i < A.length} {k : Nat} {y : Sr} (h : TG w A idle now i il wr s5 s6 p q G k y) (b : Below wr.heap.size wr w3) : TG w A idle now i il w3 s5 s6 p q G k y :=
  ⟨chg_row h.st (Chg.of_below (S := fun _ => False) b) (fun _ _ q => q), h.pe, chg_row h.go (Chg.of_below (S := fun _ => False) b) (fun _ _ q => q), h.qe, h.apt, h.nil, h.pr, h.pm, h.bl.trans (b.mono h.bl.size), h.kq, h.hi⟩
theorem TG.put {g c : Nat} {il : i < A.length} {k : Nat} {y : Sr} (h : TG w A idle now i il wr s5 (.slice (some ⟨g, 0, none⟩) (q + 1) c) p q G k y) (z : Sr) :
    TG w A idle now i il (((wr.setCell ⟨g, k * 3, none⟩ (.string z.1)).setCell ⟨g, k * 3 + 1, none⟩ (.int .i64 z.2.1)).setCell ⟨g, k * 3 + 2, none⟩ (.int .i64 z.2.2)) s5 (.slice (some ⟨g, 0, none⟩) (q + 1) c) p q G k z := by
  have kq := h.kq
  have r1 := row_put h.go (k * 3) (by omega) (.string z.1)
  have r2 := row_put r1 (k * 3 + 1) (by omega) (.int .i64 z.2.1)
  have r3 := row_put r2 (k * 3 + 2) (by omega) (.int .i64 z.2.2)
  rw [← srcs_set, set_mid (by have := h.qe; omega)] at r3
  obtain ⟨_, _, _, gB⟩ := row_look h.go
  have C : Chg (· = g) wr (((wr.setCell ⟨g, k * 3, none⟩ (.string z.1)).setCell ⟨g, k * 3 + 1, none⟩ (.int .i64 z.2.1)).setCell ⟨g, k * 3 + 2, none⟩ (.int .i64 z.2.2)) :=
    ((Chg.set (S := (· = g)) _ rfl).trans (Chg.set (S := (· = g)) _ rfl) (fun _ _ q => q)).trans (Chg.set (S := (· = g)) _ rfl) (fun _ _ q => q)
  exact ⟨chg_row h.st C (fun k e (q : k = g) => h.apt k e (by rw [q]; rfl)), h.pe, r3, h.qe, h.apt, h.nil, h.pr, h.pm, h.bl.trans (C.below (fun k (e : k = g) => by rw [e]; exact gB) h.bl.size), h.kq, h.hi⟩
theorem TG.shift {il : i < A.length} {j : Nat} {y : Sr} (h : TG w A idle now i il wr s5 s6 p q G (j + 1) y) (h0 : j < G.length) (hy : y = G[j]) (lt : A[i].2.2 < G[j].2.2) : TG w A idle now i il wr s5 s6 p q G j y := by
  subst hy
  refine ⟨h.st, h.pe, by rw [← shift_mid h0]; exact h.go, h.qe, h.apt, h.nil, h.pr, h.pm, h.bl, by have := h.kq; omega, fun u hu ju => ?_⟩
  by_cases e : u = j
  · subst e; exact lt
  · exact h.hi u hu (by omega)
theorem TG.fin {il : i < A.length} {k : Nat} (h : TG w A idle now i il wr s5 s6 p q G k A[i]) (hA : Names A) (hc : ¬ now - idle < A[i].2.2) (lo : ∀ h : 0 < k, ∀ hg : k - 1 < G.length, ¬ A[i].2.2 < (G[k - 1]'hg).2.2) :
    TR w A idle now (i + 1) wr s5 s6 p (q + 1) (G.take k ++ A[i] :: G.drop k) := by
  have kq := h.kq
  have qe := h.qe
  obtain ⟨m1, m2⟩ := ins_gone hA il hc h.pr h.pm (by omega : k ≤ G.length) (fun h0 => lo h0 (by omega)) h.hi
  have e1 : stayS (A.take (i + 1)) idle now = stayS (A.take i) idle now := by rw [stay_snoc il, if_neg hc, List.append_nil]
  refine ⟨by rw [e1]; exact h.st, by rw [e1]; exact h.pe, h.go, ?_, h.apt, h.nil, m1, m2, h.bl⟩
  simp [List.length_take, List.length_drop]
  omega
/-- What stands in the midst. -/
theorem mid_lt {α : Type} {l : List α} {k j : Nat} {y : α} (hk : k ≤ l.length) (hj : j < k) : (l.take k ++ y :: l.drop k)[j]? = l[j]? := by
  rw [List.getElem?_append_left (by rw [List.length_take]; omega), List.getElem?_take_of_lt hj]
theorem mid_at {α : Type} {l : List α} {k : Nat} {y : α} (hk : k ≤ l.length) : (l.take k ++ y :: l.drop k)[k]? = some y := by
  rw [List.getElem?_append_right (by rw [List.length_take]; omega), List.length_take, Nat.min_eq_left hk, Nat.sub_self]
  rfl
theorem srcs_look {l : List Sr} {j : Nat} {x : Sr} (h : l[j]? = some x) : (srcsL l)[j * 3]? = some (.string x.1) ∧ (srcsL l)[j * 3 + 1]? = some (.int .i64 x.2.1) ∧ (srcsL l)[j * 3 + 2]? = some (.int .i64 x.2.2) := by
  obtain ⟨hj, rfl⟩ := List.getElem?_eq_some_iff.1 h
  exact ⟨srcs_at hj (j := 0) (by decide), srcs_at hj (j := 1) (by decide), srcs_at hj (j := 2) (by decide)⟩
end
end Go.Proofs.Ytbnlhjooimppeaa
/- source: the reference's Tick. -/
namespace Go.Proofs.Ytbnlhjooimppeaa
set_option linter.unusedVariables false
set_option linter.unusedSimpArgs false
open Go.RowKit W Go.Maps
def TickR (B : Nat) (w : World) (rb lim : Nat) (late idle : Int) (s : Value) (A : List Sr) (mark : Int) (G : List ByteArray) (e : Ending) (w' : World) : Prop :=
  ∃ s' sv, e = .returned sv ∧ w'.ownsRow w.heap.size 9 1 sv G.length (G.map Value.string) ∧ RO B w' rb lim late idle s' A mark ∧ Chg (· = rb) w w'
set_option maxRecDepth 100000 in
set_option maxHeartbeats 8000000 in
theorem rtick_spec {B : Nat} {w : World} {rb lim : Nat} {late idle : Int} {s : Value} {A : List Sr} {mark : Int} (h : RO B w rb lim late idle s A mark) (hB : B ≤ w.heap.size) (hA : Names A) (hl : A.length ≤ 1024) (hs : ∀ s ∈ A, (0 ≤ s.2.1 ∧ s.2.1 ≤ 1099511627775) ∧ (0 ≤ s.2.2 ∧ s.2.2 ≤ 1099511627775)) (hla : 0 ≤ late ∧ late ≤ 1099511627775) (hid : 1 ≤ idle ∧ idle ≤ 1099511627775)
    (now : Int) (hn : 0 ≤ now ∧ now ≤ 1099511627775) :
    Calls Try.prog 59 #[.pointer (some ⟨rb, 0, none⟩), .int .i64 now] w (TickR B w rb lim late idle s (stayS A idle now) (markS (stayS A idle now) late mark) (goneN A idle now)) := by
  have k2 := rsecond11 now
  rw [(secB_iff now).2 hn] at k2
  obtain ⟨hn1, hn2⟩ := hn
  obtain ⟨id1, id2⟩ := hid
  obtain ⟨a, c, rfl, rt, ng⟩ := h.rt
  obtain ⟨n, hnn⟩ : ∃ n, n = A.length := ⟨_, rfl⟩
  have HN := hide hnn
  have H := hide h
  rw [← hnn] at H hl
  have HA := hide hA
  have HS := hide hs
  have RS := hide rt.is
  have lr := h.r.lt
  have wrp : IntKind.i64.wrap (now - idle) = now - idle := by rw [IntKind.wrap_i64]; omega
  obtain ⟨i0, hi0⟩ : ∃ i0, Hid (Try.prog.info? 82 = some i0 ∧ i0.zero = some (.agg #[.string ByteArray.empty, .int .i64 0, .int .i64 0]) ∧ i0.size = 3 ∧ i0.bytes = 32) := by
    obtain ⟨i0, h1, h2, h3, h4⟩ := info_parts info_src
    exact ⟨i0, h1, h2, h3, h4⟩
  obtain ⟨i1, hi1⟩ : ∃ i1, Hid (Try.prog.info? 9 = some i1 ∧ i1.zero = some (.string ByteArray.empty) ∧ i1.size = 1 ∧ i1.bytes = 16) := by
    obtain ⟨i1, h1, h2, h3, h4⟩ := info_parts info_txt
    exact ⟨i1, h1, h2, h3, h4⟩
  have T0 : Hid (TR w A idle now 0 w (.slice none 0 0) (.slice none 0 0) 0 0 []) := by
    refine ⟨?_, ?_, World.ownsRow_nil _ _ _ _, rfl, Apt.nil _, fun _ => rfl, List.Pairwise.nil, ?_, Below.refl _ _⟩
    · rw [List.take_zero]; exact World.ownsRow_nil _ _ _ _
    · rw [List.take_zero]; rfl
    · rw [List.take_zero]; exact List.Perm.refl _
  have CE : Hid (∀ V, Below w.heap.size w V → V.cell? ⟨rb, 3, none⟩ = some (.slice a n c) ∧ V.cell? ⟨rb, 2, none⟩ = some (.int .i64 idle) ∧ rb < V.heap.size) := fun V q => ⟨(H.out.later q).r.cell 3 _ rfl, (H.out.later q).r.cell 2 _ rfl, (H.out.later q).r.lt⟩
  obtain ⟨c3, c2, _⟩ := CE.out w (Below.refl _ _)
  clear h rt ng hnn hA hs
  go_enter Try.func59, Try.ntmps59
  go_wp2_with (go_at_call 57; refine (k2 _).mono ?_; rintro e w' ⟨rfl, rfl⟩)
  clear k2 c3 c2
  go_loopw [5, 6, 7] (fun s5 s6 s7 wr => ∃ (i p q : Nat) (A5 A6 : Option Addr) (c5 c6 : Nat) (G : List Sr), s5 = .slice A5 p c5 ∧ s6 = .slice A6 q c6 ∧ s7 = .int .i64 (i : Int) ∧ i ≤ n ∧ Hid (TR w A idle now i wr (.slice A5 p c5) (.slice A6 q c6) p q G)) (fun _ _ s7 _ => n - (intOf s7).toNat)
  case atStart => exact ⟨0, 0, 0, none, none, 0, 0, [], rfl, rfl, rfl, by omega, T0⟩
  case round =>
    obtain ⟨i, p, q, A5, A6, c5, c6, G, rfl, rfl, rfl, hi, T⟩ := hrel
    obtain ⟨c3, c2, lr2⟩ := CE.out wr T.out.bl
    have zw := T.out.bl.size
    obtain ⟨pi, qi⟩ := T.out.le
    by_cases hlt : i < n
    · have d1 : decide ((i : Int) < (n : Int)) = true := by rw [decide_eq_true_eq]; omega
      have d2 : decide (i < n) = true := by rw [decide_eq_true_eq]; omega
      have il : i < A.length := by have := HN.out; omega
      obtain ⟨g, o, rfl, gl, x0, x1, x2⟩ := (RS.out.later T.out.bl).at_ il
      obtain ⟨⟨sk, sm, sl⟩, hx⟩ : ∃ x, x = A[i] := ⟨_, rfl⟩
      have HX := hide hx
      rw [← hx] at x0 x1 x2
      dsimp only at x0 x1 x2
      clear hx
      go_upto_region 8 with fail
      refine abs_wp (fun V => Hid (TR w A idle now i V (.slice A5 p c5) (.slice A6 q c6) p q G) ∧ V.cell? ⟨wr.heap.size, 0, none⟩ = some (.string sk) ∧ V.cell? ⟨wr.heap.size, 1, none⟩ = some (.int .i64 sm) ∧ V.cell? ⟨wr.heap.size, 2, none⟩ = some (.int .i64 sl) ∧ wr.heap.size < V.heap.size) ⟨hide (T.out.later ((Below.refl _ _).alloc (Nat.le_refl _) _)), by simp [go_sem], by simp [go_sem], by simp [go_sem], by simp⟩ ?_
      rintro V ⟨TV, y0, y1, y2, zV⟩
      obtain ⟨c3', c2', lr3⟩ := CE.out V TV.out.bl
      clear x0 x1 x2 c3 c2 gl lr2
      by_cases st : now - idle < sl
      · have g3 := decide_eq_true st
        go_quiet (fail)
        have T2 := hide (TV.out.later (below_drewN (Below.refl _ _) nq))
        have y0' : (V.drewN nq).cell? ⟨wr.heap.size, 0, none⟩ = some (.string sk) := y0
        have y1' : (V.drewN nq).cell? ⟨wr.heap.size, 1, none⟩ = some (.int .i64 sm) := y1
        have y2' : (V.drewN nq).cell? ⟨wr.heap.size, 2, none⟩ = some (.int .i64 sl) := y2
        have zV' : wr.heap.size < (V.drewN nq).heap.size := zV
        generalize V.drewN nq = V2 at T2 y0' y1' y2' zV' ⊢
        clear TV y0 y1 y2 zV c3' c2' lr3
        have zV2 := T2.out.bl.size
        go_wp2_with (first
          | (at_builtin
             refine wpList_append_own_at _ rfl _ _ 65 rfl w.heap.size 82 i0 (.agg #[.string ByteArray.empty, .int .i64 0, .int .i64 0]) 3 32 Try.underlying65 hi0.out.1 hi0.out.2.1 hi0.out.2.2.1 hi0.out.2.2.2 ?a1 ?a2 (.slice A5 p c5) p (srcsL (stayS (A.take i) idle now)) ?a3 ?a4 ⟨V2.heap.size, 0, none⟩ 1 1 [.string sk, .int .i64 sm, .int .i64 sl] ?a5 ?a6 ?a7 ?a8 ?a9 ?b1 ?b2 ?_
             case a1 => rfl
             case a2 => decide
             case a3 => rfl
             case a4 => exact T2.out.st.alloc _
             case a5 => rfl
             case a6 => rfl
             case a7 => exact cells_new' _ _ _ _ (by simp)
             case a8 => (intro u hu; simp at hu; rcases hu with rfl | rfl | rfl <;> rfl)
             case a9 => (unfold maxLen; omega)
             case b1 => omega
             case b2 => (simp; omega)
             intro v3 w3 hown hgrow _ hat
             obtain ⟨A7, c7, rfl, _, _⟩ := own_form hown
             have T3 := hide (T2.out.stay il (by rw [← HX.out]; exact st) hgrow (by rw [← HX.out]; exact hown) hat)
             clear hown hgrow hat))
        go_roundw
        case rel => exact ⟨i + 1, p + 1, q, A7, A6, c7, c6, G, rfl, rfl, by go_num, by omega, T3⟩
        case measure => (first | (simp [intOf]; done) | (simp [intOf]; omega))
      · have g3 := decide_eq_false st
        go_quiet (fail)
        have T2 := hide (TV.out.later (below_drewN (Below.refl _ _) nq))
        have y0' : (V.drewN nq).cell? ⟨wr.heap.size, 0, none⟩ = some (.string sk) := y0
        have y1' : (V.drewN nq).cell? ⟨wr.heap.size, 1, none⟩ = some (.int .i64 sm) := y1
        have y2' : (V.drewN nq).cell? ⟨wr.heap.size, 2, none⟩ = some (.int .i64 sl) := y2
        have zV' : wr.heap.size < (V.drewN nq).heap.size := zV
        generalize V.drewN nq = V2 at T2 y0' y1' y2' zV' ⊢
        clear TV y0 y1 y2 zV c3' c2' lr3
        have zV2 := T2.out.bl.size
        have NB : Hid (∀ k, (Value.slice A6 q c6).ownBlock = some k → k ≠ wr.heap.size) := fun k e z => by have := (own_old T.out.go e).2; omega
        obtain ⟨bx, hbx⟩ : ∃ bx, bx = wr.heap.size := ⟨_, rfl⟩
        have HBX := hide hbx
        rw [← hbx] at y0' y1' y2' zV' ⊢
        clear hbx
        go_wp2_with (first
          | (at_builtin
             refine wpList_append_own_at _ rfl _ _ 65 rfl w.heap.size 82 i0 (.agg #[.string ByteArray.empty, .int .i64 0, .int .i64 0]) 3 32 Try.underlying65 hi0.out.1 hi0.out.2.1 hi0.out.2.2.1 hi0.out.2.2.2 ?a1 ?a2 (.slice A6 q c6) q (srcsL G) ?a3 ?a4 ⟨V2.heap.size, 0, none⟩ 1 1 [.string sk, .int .i64 sm, .int .i64 sl] ?a5 ?a6 ?a7 ?a8 ?a9 ?b1 ?b2 ?_
             case a1 => rfl
             case a2 => decide
             case a3 => rfl
             case a4 => exact T2.out.go.alloc _
             case a5 => rfl
             case a6 => rfl
             case a7 => exact cells_new' _ _ _ _ (by simp)
             case a8 => (intro u hu; simp at hu; rcases hu with rfl | rfl | rfl <;> rfl)
             case a9 => (unfold maxLen; omega)
             case b1 => omega
             case b2 => (simp; omega)
             intro v3 w3 hown hgrow _ hat
             obtain ⟨g6, c7, rfl, _⟩ := own_succ hown
             have T3 := hide (T2.out.gone (y := (sk, sm, sl)) il hgrow hown hat)
             have nb : g6 ≠ bx := (by rw [HBX.out]; rcases hat with e | e; (exact NB.out g6 e.symm); (have e2 : g6 = V2.heap.size + 1 := (by simpa [Value.ownBlock] using e); have := HBX.out; omega))
             have z0 : w3.cell? ⟨bx, 0, none⟩ = some (.string sk) := hgrow.cell (a := ⟨bx, 0, none⟩) ((((Below.refl _ _).alloc (Nat.le_refl _) _).cell (p := ⟨bx, 0, none⟩) zV').trans y0') (fun e => NB.out bx e.symm HBX.out)
             have z1 : w3.cell? ⟨bx, 1, none⟩ = some (.int .i64 sm) := hgrow.cell (a := ⟨bx, 1, none⟩) ((((Below.refl _ _).alloc (Nat.le_refl _) _).cell (p := ⟨bx, 1, none⟩) zV').trans y1') (fun e => NB.out bx e.symm HBX.out)
             have z2 : w3.cell? ⟨bx, 2, none⟩ = some (.int .i64 sl) := hgrow.cell (a := ⟨bx, 2, none⟩) ((((Below.refl _ _).alloc (Nat.le_refl _) _).cell (p := ⟨bx, 2, none⟩) zV').trans y2') (fun e => NB.out bx e.symm HBX.out)
             have z3 : bx < w3.heap.size := Nat.lt_of_lt_of_le (by simp; omega) hgrow.size
             clear hown hgrow hat y0' y1' y2'))
        go_loopw [9] (fun s9 wr4 => ∃ (k : Nat) (y : Sr), s9 = .int .i64 (k : Int) ∧ k ≤ q ∧ Hid (TG w A idle now i il wr4 (.slice A5 p c5) (.slice (some ⟨g6, 0, none⟩) (q + 1) c7) p q G k y) ∧ wr4.cell? ⟨bx, 0, none⟩ = some (.string sk) ∧ wr4.cell? ⟨bx, 1, none⟩ = some (.int .i64 sm) ∧ wr4.cell? ⟨bx, 2, none⟩ = some (.int .i64 sl) ∧ bx < wr4.heap.size) (fun s9 _ => (intOf s9).toNat)
        case atStart => exact ⟨q, (sk, sm, sl), rfl, Nat.le_refl _, T3, z0, z1, z2, z3⟩
        case round =>
          obtain ⟨k, ⟨yk, ym, yl⟩, rfl, hk, TT, z0, z1, z2, z3⟩ := hrel
          have nbx : bx ≠ g6 := Ne.symm nb
          obtain ⟨l1, l2, l3, l4⟩ := row_look TT.out.go
          have qe := TT.out.qe
          have kl : k ≤ G.length := by omega
          obtain ⟨o0, o1, o2⟩ := srcs_look (mid_at (y := ((yk, ym, yl) : Sr)) kl)
          have u0 := l1 _ _ o0
          have u1 := l1 _ _ o1
          have u2 := l1 _ _ o2
          have f0 := l2 (k * 3)
          have f1 := l2 (k * 3 + 1)
          have f2 := l2 (k * 3 + 2)
          dsimp only at u0 u1 u2
          have kq1 : (k : Int) < (q : Int) + 1 := by omega
          have kq0 : (0 : Int) ≤ (k : Int) := by omega
          have ktn : (k : Int).toNat = k := by omega
          have kq2 : k < q + 1 := by omega
          clear o0 o1 o2 qe
          by_cases k0 : k = 0
          · subst k0
            go_wp2_with fail
            go_quiet (fail)
            have T4 := hide (TT.out.later (below_drewN (Below.refl _ _) nq))
            have z0' : (wr.drewN nq).cell? ⟨bx, 0, none⟩ = some (.string sk) := z0
            have z1' : (wr.drewN nq).cell? ⟨bx, 1, none⟩ = some (.int .i64 sm) := z1
            have z2' : (wr.drewN nq).cell? ⟨bx, 2, none⟩ = some (.int .i64 sl) := z2
            have z3' : bx < (wr.drewN nq).heap.size := z3
            generalize wr.drewN nq = V4 at T4 z0' z1' z2' z3' ⊢
            clear u0 u1 u2 f0 f1 f2 z0 z1 z2 z3 l1 l2 
            obtain ⟨m1, m2, m3, m4⟩ := row_look T4.out.go
            obtain ⟨o0, o1, o2⟩ := srcs_look (mid_at (y := ((yk, ym, yl) : Sr)) kl)
            have u0 := m1 _ _ o0
            have u1 := m1 _ _ o1
            have u2 := m1 _ _ o2
            have f0 := m2 (0 * 3)
            have f1 := m2 (0 * 3 + 1)
            have f2 := m2 (0 * 3 + 2)
            dsimp only at u0 u1 u2
            clear o0 o1 o2
            have FF : Hid (TR w A idle now (i + 1) _ (.slice A5 p c5) (.slice (some ⟨g6, 0, none⟩) (q + 1) c7) p (q + 1) (G.take 0 ++ A[i] :: G.drop 0)) := hide (by
              have pt := T4.out.put (sk, sm, sl)
              rw [HX.out] at pt
              exact pt.fin HA.out (by rw [← HX.out]; simp only; omega) (fun h => absurd h (by omega)))
            rw [← HX.out] at FF
            clear m1 m2
            go_wp2_with fail
            go_roundw
            case rel => exact ⟨i + 1, p, q + 1, A5, some ⟨g6, 0, none⟩, c5, c7, _, rfl, rfl, by go_num, by omega, FF⟩
            case measure => (first | (simp [intOf]; done) | (simp [intOf]; omega))
          · obtain ⟨j, rfl⟩ : ∃ j, k = j + 1 := ⟨k - 1, by omega⟩
            have kp : decide ((0 : Int) < ((j + 1 : Nat) : Int)) = true := by rw [decide_eq_true_eq]; omega
            have kp2 : decide (0 < j + 1) = true := by rw [decide_eq_true_eq]; omega
            have w1 : IntKind.i64.wrap (((j + 1 : Nat) : Int) - 1) = (j : Int) := by rw [IntKind.wrap_i64]; omega
            have w2 : ((j + 1 : Nat) : Int) - 1 = (j : Int) := by omega
            have w3' : IntKind.i64.wrap ((j : Int) + 1 - 1) = (j : Int) := by rw [IntKind.wrap_i64]; omega
            have w4 : (j : Int) + 1 - 1 = (j : Int) := by omega
            have jG : j < G.length := by have := TT.out.qe; omega
            have ml := mid_lt (y := ((yk, ym, yl) : Sr)) kl (show j < j + 1 by omega)
            rw [List.getElem?_eq_getElem jG] at ml
            have MLH := hide ml
            obtain ⟨p0, p1, p2⟩ := srcs_look ml
            have v0 := l1 _ _ p0
            have v1 := l1 _ _ p1
            have v2 := l1 _ _ p2
            obtain ⟨⟨gk, gm, gs⟩, hgj⟩ : ∃ x, x = G[j] := ⟨_, rfl⟩
            have HG := hide hgj
            rw [← hgj] at v0 v1 v2
            dsimp only at v0 v1 v2
            have jb1 : (j : Int) < (q : Int) + 1 := by omega
            have jb0 : (0 : Int) ≤ (j : Int) := by omega
            have jtn : (j : Int).toNat = j := by omega
            clear ml p0 p1 p2 hgj
            by_cases c : sl < gs
            · have g4 := decide_eq_true c
              go_wp2_with fail
              go_quiet (fail)
              have T4 := hide (TT.out.later (below_drewN (Below.refl _ _) nq))
              have z0' : (wr.drewN nq).cell? ⟨bx, 0, none⟩ = some (.string sk) := z0
              have z1' : (wr.drewN nq).cell? ⟨bx, 1, none⟩ = some (.int .i64 sm) := z1
              have z2' : (wr.drewN nq).cell? ⟨bx, 2, none⟩ = some (.int .i64 sl) := z2
              have z3' : bx < (wr.drewN nq).heap.size := z3
              generalize wr.drewN nq = V4 at T4 z0' z1' z2' z3' ⊢
              clear u0 u1 u2 f0 f1 f2 z0 z1 z2 z3 l1 l2 v0 v1 v2
              obtain ⟨m1, m2, m3, m4⟩ := row_look T4.out.go
              obtain ⟨o0, o1, o2⟩ := srcs_look (mid_at (y := ((yk, ym, yl) : Sr)) kl)
              have u0 := m1 _ _ o0
              have u1 := m1 _ _ o1
              have u2 := m1 _ _ o2
              have f0 := m2 ((j + 1) * 3)
              have f1 := m2 ((j + 1) * 3 + 1)
              have f2 := m2 ((j + 1) * 3 + 2)
              dsimp only at u0 u1 u2
              clear o0 o1 o2
              obtain ⟨p0, p1, p2⟩ := srcs_look (by have m := MLH.out; rw [← HG.out] at m; exact m)
              have v0 := m1 _ _ p0
              have v1 := m1 _ _ p1
              have v2 := m1 _ _ p2
              dsimp only at v0 v1 v2
              have SH : Hid (TG w A idle now i il _ (.slice A5 p c5) (.slice (some ⟨g6, 0, none⟩) (q + 1) c7) p q G j (gk, gm, gs)) := hide (by
                have t := T4.out.put (gk, gm, gs)
                exact t.shift jG HG.out (by rw [← HG.out, ← HX.out]; exact c))
              clear m1 m2 p0 p1 p2
              go_wp2_with fail
              go_roundw
              case rel => exact ⟨j, (gk, gm, gs), by first | rfl | go_num, by omega, SH, by simpa [go_sem, nbx] using z0', by simpa [go_sem, nbx] using z1', by simpa [go_sem, nbx] using z2', by simpa [go_sem] using z3'⟩
              case measure => (first | (simp [intOf]; done) | (simp [intOf]; omega))
            · have g4 := decide_eq_false c
              go_wp2_with fail
              go_quiet (fail)
              have T4 := hide (TT.out.later (below_drewN (Below.refl _ _) nq))
              have z0' : (wr.drewN nq).cell? ⟨bx, 0, none⟩ = some (.string sk) := z0
              have z1' : (wr.drewN nq).cell? ⟨bx, 1, none⟩ = some (.int .i64 sm) := z1
              have z2' : (wr.drewN nq).cell? ⟨bx, 2, none⟩ = some (.int .i64 sl) := z2
              have z3' : bx < (wr.drewN nq).heap.size := z3
              generalize wr.drewN nq = V4 at T4 z0' z1' z2' z3' ⊢
              clear u0 u1 u2 f0 f1 f2 z0 z1 z2 z3 l1 l2 v0 v1 v2
              obtain ⟨m1, m2, m3, m4⟩ := row_look T4.out.go
              obtain ⟨o0, o1, o2⟩ := srcs_look (mid_at (y := ((yk, ym, yl) : Sr)) kl)
              have u0 := m1 _ _ o0
              have u1 := m1 _ _ o1
              have u2 := m1 _ _ o2
              have f0 := m2 ((j + 1) * 3)
              have f1 := m2 ((j + 1) * 3 + 1)
              have f2 := m2 ((j + 1) * 3 + 2)
              dsimp only at u0 u1 u2
              clear o0 o1 o2
              have FF : Hid (TR w A idle now (i + 1) _ (.slice A5 p c5) (.slice (some ⟨g6, 0, none⟩) (q + 1) c7) p (q + 1) (G.take (j + 1) ++ A[i] :: G.drop (j + 1))) := hide (by
                have pt := T4.out.put (sk, sm, sl)
                rw [HX.out] at pt
                exact pt.fin HA.out (by rw [← HX.out]; simp only; omega) (fun _ hg => by simp only [Nat.add_sub_cancel]; rw [← HG.out, ← HX.out]; simp only; omega))
              rw [← HX.out] at FF
              clear m1 m2
              go_wp2_with fail
              go_roundw
              case rel => exact ⟨i + 1, p, q + 1, A5, some ⟨g6, 0, none⟩, c5, c7, _, rfl, rfl, by go_num, by omega, FF⟩
              case measure => (first | (simp [intOf]; done) | (simp [intOf]; omega))
    · obtain rfl : i = n := by omega
      have d1 : decide ((i : Int) < (i : Int)) = false := by rw [decide_eq_false_iff_not]; omega
      have d2 : decide (i < i) = false := by rw [decide_eq_false_iff_not]; omega
      obtain ⟨wo, rfl⟩ : ∃ wo, wo = wr := ⟨_, rfl⟩
      have R0 := hide (H.out.later T.out.bl)
      have f3 := R0.out.r.frz 3
      have et : A.take i = A := by rw [HN.out, List.take_length]
      have t0 := T.out
      obtain ⟨ts, tpe, tg, tq, tapt, tnil, tpr, tpm, tbl⟩ := t0
      rw [et] at ts tpe tpm
      have C1 : Hid (Chg (· = rb) wo (wo.setCell ⟨rb, 3, none⟩ (.slice A5 p c5))) := Chg.set _ rfl
      have R1 : Hid (RO B (wo.setCell ⟨rb, 3, none⟩ (.slice A5 p c5)) rb lim late idle (.slice A5 p c5) (stayS A idle now) mark) := by
        refine ⟨R0.out.r.set 3 _, ?_, fun e => tnil (by rw [tpe, e]; rfl)⟩
        have st2 := own_mono' (chg_row ts C1.out (fun k e (q : k = rb) => R0.out.r.ne_row ts (by decide) (q ▸ e))) hB
        rw [tpe] at st2 ⊢
        exact st2
      have G1 : Hid (IsS (wo.setCell ⟨rb, 3, none⟩ (.slice A5 p c5)) A6 G) := by
        have g2 := chg_row tg C1.out (fun k e (q : k = rb) => R0.out.r.ne_row tg (by decide) (q ▸ e))
        obtain ⟨a2, c2', e2, h2⟩ := isS_own g2 tq
        injection e2 with e2
        subst e2
        exact h2
      have GE : Hid (G.map (·.1) = goneN A idle now) := goneN_of HA.out tpr tpm
      have TQ := hide tq
      clear ts tpe tg tq tapt tnil tpr tpm tbl et
      go_wp2_with fail
      generalize wo.setCell ⟨rb, 3, none⟩ (.slice A5 p c5) = W1 at C1 R1 G1 ⊢
      clear c3 c2 f3
      go_loopw [10, 11] (fun s10 s11 wr5 => ∃ (j : Nat) (A10 : Option Addr) (c10 : Nat), s10 = .slice A10 j c10 ∧ s11 = .int .i64 (j : Int) ∧ j ≤ q ∧ Hid (wr5.ownsRow W1.heap.size 9 1 (.slice A10 j c10) j ((G.take j).map fun s => Value.string s.1)) ∧ Hid (Below W1.heap.size W1 wr5)) (fun _ s11 _ => q - (intOf s11).toNat)
      case atStart => exact ⟨0, none, 0, rfl, rfl, by omega, World.ownsRow_nil _ _ _ _, Below.refl _ _⟩
      case round =>
        obtain ⟨j, A10, c10, rfl, rfl, hj, O10, B10⟩ := hrel
        by_cases hjq : j < q
        · have f1 : decide ((j : Int) < (q : Int)) = true := by rw [decide_eq_true_eq]; omega
          have f2 : decide (j < q) = true := by rw [decide_eq_true_eq]; omega
          have jG : j < G.length := by have := TQ.out; omega
          obtain ⟨g6, o6, rfl, gl6, x0, _, _⟩ := (G1.out.later B10.out).at_ jG
          obtain ⟨⟨gk, gm, gs⟩, hgj⟩ : ∃ x, x = G[j] := ⟨_, rfl⟩
          have NX : Hid ((G.take (j + 1)).map (fun s => Value.string s.1) = (G.take j).map (fun s => Value.string s.1) ++ [.string gk]) := by
            show _ = _
            rw [List.take_add_one, List.getElem?_eq_getElem jG, List.map_append, ← hgj]; rfl
          rw [← hgj] at x0
          dsimp only at x0
          clear hgj
          go_wp2_with (first
          | (at_builtin
             refine wpList_append_own_at _ rfl _ _ 78 rfl W1.heap.size 9 i1 (.string ByteArray.empty) 1 16 Try.underlying78 hi1.out.1 hi1.out.2.1 hi1.out.2.2.1 hi1.out.2.2.2 ?a1 ?a2 (.slice A10 j c10) j ((G.take j).map fun s => Value.string s.1) ?a3 ?a4 ⟨wr.heap.size, 0, none⟩ 1 1 [.string gk] ?a5 ?a6 ?a7 ?a8 ?a9 ?b1 ?b2 ?_
             case a1 => rfl
             case a2 => decide
             case a3 => rfl
             case a4 => exact O10.out.alloc _
             case a5 => rfl
             case a6 => rfl
             case a7 => exact cells_new' _ _ _ _ (by simp)
             case a8 => exact one_txt
             case a9 => (unfold maxLen; omega)
             case b1 => omega
             case b2 => (have := B10.out.size; simp; omega)
             intro v6 w6 hown hgrow _ hat
             obtain ⟨A11, c11, rfl, _, _⟩ := own_form hown
             have O11 : Hid (w6.ownsRow W1.heap.size 9 1 (.slice A11 (j + 1) c11) (j + 1) ((G.take (j + 1)).map fun s => Value.string s.1)) := (by rw [NX.out]; exact hown)
             have B11 : Hid (Below W1.heap.size W1 w6) := hide (B10.out.trans ((Chg.grown2 (w := wr) (S := fun k' => (Value.slice A10 j c10).ownBlock = some k') hgrow rfl rfl rfl rfl (fun _ e => e)).below (fun k' e => (own_old O10.out e).1) B10.out.size))
             clear hown hgrow hat))
          go_roundw
          case rel => exact ⟨j + 1, A11, c11, rfl, by go_num, by omega, O11, B11⟩
          case measure => (first | (simp [intOf]; done) | (simp [intOf]; omega))
        · obtain rfl : j = q := by omega
          have f1 : decide ((j : Int) < (j : Int)) = false := by rw [decide_eq_false_iff_not]; omega
          have f2 : decide (j < j) = false := by rw [decide_eq_false_iff_not]; omega
          have kr := reckon_fin (R1.out.later B10.out) (Nat.le_trans (List.length_filter_le _ _) (by have := HN.out; omega)) (fun t ht => (HS.out t (List.mem_filter.1 ht).1).1) hla
          go_wp2_with (go_at_call 68; refine kr.mono ?_; rintro e w8 ⟨rfl, R8, C8⟩)
          go_returns
          have on := chg_row O10.out C8 (fun k e (q : k = rb) => (R1.out.later B10.out).r.ne_row O10.out (by decide) (q ▸ e))
          rw [TQ.out, List.take_length, show (G.map fun s => Value.string s.1) = (G.map (·.1)).map Value.string from by rw [List.map_map]; rfl, GE.out] at on
          have lg : G.length = (goneN A idle now).length := by rw [← GE.out, List.length_map]
          rw [lg] at on
          exact ⟨_, .slice A10 (goneN A idle now).length c10, by rw [TQ.out, lg]; rfl, own_mono' on (Nat.le_trans T.out.bl.size C1.out.size), R8, (((Chg.of_below T.out.bl).trans C1.out (fun _ _ q => q)).trans (Chg.of_below B10.out) (fun _ _ q => q)).trans C8 (fun _ _ q => q)⟩
set_option maxRecDepth 100000 in
theorem rtick_bad {B : Nat} {w : World} {rb lim : Nat} {late idle : Int} {s : Value} {A : List Sr} {mark : Int} (h : RO B w rb lim late idle s A mark) (now : Int) (hn : secB now = false) :
    Calls Try.prog 59 #[.pointer (some ⟨rb, 0, none⟩), .int .i64 now] w (TickR B w rb lim late idle s A mark []) := by
  have k2 := rsecond11 now
  rw [hn] at k2
  have H := hide h
  clear h hn
  go_enter Try.func59, Try.ntmps59
  go_wp2_with (go_at_call 57; refine (k2 _).mono ?_; rintro e w' ⟨rfl, rfl⟩)
  go_returns
  exact ⟨_, _, rfl, World.ownsRow_nil _ _ _ _, H.out, Chg.refl _ _⟩
theorem rtick_any {B : Nat} {w : World} {rb lim : Nat} {late idle : Int} {s : Value} {A : List Sr} {mark : Int} (h : RO B w rb lim late idle s A mark) (hB : B ≤ w.heap.size) (hA : Names A) (hl : A.length ≤ 1024) (hs : ∀ s ∈ A, (0 ≤ s.2.1 ∧ s.2.1 ≤ 1099511627775) ∧ (0 ≤ s.2.2 ∧ s.2.2 ≤ 1099511627775)) (hla : 0 ≤ late ∧ late ≤ 1099511627775) (hid : 1 ≤ idle ∧ idle ≤ 1099511627775) (now : Int) :
    Calls Try.prog 59 #[.pointer (some ⟨rb, 0, none⟩), .int .i64 now] w (TickR B w rb lim late idle s (if secB now then stayS A idle now else A) (if secB now then markS (stayS A idle now) late mark else mark) (if secB now then goneN A idle now else [])) := by
  cases hn : secB now with
  | false => exact rtick_bad h now hn
  | true => exact rtick_spec h hB hA hl hs hla hid now ((secB_iff now).1 hn)
end Go.Proofs.Ytbnlhjooimppeaa
/- source: one call held against the reference. -/
namespace Go.Proofs.Ytbnlhjooimppeaa
set_option linter.unusedVariables false
set_option linter.unusedSimpArgs false
open Go.RowKit W Go.Maps
section
variable {B B' : Nat} {w w' : World} {b : Tb} {rb lim : Nat} {late idle : Int} {v1 v2 s : Value} {A A' : List Sr} {r1 r2 : List En} {mark mark' : Int}
/-- What a table's call leaves of a list of texts of one's own. -/
theorem row_tab {base m : Nat} {sv : Value} {xs : List Value} (o : w.ownsRow base 9 1 sv m xs) (t : TM B w b lim late idle v1 v2 A r1 r2 mark) (c : Chg (tS b v1 v2) w w') : w'.ownsRow base 9 1 sv m xs := by
  refine chg_row o c ?_
  rintro k e (q | q | q | q)
  · subst q; exact t.mem.i.ne_row o (by decide) e
  · subst q; exact row_ne_map o t.mem.m e
  · exact t.mem.qa1.ne_own o (by decide) (by decide) k q e
  · exact t.mem.qa2.ne_own o (by decide) (by decide) k q e
theorem row_ref {base m : Nat} {sv : Value} {xs : List Value} (o : w.ownsRow base 9 1 sv m xs) (r : RO B w rb lim late idle s A mark) (c : Chg (· = rb) w w') : w'.ownsRow base 9 1 sv m xs :=
  chg_row o c (fun k e (q : k = rb) => r.r.ne_row o (by decide) (q ▸ e))
/-- The box of a call's description. -/
structure BoxO (w : World) (bx : Nat) (kd : Int) (nm : ByteArray) (t n : Int) : Prop where
  c0 : w.cell? ⟨bx, 0, none⟩ = some (.int .i64 kd)
  c1 : w.cell? ⟨bx, 1, none⟩ = some (.string nm)
  c2 : w.cell? ⟨bx, 2, none⟩ = some (.int .i64 t)
  c3 : w.cell? ⟨bx, 3, none⟩ = some (.int .i64 n)
  lt : bx < w.heap.size
theorem BoxO.chg {S : Nat → Prop} {bx : Nat} {kd : Int} {nm : ByteArray} {t n : Int} (h : BoxO w bx kd nm t n) (c : Chg S w w') (f : ¬ S bx) : BoxO w' bx kd nm t n :=
  ⟨(c.cell h.lt f).trans h.c0, (c.cell h.lt f).trans h.c1, (c.cell h.lt f).trans h.c2, (c.cell h.lt f).trans h.c3, Nat.lt_of_lt_of_le h.lt c.size⟩
theorem BoxO.later {bx : Nat} {kd : Int} {nm : ByteArray} {t n : Int} (h : BoxO w bx kd nm t n) (c : Below w.heap.size w w') : BoxO w' bx kd nm t n := h.chg (S := fun _ => False) (Chg.of_below c) (fun q => q)
/-- What is told of a step. -/
def StepP (W : World) (b : Tb) (rb lim : Nat) (late idle : Int) (e : Ending) (w' : World) : Prop :=
  e = .returned (.bool true) ∧ ∃ v1 v2 s A r1 r2 mark, NJ W b rb lim late idle w' v1 v2 s A r1 r2 mark
theorem TM.hear_in (t : TM B w b lim late idle v1 v2 A r1 r2 mark) : A.length ≤ 1024 ∧ (∀ s ∈ A, (0 ≤ s.2.1 ∧ s.2.1 ≤ 1099511627775) ∧ (0 ≤ s.2.2 ∧ s.2.2 ≤ 1099511627775)) :=
  ⟨by have := t.mem.qa1.le; have := t.pl.lim; have := t.pl.s1.len; omega, fun s hs => ⟨(t.pl.sec s hs).1, (t.pl.sec s hs).2.1⟩⟩
end
/-- In the midst of a step that hears or ticks: what both hold, and the box; tA: has the table been called, rA: has the reference. -/
structure MJ (W : World) (b : Tb) (rb lim : Nat) (late idle : Int) (bx : Nat) (kd : Int) (nm : ByteArray) (t n : Int) (wr : World) (v1 v2 s : Value) (A : List Sr) (mark : Int) (A' : List Sr) (mark' : Int) (r1 r2 : List En) : Prop where
  tm : TM W.heap.size wr b lim late idle v1 v2 A r1 r2 mark
  ro : RO W.heap.size wr rb lim late idle s A' mark'
  bl : Below W.heap.size W wr
  bo : BoxO wr bx kd nm t n
  nt : ∀ k, tS b v1 v2 k → k ≠ bx
section
variable {W : World} {b : Tb} {rb lim : Nat} {late idle : Int} {bx : Nat} {kd : Int} {nm : ByteArray} {t n : Int} {wr w1 w' : World} {v1 v2 s : Value} {A A1 A2 : List Sr} {mark mark1 mark2 : Int} {r1 r2 : List En}
theorem MJ.later (h : MJ W b rb lim late idle bx kd nm t n wr v1 v2 s A mark A1 mark1 r1 r2) (k : Below wr.heap.size wr w1) : MJ W b rb lim late idle bx kd nm t n w1 v1 v2 s A mark A1 mark1 r1 r2 :=
  ⟨h.tm.later k, h.ro.later k, h.bl.trans (k.mono h.bl.size), h.bo.later k, h.nt⟩
theorem MJ.tab {v1' v2' : Value} {r1' r2' : List En} (h : MJ W b rb lim late idle bx kd nm t n wr v1 v2 s A mark A1 mark1 r1 r2) (q : TM W.heap.size w' b lim late idle v1' v2' A2 r1' r2' mark2) (c : Chg (tS b v1 v2) wr w') (m1 : Mvd wr v1 v1') (m2 : Mvd wr v2 v2') : MJ W b rb lim late idle bx kd nm t n w' v1' v2' s A2 mark2 A1 mark1 r1' r2' := by
  refine ⟨q, h.ro.tab h.tm c, h.bl.trans (c.below (fun k' q => (h.tm.old k' q).1) h.bl.size), h.bo.chg c (fun e => h.nt bx e rfl), ?_⟩
  have lt := h.bo.lt
  rintro k (z | z | z | z)
  · exact h.nt k (.inl z)
  · exact h.nt k (.inr (.inl z))
  · rcases z with z | z | z
    · exact h.nt k (.inr (.inr (.inl (.inl z))))
    · exact h.nt k (.inr (.inr (.inl (.inr (.inl z)))))
    · rcases m1 k z with y | y
      · exact h.nt k (.inr (.inr (.inl (.inr (.inr y)))))
      · omega
  · rcases z with z | z | z
    · exact h.nt k (.inr (.inr (.inr (.inl z))))
    · exact h.nt k (.inr (.inr (.inr (.inr (.inl z)))))
    · rcases m2 k z with y | y
      · exact h.nt k (.inr (.inr (.inr (.inr (.inr y)))))
      · omega
theorem MJ.ref {s' : Value} (h : MJ W b rb lim late idle bx kd nm t n wr v1 v2 s A mark A1 mark1 r1 r2) (hrb : W.heap.size ≤ rb) (ne : rb ≠ bx) (q : RO W.heap.size w' rb lim late idle s' A2 mark2) (c : Chg (· = rb) wr w') : MJ W b rb lim late idle bx kd nm t n w' v1 v2 s' A mark A2 mark2 r1 r2 :=
  ⟨h.tm.ref h.ro c, q, h.bl.trans (c.below (fun k' (q : k' = rb) => by rw [q]; exact hrb) h.bl.size), h.bo.chg c (fun e => ne e.symm), h.nt⟩
theorem MJ.nj (h : MJ W b rb lim late idle bx kd nm t n wr v1 v2 s A mark A mark r1 r2) : NJ W b rb lim late idle wr v1 v2 s A r1 r2 mark := ⟨h.tm, h.ro, h.bl⟩
end
end Go.Proofs.Ytbnlhjooimppeaa
/- source: step: Hear. -/
namespace Go.Proofs.Ytbnlhjooimppeaa
set_option linter.unusedVariables false
set_option linter.unusedSimpArgs false
open Go.RowKit W Go.Maps
section
variable {W : World} {b : Tb} {rb lim : Nat} {late idle : Int} {bx : Nat} {kd : Int} {nm : ByteArray} {t n : Int} {wr w w1 w' : World} {v1 v2 s : Value} {A A1 A2 : List Sr} {mark mark1 mark2 : Int} {r1 r2 : List En}
theorem hp_M (M : MJ W b rb lim late idle bx kd nm t n wr v1 v2 s A mark A1 mark1 r1 r2) (xs : nm.size ≤ maxLen) : Calls Try.prog 39 #[.pointer (some ⟨b.tb, 0, none⟩), .string nm, .int .i64 t, .int .i64 n] wr fun e w' =>
    ∃ v1' v2' r1' r2', e = .returned (.int .i64 (heC lim A nm t n)) ∧ Hid (MJ W b rb lim late idle bx kd nm t n w' v1' v2' s (heA lim A nm t n) (heM lim late A mark nm t n) A1 mark1 r1' r2') := by
  refine (thear_spec M.tm M.bl.size nm xs t n).mono ?_
  rintro e w' ⟨v1', v2', r1', r2', rfl, q, c, m1, m2⟩
  exact ⟨v1', v2', r1', r2', rfl, M.tab q c m1 m2⟩
theorem hr_M (M : MJ W b rb lim late idle bx kd nm t n wr v1 v2 s A mark A1 mark1 r1 r2) (hrb : W.heap.size ≤ rb) (ne : rb ≠ bx) (hA : Names A1) (hl : A1.length ≤ 1024) (hs : ∀ s ∈ A1, (0 ≤ s.2.1 ∧ s.2.1 ≤ 1099511627775) ∧ (0 ≤ s.2.2 ∧ s.2.2 ≤ 1099511627775)) (hlim : 0 < lim) :
    Calls Try.prog 41 #[.pointer (some ⟨rb, 0, none⟩), .string nm, .int .i64 t, .int .i64 n] wr fun e w' =>
      ∃ s', e = .returned (.int .i64 (heC lim A1 nm t n)) ∧ Hid (MJ W b rb lim late idle bx kd nm t n w' v1 v2 s' A mark (heA lim A1 nm t n) (heM lim late A1 mark1 nm t n) r1 r2) := by
  refine (rhear_spec M.ro M.bl.size hA hl hs M.tm.pl.lt hlim nm t n).mono ?_
  rintro e w' ⟨s', rfl, q, c, _⟩
  exact ⟨s', rfl, M.ref hrb ne q c⟩
theorem tp_M (M : MJ W b rb lim late idle bx kd nm t n wr v1 v2 s A mark A1 mark1 r1 r2) : Calls Try.prog 38 #[.pointer (some ⟨b.tb, 0, none⟩), .int .i64 n] wr fun e w' =>
    ∃ v1' v2' r1' r2' sv, e = .returned sv ∧ Hid (w'.ownsRow wr.heap.size 9 1 sv (if secB n then goneN A idle n else []).length ((if secB n then goneN A idle n else []).map Value.string)) ∧ Hid (MJ W b rb lim late idle bx kd nm t n w' v1' v2' s (if secB n then stayS A idle n else A) (if secB n then markS (stayS A idle n) late mark else mark) A1 mark1 r1' r2') ∧ Hid (Chg (tS b v1 v2) wr w') := by
  refine (ttick_spec M.tm M.bl.size n).mono ?_
  rintro e w' ⟨v1', v2', r1', r2', sv, rfl, o, q, c, m1, m2⟩
  exact ⟨v1', v2', r1', r2', sv, rfl, o, M.tab q c m1 m2, c⟩
theorem tr_M (M : MJ W b rb lim late idle bx kd nm t n wr v1 v2 s A mark A1 mark1 r1 r2) (hrb : W.heap.size ≤ rb) (ne : rb ≠ bx) (hA : Names A1) (hl : A1.length ≤ 1024) (hs : ∀ s ∈ A1, (0 ≤ s.2.1 ∧ s.2.1 ≤ 1099511627775) ∧ (0 ≤ s.2.2 ∧ s.2.2 ≤ 1099511627775)) :
    Calls Try.prog 59 #[.pointer (some ⟨rb, 0, none⟩), .int .i64 n] wr fun e w' =>
      ∃ s' sv, e = .returned sv ∧ Hid (w'.ownsRow wr.heap.size 9 1 sv (if secB n then goneN A1 idle n else []).length ((if secB n then goneN A1 idle n else []).map Value.string)) ∧ Hid (MJ W b rb lim late idle bx kd nm t n w' v1 v2 s' A mark (if secB n then stayS A1 idle n else A1) (if secB n then markS (stayS A1 idle n) late mark1 else mark1) r1 r2) ∧ Hid (Chg (· = rb) wr w') := by
  refine (rtick_any M.ro M.bl.size hA hl hs M.tm.pl.lt M.tm.pl.id n).mono ?_
  rintro e w' ⟨s', sv, rfl, o, q, c⟩
  exact ⟨s', sv, rfl, o, M.ref hrb ne q c, c⟩
theorem MJ.start (N : NJ W b rb lim late idle w v1 v2 s A r1 r2 mark) {V : World} (hV : V = w.alloc (.cells #[.int .i64 kd, .string nm, .int .i64 t, .int .i64 n] 73)) : MJ W b rb lim late idle w.heap.size kd nm t n V v1 v2 s A mark A mark r1 r2 := by
  have bl : Below w.heap.size w V := by rw [hV]; exact (Below.refl _ _).alloc (Nat.le_refl _) _
  refine ⟨N.tm.later bl, N.ro.later bl, N.bl.trans (bl.mono N.bl.size), ⟨?_, ?_, ?_, ?_, ?_⟩, fun k q e => by have := (N.tm.old k q).2; omega⟩ <;> (rw [hV]; simp [go_sem])
set_option maxRecDepth 100000 in
set_option maxHeartbeats 8000000 in
theorem step_hear (N : NJ W b rb lim late idle w v1 v2 s A r1 r2 mark) (hrb : W.heap.size ≤ rb) (hlim : 0 < lim) (nm : ByteArray) (t n : Int) (xs : nm.size ≤ maxLen) :
    Calls Try.prog 34 #[.pointer (some ⟨b.tb, 0, none⟩), .pointer (some ⟨rb, 0, none⟩), .agg #[.int .i64 1, .string nm, .int .i64 t, .int .i64 n]] w (StepP W b rb lim late idle) := by
  have M0 : Hid (∀ V, V = w.alloc (.cells #[.int .i64 1, .string nm, .int .i64 t, .int .i64 n] 73) → MJ W b rb lim late idle w.heap.size 1 nm t n V v1 v2 s A mark A mark r1 r2) := fun V hV => MJ.start N hV
  have ne : rb ≠ w.heap.size := Nat.ne_of_lt N.ro.r.lt
  obtain ⟨hl, hs⟩ := N.tm.hear_in
  have HL := hide hl
  have HS := hide hs
  have HA : Hid (Names A) := N.tm.pl.names
  obtain ⟨C, hC⟩ : ∃ C, C = heC lim A nm t n := ⟨_, rfl⟩
  obtain ⟨A', hA'⟩ : ∃ A', A' = heA lim A nm t n := ⟨_, rfl⟩
  obtain ⟨mk, hmk⟩ : ∃ mk, mk = heM lim late A mark nm t n := ⟨_, rfl⟩
  have KP : Hid (∀ V s1 A1 m1 v1' v2' r1' r2', MJ W b rb lim late idle w.heap.size 1 nm t n V v1' v2' s1 A mark A1 m1 r1' r2' → Calls Try.prog 39 #[.pointer (some ⟨b.tb, 0, none⟩), .string nm, .int .i64 t, .int .i64 n] V fun e w' => ∃ v1' v2' r1' r2', e = .returned (.int .i64 C) ∧ Hid (MJ W b rb lim late idle w.heap.size 1 nm t n w' v1' v2' s1 A' mk A1 m1 r1' r2')) := by
    intro V s1 A1 m1 v1' v2' r1' r2' M
    rw [hC, hA', hmk]
    exact hp_M M xs
  have KR : Hid (∀ V A2 m2 v1' v2' r1' r2', MJ W b rb lim late idle w.heap.size 1 nm t n V v1' v2' s A2 m2 A mark r1' r2' → Calls Try.prog 41 #[.pointer (some ⟨rb, 0, none⟩), .string nm, .int .i64 t, .int .i64 n] V fun e w' => ∃ s', e = .returned (.int .i64 C) ∧ Hid (MJ W b rb lim late idle w.heap.size 1 nm t n w' v1' v2' s' A2 m2 A' mk r1' r2')) := by
    intro V A2 m2 v1' v2' r1' r2' M
    rw [hC, hA', hmk]
    exact hr_M M hrb ne HA.out HL.out HS.out hlim
  have cc : (C == C) = true := by simp
  clear N hl hs hC hA' hmk
  go_enter Try.func34, Try.ntmps34
  go_upto_region 3 with fail
  refine abs_wp (fun V => Hid (MJ W b rb lim late idle w.heap.size 1 nm t n V v1 v2 s A mark A mark r1 r2)) (hide (M0.out _ rfl)) ?_
  rintro V M1
  obtain ⟨bx, hbx⟩ : ∃ bx, bx = w.heap.size := ⟨_, rfl⟩
  rw [← hbx] at M1 KP KR ne ⊢
  clear hbx M0
  have S0 : V.cell? ⟨bx, 1, none⟩ = some (.string nm) ∧ V.cell? ⟨bx, 2, none⟩ = some (.int .i64 t) ∧ V.cell? ⟨bx, 3, none⟩ = some (.int .i64 n) := ⟨M1.out.bo.c1, M1.out.bo.c2, M1.out.bo.c3⟩
  have lbx := M1.out.bo.lt
  go_region_held3 (fun w' => w'.cell? ⟨bx, 1, none⟩ = some (.string nm) ∧ w'.cell? ⟨bx, 2, none⟩ = some (.int .i64 t) ∧ w'.cell? ⟨bx, 3, none⟩ = some (.int .i64 n))
    (first | exact S0 | exact S4 | exact S5)
    (first
      | (go_at_call 39; (first
          | ((with_reducible refine Calls.mono (KP.out _ s A mark v1 v2 r1 r2 (M1.out.later (by first | exact Below.refl _ _ | exact (Below.refl _ _).drew | exact below_drewN (Below.refl _ _) _))) ?_); rintro e w4 ⟨v14, v24, r14, r24, rfl, M4⟩; have S4 : w4.cell? ⟨bx, 1, none⟩ = some (.string nm) ∧ w4.cell? ⟨bx, 2, none⟩ = some (.int .i64 t) ∧ w4.cell? ⟨bx, 3, none⟩ = some (.int .i64 n) := ⟨M4.out.bo.c1, M4.out.bo.c2, M4.out.bo.c3⟩)
          | ((with_reducible refine Calls.mono (KP.out _ s5 A' mk v1 v2 r1 r2 (M5.out.later (by first | exact Below.refl _ _ | exact (Below.refl _ _).drew | exact below_drewN (Below.refl _ _) _))) ?_); rintro e w6 ⟨v16, v26, r16, r26, rfl, M6⟩; have S4 : w6.cell? ⟨bx, 1, none⟩ = some (.string nm) ∧ w6.cell? ⟨bx, 2, none⟩ = some (.int .i64 t) ∧ w6.cell? ⟨bx, 3, none⟩ = some (.int .i64 n) := ⟨M6.out.bo.c1, M6.out.bo.c2, M6.out.bo.c3⟩; have M9 := M6)))
      | (go_at_call 41; (first
          | ((with_reducible refine Calls.mono (KR.out _ A mark v1 v2 r1 r2 (M1.out.later (by first | exact Below.refl _ _ | exact (Below.refl _ _).drew | exact below_drewN (Below.refl _ _) _))) ?_); rintro e w5 ⟨s5, rfl, M5⟩; have S5 : w5.cell? ⟨bx, 1, none⟩ = some (.string nm) ∧ w5.cell? ⟨bx, 2, none⟩ = some (.int .i64 t) ∧ w5.cell? ⟨bx, 3, none⟩ = some (.int .i64 n) := ⟨M5.out.bo.c1, M5.out.bo.c2, M5.out.bo.c3⟩)
          | ((with_reducible refine Calls.mono (KR.out _ A' mk v14 v24 r14 r24 (M4.out.later (by first | exact Below.refl _ _ | exact (Below.refl _ _).drew | exact below_drewN (Below.refl _ _) _))) ?_); rintro e w7 ⟨s7, rfl, M7⟩; have S5 : w7.cell? ⟨bx, 1, none⟩ = some (.string nm) ∧ w7.cell? ⟨bx, 2, none⟩ = some (.int .i64 t) ∧ w7.cell? ⟨bx, 3, none⟩ = some (.int .i64 n) := ⟨M7.out.bo.c1, M7.out.bo.c2, M7.out.bo.c3⟩; have M9 := M7))))
  all_goals
    go_wp2_with fail
    go_returns
    exact ⟨rfl, _, _, _, _, _, _, _, (M9.out.later (by first | exact Below.refl _ _ | exact (Below.refl _ _).drew | exact below_drewN (Below.refl _ _) _)).nj⟩
end
end Go.Proofs.Ytbnlhjooimppeaa
/- source: step: Tick. -/
namespace Go.Proofs.Ytbnlhjooimppeaa
set_option linter.unusedVariables false
set_option linter.unusedSimpArgs false
open Go.RowKit W Go.Maps
section
variable {W : World} {b : Tb} {rb lim : Nat} {late idle : Int} {bx : Nat} {kd : Int} {nm : ByteArray} {t n : Int} {wr w w1 w' : World} {v1 v2 s : Value} {A A1 A2 : List Sr} {mark mark1 mark2 : Int} {r1 r2 : List En}
theorem row_ref2 {base m : Nat} {sv : Value} {xs : List Value} (o : wr.ownsRow base 9 1 sv m xs) (M : MJ W b rb lim late idle bx kd nm t n wr v1 v2 s A mark A1 mark1 r1 r2) (k : Below wr.heap.size wr w1) (c : Chg (· = rb) w1 w') : w'.ownsRow base 9 1 sv m xs :=
  row_ref (chg_row o (Chg.of_below (S := fun _ => False) k) (fun _ _ q => q)) (M.later k).ro c
theorem row_tab2 {base m : Nat} {sv : Value} {xs : List Value} (o : wr.ownsRow base 9 1 sv m xs) (M : MJ W b rb lim late idle bx kd nm t n wr v1 v2 s A mark A1 mark1 r1 r2) (k : Below wr.heap.size wr w1) (c : Chg (tS b v1 v2) w1 w') : w'.ownsRow base 9 1 sv m xs :=
  row_tab (chg_row o (Chg.of_below (S := fun _ => False) k) (fun _ _ q => q)) (M.later k).tm c
theorem isT_of {base : Nat} {a : Option Addr} {c : Nat} {G : List ByteArray} (o : wr.ownsRow base 9 1 (.slice a G.length c) G.length (G.map Value.string)) : IsTxts wr a G := by
  obtain ⟨a2, c2, e, h⟩ := isT_own o rfl
  injection e with e
  subst e
  exact h
set_option maxRecDepth 100000 in
set_option maxHeartbeats 8000000 in
theorem step_tick (N : NJ W b rb lim late idle w v1 v2 s A r1 r2 mark) (hrb : W.heap.size ≤ rb) (nm : ByteArray) (t n : Int) :
    Calls Try.prog 34 #[.pointer (some ⟨b.tb, 0, none⟩), .pointer (some ⟨rb, 0, none⟩), .agg #[.int .i64 2, .string nm, .int .i64 t, .int .i64 n]] w (StepP W b rb lim late idle) := by
  have M0 : Hid (∀ V, V = w.alloc (.cells #[.int .i64 2, .string nm, .int .i64 t, .int .i64 n] 73) → MJ W b rb lim late idle w.heap.size 2 nm t n V v1 v2 s A mark A mark r1 r2) := fun V hV => MJ.start N hV
  have ne : rb ≠ w.heap.size := Nat.ne_of_lt N.ro.r.lt
  obtain ⟨hl, hs⟩ := N.tm.hear_in
  have HL := hide hl
  have HS := hide hs
  have HA : Hid (Names A) := N.tm.pl.names
  obtain ⟨G, hG⟩ : ∃ G, G = if secB n then goneN A idle n else [] := ⟨_, rfl⟩
  obtain ⟨A', hA'⟩ : ∃ A', A' = if secB n then stayS A idle n else A := ⟨_, rfl⟩
  obtain ⟨mk, hmk⟩ : ∃ mk, mk = if secB n then markS (stayS A idle n) late mark else mark := ⟨_, rfl⟩
  have gl : G.length ≤ 1048576 := by
    rw [hG]
    split
    · have := gone_len A idle n; omega
    · simp
  have KP : Hid (∀ V s1 A1 m1 v1' v2' r1' r2', MJ W b rb lim late idle w.heap.size 2 nm t n V v1' v2' s1 A mark A1 m1 r1' r2' → Calls Try.prog 38 #[.pointer (some ⟨b.tb, 0, none⟩), .int .i64 n] V fun e w' => ∃ a c v14 v24 r14 r24, e = .returned (.slice a G.length c) ∧ Hid (w'.ownsRow V.heap.size 9 1 (.slice a G.length c) G.length (G.map Value.string)) ∧ Hid (MJ W b rb lim late idle w.heap.size 2 nm t n w' v14 v24 s1 A' mk A1 m1 r14 r24) ∧ Hid (Chg (tS b v1' v2') V w')) := by
    intro V s1 A1 m1 v1' v2' r1' r2' M
    rw [hG, hA', hmk]
    refine (tp_M M).mono ?_
    rintro e w' ⟨x1, x2, x3, x4, sv, rfl, o, q, c⟩
    obtain ⟨a, c', rfl, _⟩ := isT_own o.out rfl
    exact ⟨a, c', x1, x2, x3, x4, rfl, o, q, c⟩
  have KR : Hid (∀ V A2 m2 v1' v2' r1' r2', MJ W b rb lim late idle w.heap.size 2 nm t n V v1' v2' s A2 m2 A mark r1' r2' → Calls Try.prog 59 #[.pointer (some ⟨rb, 0, none⟩), .int .i64 n] V fun e w' => ∃ s' a c, e = .returned (.slice a G.length c) ∧ Hid (w'.ownsRow V.heap.size 9 1 (.slice a G.length c) G.length (G.map Value.string)) ∧ Hid (MJ W b rb lim late idle w.heap.size 2 nm t n w' v1' v2' s' A2 m2 A' mk r1' r2') ∧ Hid (Chg (· = rb) V w')) := by
    intro V A2 m2 v1' v2' r1' r2' M
    rw [hG, hA', hmk]
    refine (tr_M M hrb ne HA.out HL.out HS.out).mono ?_
    rintro e w' ⟨s', sv, rfl, o, q, c⟩
    obtain ⟨a, c', rfl, _⟩ := isT_own o.out rfl
    exact ⟨s', a, c', rfl, o, q, c⟩
  have KT : Hid (∀ V a1 c1 a2 c2, IsTxts V a1 G → IsTxts V a2 G → Calls Try.prog 58 #[.slice a1 G.length c1, .slice a2 G.length c2] V fun e w' => e = .returned (.bool true) ∧ Hid (Below V.heap.size V w')) := fun V a1 c1 a2 c2 h1 h2 => rtexts_spec h1 h2 gl
  clear N hl hs hG hA' hmk gl
  go_enter Try.func34, Try.ntmps34
  go_upto_region 5 with fail
  refine abs_wp (fun V => Hid (MJ W b rb lim late idle w.heap.size 2 nm t n V v1 v2 s A mark A mark r1 r2)) (hide (M0.out _ rfl)) ?_
  rintro V M1
  obtain ⟨bx, hbx⟩ : ∃ bx, bx = w.heap.size := ⟨_, rfl⟩
  rw [← hbx] at M1 KP KR ne ⊢
  clear hbx M0
  have S0 : V.cell? ⟨bx, 3, none⟩ = some (.int .i64 n) := M1.out.bo.c3
  have lbx := M1.out.bo.lt
  go_region_held3 (fun w' => w'.cell? ⟨bx, 3, none⟩ = some (.int .i64 n))
    (first | exact S0 | exact S4 | exact S5 | exact S8)
    (first
      | (go_at_call 38; (first
          | ((with_reducible refine Calls.mono (KP.out _ s A mark v1 v2 r1 r2 (M1.out.later (by first | exact Below.refl _ _ | exact (Below.refl _ _).drew | exact below_drewN (Below.refl _ _) _))) ?_); rintro e w4 ⟨a4, c4, v14, v24, r14, r24, rfl, O4, M4, C4⟩; have S4 : w4.cell? ⟨bx, 3, none⟩ = some (.int .i64 n) := M4.out.bo.c3)
          | ((with_reducible refine Calls.mono (KP.out _ s5 A' mk v1 v2 r1 r2 (M5.out.later (by first | exact Below.refl _ _ | exact (Below.refl _ _).drew | exact below_drewN (Below.refl _ _) _))) ?_); rintro e w6 ⟨a6, c6, v16, v26, r16, r26, rfl, O6, M6, C6⟩; have S4 : w6.cell? ⟨bx, 3, none⟩ = some (.int .i64 n) := M6.out.bo.c3; have P5 := hide (row_tab2 O5.out M5.out (by first | exact Below.refl _ _ | exact (Below.refl _ _).drew | exact below_drewN (Below.refl _ _) _) C6.out); have M9 := M6)))
      | (go_at_call 59; (first
          | ((with_reducible refine Calls.mono (KR.out _ A mark v1 v2 r1 r2 (M1.out.later (by first | exact Below.refl _ _ | exact (Below.refl _ _).drew | exact below_drewN (Below.refl _ _) _))) ?_); rintro e w5 ⟨s5, a5, c5, rfl, O5, M5, C5⟩; have S5 : w5.cell? ⟨bx, 3, none⟩ = some (.int .i64 n) := M5.out.bo.c3)
          | ((with_reducible refine Calls.mono (KR.out _ A' mk v14 v24 r14 r24 (M4.out.later (by first | exact Below.refl _ _ | exact (Below.refl _ _).drew | exact below_drewN (Below.refl _ _) _))) ?_); rintro e w7 ⟨s7, a7, c7, rfl, O7, M7, C7⟩; have S5 : w7.cell? ⟨bx, 3, none⟩ = some (.int .i64 n) := M7.out.bo.c3; have P4 := hide (row_ref2 O4.out M4.out (by first | exact Below.refl _ _ | exact (Below.refl _ _).drew | exact below_drewN (Below.refl _ _) _) C7.out); have M9 := M7)))
      | (go_at_call 58; (first
          | ((with_reducible refine Calls.mono (KT.out _ a4 c4 a7 c7 ((isT_of P4.out).later (by first | exact Below.refl _ _ | exact (Below.refl _ _).drew | exact below_drewN (Below.refl _ _) _)) ((isT_of O7.out).later (by first | exact Below.refl _ _ | exact (Below.refl _ _).drew | exact below_drewN (Below.refl _ _) _))) ?_); rintro e w8 ⟨rfl, B8⟩; have M10 := hide ((M9.out.later (by first | exact Below.refl _ _ | exact (Below.refl _ _).drew | exact below_drewN (Below.refl _ _) _)).later B8.out); have S8 : w8.cell? ⟨bx, 3, none⟩ = some (.int .i64 n) := M10.out.bo.c3)
          | ((with_reducible refine Calls.mono (KT.out _ a6 c6 a5 c5 ((isT_of O6.out).later (by first | exact Below.refl _ _ | exact (Below.refl _ _).drew | exact below_drewN (Below.refl _ _) _)) ((isT_of P5.out).later (by first | exact Below.refl _ _ | exact (Below.refl _ _).drew | exact below_drewN (Below.refl _ _) _))) ?_); rintro e w8 ⟨rfl, B8⟩; have M10 := hide ((M9.out.later (by first | exact Below.refl _ _ | exact (Below.refl _ _).drew | exact below_drewN (Below.refl _ _) _)).later B8.out); have S8 : w8.cell? ⟨bx, 3, none⟩ = some (.int .i64 n) := M10.out.bo.c3))))
  all_goals
    go_wp2_with fail
    go_returns
    exact ⟨rfl, _, _, _, _, _, _, _, (M10.out.later (by first | exact Below.refl _ _ | exact (Below.refl _ _).drew | exact below_drewN (Below.refl _ _) _)).nj⟩
end
end Go.Proofs.Ytbnlhjooimppeaa
/- source: step: Mark, Get, All, anything else. -/
namespace Go.Proofs.Ytbnlhjooimppeaa
set_option linter.unusedVariables false
set_option linter.unusedSimpArgs false
open Go.RowKit W Go.Maps
theorem abs_callsS5 {P : Program} {f : Nat} {args : Array Value} {Q : Ending → World → Prop} {w : World} (F : World → Prop) (hF : F w) (h : ∀ W, F W → Calls P f args W Q) : Calls P f args w Q := h w hF
section
variable {W : World} {b : Tb} {rb lim : Nat} {late idle : Int} {bx : Nat} {kd : Int} {nm : ByteArray} {t n : Int} {wr w w1 w' : World} {v1 v2 s : Value} {A A1 A2 : List Sr} {mark mark1 mark2 : Int} {r1 r2 : List En}
set_option maxRecDepth 100000 in
set_option maxHeartbeats 8000000 in
theorem step_mark (N : NJ W b rb lim late idle w v1 v2 s A r1 r2 mark) (nm : ByteArray) (t n : Int) :
    Calls Try.prog 34 #[.pointer (some ⟨b.tb, 0, none⟩), .pointer (some ⟨rb, 0, none⟩), .agg #[.int .i64 3, .string nm, .int .i64 t, .int .i64 n]] w (StepP W b rb lim late idle) := by
  have M0 : Hid (∀ V, V = w.alloc (.cells #[.int .i64 3, .string nm, .int .i64 t, .int .i64 n] 73) → MJ W b rb lim late idle w.heap.size 3 nm t n V v1 v2 s A mark A mark r1 r2) := fun V hV => MJ.start N hV
  clear N
  go_enter Try.func34, Try.ntmps34
  go_upto_region 7 with fail
  refine abs_wp (fun V => Hid (MJ W b rb lim late idle w.heap.size 3 nm t n V v1 v2 s A mark A mark r1 r2)) (hide (M0.out _ rfl)) ?_
  rintro V M1
  have km : ∀ V', Below V.heap.size V V' → CalcN 35 #[.pointer (some ⟨b.tb, 0, none⟩)] V' (.int .i64 mark) := fun V' q => tmark (M1.out.later q).tm
  have S0 := M1.out.ro.r.cell 4 _ rfl
  have lr := M1.out.ro.r.lt
  have mm : (mark == mark) = true := by simp
  go_region_held3 (fun w' => w'.cell? ⟨rb, 4, none⟩ = some (.int .i64 mark))
    (first | exact S0 | with_reducible assumption)
    ((go_at_call 35; (with_reducible refine Calls.mono (km _ (by first | exact Below.refl _ _ | exact (Below.refl _ _).drew | exact below_drewN (Below.refl _ _) _)) ?_); rintro e w4 ⟨rfl, rfl⟩))
  all_goals
    go_wp2_with fail
    go_returns
    exact ⟨rfl, _, _, _, _, _, _, _, (M1.out.later (by first | exact Below.refl _ _ | exact (Below.refl _ _).drew | exact below_drewN (Below.refl _ _) _)).nj⟩
set_option maxRecDepth 100000 in
set_option maxHeartbeats 8000000 in
theorem step_all (N : NJ W b rb lim late idle w v1 v2 s A r1 r2 mark) (nm : ByteArray) (t n : Int) :
    Calls Try.prog 34 #[.pointer (some ⟨b.tb, 0, none⟩), .pointer (some ⟨rb, 0, none⟩), .agg #[.int .i64 5, .string nm, .int .i64 t, .int .i64 n]] w (StepP W b rb lim late idle) := by
  have M0 : Hid (∀ V, V = w.alloc (.cells #[.int .i64 5, .string nm, .int .i64 t, .int .i64 n] 73) → MJ W b rb lim late idle w.heap.size 5 nm t n V v1 v2 s A mark A mark r1 r2) := fun V hV => MJ.start N hV
  have hl := N.len
  clear N
  go_enter Try.func34, Try.ntmps34
  go_upto_region 13 with fail
  refine abs_wp (fun V => Hid (MJ W b rb lim late idle w.heap.size 5 nm t n V v1 v2 s A mark A mark r1 r2)) (hide (M0.out _ rfl)) ?_
  rintro V M1
  obtain ⟨aR, cR, rfl, rt, _⟩ := M1.out.ro.rt
  have RS := hide rt.is
  have CE : Hid (∀ V', Below V.heap.size V V' → V'.cell? ⟨rb, 3, none⟩ = some (.slice aR A.length cR)) := fun V' q => (M1.out.later q).ro.r.cell 3 _ rfl
  have kl : ∀ V', Below V.heap.size V V' → Calls Try.prog 37 #[.pointer (some ⟨b.tb, 0, none⟩)] V' fun e w' => ∃ a c, e = .returned (.slice a A.length c) ∧ Hid (IsS w' a A) ∧ Hid (Below V.heap.size V w') ∧ w'.cell? ⟨rb, 3, none⟩ = some (.slice aR A.length cR) := fun V' q => by
    refine (tall_is (M1.out.later q).tm).mono ?_
    rintro e w' ⟨a, c, rfl, i, bl⟩
    have bb := q.trans (bl.mono q.size)
    exact ⟨a, c, rfl, i, bb, CE.out w' bb⟩
  have KS : Hid (∀ V' a c, Below V.heap.size V V' → IsS V' a A → Calls Try.prog 36 #[.slice a A.length c, .slice aR A.length cR] V' fun e w' => e = .returned (.bool true) ∧ Hid (Below V.heap.size V w') ∧ w'.cell? ⟨rb, 3, none⟩ = some (.slice aR A.length cR)) := fun V' a c q i => by
    refine (rsame_spec (c1 := c) (c2 := cR) i (RS.out.later q) (by omega)).mono ?_
    rintro e w' ⟨rfl, bl⟩
    have bb := q.trans (bl.mono q.size)
    exact ⟨rfl, bb, CE.out w' bb⟩
  have S0 := CE.out V (Below.refl _ _)
  have lr := M1.out.ro.r.lt
  clear rt
  go_region_held3 (fun w' => w'.cell? ⟨rb, 3, none⟩ = some (.slice aR A.length cR))
    (first | exact S0 | exact S7 | exact S8)
    (first
      | (go_at_call 37; (with_reducible refine Calls.mono (kl _ (by first | exact Below.refl _ _ | exact (Below.refl _ _).drew | exact below_drewN (Below.refl _ _) _)) ?_); rintro e w7 ⟨a7, c7, rfl, I7, B7, S7⟩)
      | (go_at_call 36; (with_reducible refine Calls.mono (KS.out _ a7 c7 (by first | exact Below.refl _ _ | exact (Below.refl _ _).drew | exact below_drewN (Below.refl _ _) _ | exact B7.out | exact B7.out.drew | exact below_drewN B7.out _) (I7.out.later (by first | exact Below.refl _ _ | exact (Below.refl _ _).drew | exact below_drewN (Below.refl _ _) _))) ?_); rintro e w8 ⟨rfl, B8, S8⟩))
  all_goals
    go_wp2_with fail
    go_returns
    exact ⟨rfl, _, _, _, _, _, _, _, (M1.out.later (by first | exact B8.out | exact B8.out.drew | exact below_drewN B8.out _)).nj⟩
set_option maxRecDepth 100000 in
set_option maxHeartbeats 8000000 in
theorem step_other (N : NJ W b rb lim late idle w v1 v2 s A r1 r2 mark) (kd : Int) (hk : kd ≠ 1 ∧ kd ≠ 2 ∧ kd ≠ 3 ∧ kd ≠ 4 ∧ kd ≠ 5) (nm : ByteArray) (t n : Int) :
    Calls Try.prog 34 #[.pointer (some ⟨b.tb, 0, none⟩), .pointer (some ⟨rb, 0, none⟩), .agg #[.int .i64 kd, .string nm, .int .i64 t, .int .i64 n]] w (StepP W b rb lim late idle) := by
  have M0 : Hid (∀ V, V = w.alloc (.cells #[.int .i64 kd, .string nm, .int .i64 t, .int .i64 n] 73) → MJ W b rb lim late idle w.heap.size kd nm t n V v1 v2 s A mark A mark r1 r2) := fun V hV => MJ.start N hV
  obtain ⟨k1, k2, k3, k4, k5⟩ := hk
  have e1 : (kd == 1) = false := by simpa using k1
  have e2 : (kd == 2) = false := by simpa using k2
  have e3 : (kd == 3) = false := by simpa using k3
  have e4 : (kd == 4) = false := by simpa using k4
  have e5 : (kd == 5) = false := by simpa using k5
  clear N k1 k2 k3 k4 k5
  go_enter Try.func34, Try.ntmps34
  go_wp2_with fail
  go_returns
  exact ⟨rfl, _, _, _, _, _, _, _, (M0.out _ rfl).nj⟩
set_option maxRecDepth 100000 in
set_option maxHeartbeats 8000000 in
theorem step_get (N : NJ W b rb lim late idle w v1 v2 s A r1 r2 mark) (nm : ByteArray) (t n : Int) (xs : nm.size ≤ maxLen) :
    Calls Try.prog 34 #[.pointer (some ⟨b.tb, 0, none⟩), .pointer (some ⟨rb, 0, none⟩), .agg #[.int .i64 4, .string nm, .int .i64 t, .int .i64 n]] w (StepP W b rb lim late idle) := by
  have M0 : Hid (∀ V, V = w.alloc (.cells #[.int .i64 4, .string nm, .int .i64 t, .int .i64 n] 73) → MJ W b rb lim late idle w.heap.size 4 nm t n V v1 v2 s A mark A mark r1 r2) := fun V hV => MJ.start N hV
  have hl := N.len
  have HA : Hid (Names A) := N.tm.pl.names
  clear N
  obtain ⟨⟨g0, g1, g2⟩, hso⟩ : ∃ so, so = srcOf A nm := ⟨_, rfl⟩
  obtain ⟨is, his⟩ : ∃ is, is = (findS A nm).isSome := ⟨_, rfl⟩
  have HSO := hide hso
  have HIS := hide his
  clear hso his
  go_enter Try.func34, Try.ntmps34
  go_upto_region 9 with fail
  refine abs_wp (fun V => Hid (MJ W b rb lim late idle w.heap.size 4 nm t n V v1 v2 s A mark A mark r1 r2)) (hide (M0.out _ rfl)) ?_
  rintro V M1
  obtain ⟨aR, cR, rfl, rt, _⟩ := M1.out.ro.rt
  have RT' := hide rt
  have c1 := M1.out.bo.c1
  have lbx := M1.out.bo.lt
  have kg : Calls Try.prog 40 #[.pointer (some ⟨b.tb, 0, none⟩), .string nm] V fun e w' => e = .returned (.tuple #[.agg #[.string g0, .int .i64 g1, .int .i64 g2], .bool is]) ∧ Hid (Below V.heap.size V w') := by
    refine (tget_spec M1.out.tm nm xs).mono ?_
    rintro e w' ⟨rfl, bl⟩
    rw [← HSO.out, ← HIS.out]
    exact ⟨rfl, bl⟩
  have kr : ∀ V', Below V.heap.size V V' → Calls Try.prog 60 #[.pointer (some ⟨rb, 0, none⟩), .string nm] V' fun e w' => e = .returned (.tuple #[.agg #[.string g0, .int .i64 g1, .int .i64 g2], .bool is]) ∧ Hid (Below V'.heap.size V' w') := fun V' q => by
    refine (rget_spec (RT'.out.later q) HA.out (by omega) nm).mono ?_
    rintro e w' ⟨rfl, bl⟩
    rw [← HSO.out, ← HIS.out]
    exact ⟨rfl, bl⟩
  clear rt
  go_wp2_with (go_at_call 40; refine kg.mono ?_; rintro e w4 ⟨rfl, B4⟩; have z4 := B4.out.size; have c1' : w4.cell? ⟨w.heap.size, 1, none⟩ = some (.string nm) := (M1.out.bo.later B4.out).c1; have l4 : w.heap.size < w4.heap.size := Nat.lt_of_lt_of_le lbx z4)
  refine abs_callsS5 (fun V5 => Hid (Below V.heap.size V V5) ∧ V5.cell? ⟨w4.heap.size, 0, none⟩ = some (.string g0) ∧ V5.cell? ⟨w4.heap.size, 1, none⟩ = some (.int .i64 g1) ∧ V5.cell? ⟨w4.heap.size, 2, none⟩ = some (.int .i64 g2) ∧ w4.heap.size < V5.heap.size) ⟨hide (B4.out.alloc z4 _), by simp [go_sem], by simp [go_sem], by simp [go_sem], by simp⟩ ?_
  rintro V5 ⟨B5, p0, p1, p2, l5⟩
  have z5 := B5.out.size
  refine (kr V5 B5.out).mono ?_
  rintro e w6 ⟨rfl, B6⟩
  have z6 := B6.out.size
  have q0 := (B6.out.cell (p := ⟨w4.heap.size, 0, none⟩) l5).trans p0
  have q1 := (B6.out.cell (p := ⟨w4.heap.size, 1, none⟩) l5).trans p1
  have q2 := (B6.out.cell (p := ⟨w4.heap.size, 2, none⟩) l5).trans p2
  have l6 : w4.heap.size < w6.heap.size := Nat.lt_of_lt_of_le l5 z6
  have BV6 := hide (B5.out.trans (B6.out.mono z5))
  have f1 : (g0.toList == g0.toList) = true := by simp
  have f2 : (is == is) = true := by simp
  clear kg kr c1 c1' p0 p1 p2
  go_wp2_with fail
  go_returns
  exact ⟨rfl, _, _, _, _, _, _, _, (M1.out.later (by first | exact BV6.out.alloc (Nat.le_trans z5 z6) _ | exact (BV6.out.alloc (Nat.le_trans z5 z6) _).drew | exact below_drewN (BV6.out.alloc (Nat.le_trans z5 z6) _) _)).nj⟩
end
end Go.Proofs.Ytbnlhjooimppeaa
/- source: SourceKeeps. -/
namespace Go.Proofs.Ytbnlhjooimppeaa
set_option linter.unusedVariables false
set_option linter.unusedSimpArgs false
open Go.RowKit W Go.Maps
set_option maxRecDepth 100000 in
set_option maxHeartbeats 4000000 in
theorem rnew_bad (lim late idle : Int) (h : ¬ (1 ≤ lim ∧ lim ≤ 1024 ∧ secB late = true ∧ 1 ≤ idle ∧ idle ≤ 1099511627775)) (w : World) : Calls Try.prog 32 #[.int .i64 lim, .int .i64 late, .int .i64 idle] w fun e w' => e = .returned (.tuple #[.agg #[.int .i64 0, .int .i64 0, .int .i64 0, .slice none 0 0, .int .i64 0], .int .i64 1]) ∧ Below w.heap.size w w' := by
  have k1 := rsecond11 late
  have B1 : Below w.heap.size w (w.alloc (.cells #[.int .i64 0, .int .i64 0, .int .i64 0, .slice none 0 0, .int .i64 0] 67)) := (Below.refl _ _).alloc (Nat.le_refl _) _
  by_cases h1 : 1 ≤ lim
  · have d1 : decide (lim < 1) = false := by rw [decide_eq_false_iff_not]; omega
    by_cases h2 : lim ≤ 1024
    · have d2 : decide (1024 < lim) = false := by rw [decide_eq_false_iff_not]; omega
      cases h3 : secB late with
      | false =>
        rw [h3] at k1
        clear h h3
        go_enter Try.func32, Try.ntmps32
        go_wp2_with (go_at_call 57; (with_reducible refine Calls.mono (k1 _) ?_); rintro e w' ⟨rfl, rfl⟩)
        refine bodyPost_ret (by simp [results, Try.results32, go_sem]; try rfl) rfl ?_
        exact ⟨rfl, by first | exact B1 | go_grown⟩
      | true =>
        rw [h3] at k1
        by_cases h4 : 1 ≤ idle
        · have d4 : decide (idle < 1) = false := by rw [decide_eq_false_iff_not]; omega
          have d5 : decide (1099511627775 < idle) = true := by
            rw [decide_eq_true_eq]
            by_cases q : idle ≤ 1099511627775
            · exact absurd ⟨h1, h2, h3, h4, q⟩ h
            · omega
          clear h h3
          go_enter Try.func32, Try.ntmps32
          go_wp2_with (go_at_call 57; (with_reducible refine Calls.mono (k1 _) ?_); rintro e w' ⟨rfl, rfl⟩)
          refine bodyPost_ret (by simp [results, Try.results32, go_sem]; try rfl) rfl ?_
          exact ⟨rfl, by first | exact B1 | go_grown⟩
        · have d4 : decide (idle < 1) = true := by rw [decide_eq_true_eq]; omega
          clear h h3
          go_enter Try.func32, Try.ntmps32
          go_wp2_with (go_at_call 57; (with_reducible refine Calls.mono (k1 _) ?_); rintro e w' ⟨rfl, rfl⟩)
          refine bodyPost_ret (by simp [results, Try.results32, go_sem]; try rfl) rfl ?_
          exact ⟨rfl, by first | exact B1 | go_grown⟩
    · have d2 : decide (1024 < lim) = true := by rw [decide_eq_true_eq]; omega
      clear h
      go_enter Try.func32, Try.ntmps32
      go_wp2_with fail
      refine bodyPost_ret (by simp [results, Try.results32, go_sem]; try rfl) rfl ?_
      exact ⟨rfl, by first | exact B1 | go_grown⟩
  · have d1 : decide (lim < 1) = true := by rw [decide_eq_true_eq]; omega
    clear h
    go_enter Try.func32, Try.ntmps32
    go_wp2_with fail
    refine bodyPost_ret (by simp [results, Try.results32, go_sem]; try rfl) rfl ?_
    exact ⟨rfl, by first | exact B1 | go_grown⟩
theorem step_any {W : World} {b : Tb} {rb lim : Nat} {late idle : Int} {w : World} {v1 v2 s : Value} {A : List Sr} {mark : Int} {r1 r2 : List En} (N : NJ W b rb lim late idle w v1 v2 s A r1 r2 mark) (hrb : W.heap.size ≤ rb) (hlim : 0 < lim) (kd : Int) (nm : ByteArray) (t n : Int) (xs : nm.size ≤ maxLen) :
    Calls Try.prog 34 #[.pointer (some ⟨b.tb, 0, none⟩), .pointer (some ⟨rb, 0, none⟩), .agg #[.int .i64 kd, .string nm, .int .i64 t, .int .i64 n]] w (StepP W b rb lim late idle) := by
  by_cases k1 : kd = 1
  · subst k1; exact step_hear N hrb hlim nm t n xs
  by_cases k2 : kd = 2
  · subst k2; exact step_tick N hrb nm t n
  by_cases k3 : kd = 3
  · subst k3; exact step_mark N nm t n
  by_cases k4 : kd = 4
  · subst k4; exact step_get N nm t n xs
  by_cases k5 : kd = 5
  · subst k5; exact step_all N nm t n
  exact step_other N kd ⟨k1, k2, k3, k4, k5⟩ nm t n
set_option maxRecDepth 100000 in
set_option maxHeartbeats 8000000 in
theorem law_SourceKeeps (limit late idle : Int) (a : Option Addr) (n c : Nat) (L : List Oq) (hn : L.length = n ∧ n ≤ 140737488355328) (hsz : ∀ o ∈ L, o.nm.size ≤ maxLen) (W : World) (hI : IsOq W a L) :
    Calls Try.prog 8 #[.int .i64 limit, .int .i64 late, .int .i64 idle, .slice a n c] W fun e w' => e = .returned (.bool true) ∧ Below W.heap.size W w' := by
  obtain ⟨hl, hb⟩ := hn
  have ka := alive11_spec
  have HL := hide hl
  have HS := hide hsz
  have HI := hide hI
  clear hl hsz hI
  by_cases ok : 1 ≤ limit ∧ limit ≤ 1024 ∧ secB late = true ∧ 1 ≤ idle ∧ idle ≤ 1099511627775
  · obtain ⟨o1, o2, o3, o4, o5⟩ := ok
    obtain ⟨lim, rfl⟩ : ∃ lim : Nat, limit = (lim : Int) := ⟨limit.toNat, by omega⟩
    have kn := tnew_ok lim (by omega) (by omega) late idle o3 ((secB_iff _).2 ⟨by omega, o5⟩) (by omega) W
    have kr := fun w => rnew_ok lim (by omega) (by omega) late idle o3 ⟨o4, o5⟩ w
    have hlim : 0 < lim := by omega
    clear o3
    go_enter Try.func8, Try.ntmps8
    go_upto_region 3 with (first
      | (go_at_call 31; refine kn.mono ?_; rintro e w1 ⟨b, rfl, t1, b1⟩)
      | (go_at_call 32; refine (kr _).mono ?_; rintro e w2 ⟨rfl, b2⟩))
    obtain ⟨W3, hW3⟩ : ∃ W3, W3 = w2.alloc (.cells #[.int .i64 (lim : Int), .int .i64 late, .int .i64 idle, .slice none 0 0, .int .i64 0] 67) := ⟨_, rfl⟩
    have z1 := b1.size
    have z2 := b2.size
    have b3 : Below w2.heap.size w2 W3 := by rw [hW3]; exact (Below.refl _ _).alloc (Nat.le_refl _) _
    have r3 : Bw W3 w2.heap.size 67 #[.int .i64 (lim : Int), .int .i64 late, .int .i64 idle, .slice none 0 0, .int .i64 0] := by rw [hW3]; exact Bw.new w2 _ _
    rw [← hW3]
    obtain ⟨rb, hrb⟩ : ∃ rb, rb = w2.heap.size := ⟨_, rfl⟩
    rw [← hrb] at r3 ⊢
    have rbB : W.heap.size ≤ rb := by omega
    have J0 : Hid (NJ W b rb lim late idle W3 (.slice none 0 0) (.slice none 0 0) (.slice none 0 0) [] [] [] 0) :=
      ⟨(t1.later b2).later b3, ⟨r3, World.ownsRow_nil _ _ _ _, fun _ => rfl⟩, b1.trans ((b2.mono z1).trans (b3.mono (by omega)))⟩
    clear kn kr t1 b1 b2 b3 r3 hW3 z1 z2 hrb
    go_wp2_with (go_at_call 33; refine (ka _).mono ?_; rintro e w4 ⟨rfl, b4⟩; have J4 := hide (J0.out.below b4); clear b4)
    clear J0
    go_loopw [13] (fun s13 wr => ∃ (i : Nat) (v1 v2 s : Value) (A : List Sr) (r1 r2 : List En) (mark : Int), s13 = .int .i64 (i : Int) ∧ i ≤ n ∧ Hid (NJ W b rb lim late idle wr v1 v2 s A r1 r2 mark)) (fun s13 _ => n - (intOf s13).toNat)
    case atStart => exact ⟨0, _, _, _, [], [], [], 0, rfl, by omega, J4⟩
    case round =>
      obtain ⟨i, v1, v2, s, A, r1, r2, mark, rfl, hi, N⟩ := hrel
      by_cases hlt : i < n
      · have e1 : decide ((i : Int) < (n : Int)) = true := by rw [decide_eq_true_eq]; omega
        have e2 : decide (i < n) = true := by rw [decide_eq_true_eq]; omega
        have il : i < L.length := by have := HL.out; omega
        obtain ⟨g, o, rfl, gl, x0, x1, x2, x3⟩ := (HI.out.later (N.out.bl)).at_ il
        have xs : L[i].nm.size ≤ maxLen := HS.out _ (List.getElem_mem il)
        obtain ⟨⟨kd, nm, t, tn⟩, hq⟩ : ∃ q, q = L[i] := ⟨_, rfl⟩
        rw [← hq] at x0 x1 x2 x3 xs
        dsimp only at x0 x1 x2 x3 xs
        have ks := step_any N.out rbB hlim kd nm t tn xs
        clear hq
        go_wp2_with (go_at_call 34; refine ks.mono ?_; rintro e w5 ⟨rfl, y1, y2, y3, y4, y5, y6, y7, J5⟩; have J5' := hide J5; clear J5)
        go_roundw
        case rel => exact ⟨i + 1, y1, y2, y3, y4, y5, y6, y7, by go_num, by omega, J5'⟩
        case measure => (first | (simp [intOf]; done) | (simp [intOf]; omega))
      · obtain rfl : i = n := by omega
        have e1 : decide ((i : Int) < (i : Int)) = false := by rw [decide_eq_false_iff_not]; omega
        have e2 : decide (i < i) = false := by rw [decide_eq_false_iff_not]; omega
        obtain ⟨aR, cR, rfl, rt, _⟩ := N.out.ro.rt
        have hl := N.out.len
        have RS := hide rt.is
        have CE : Hid (∀ V', Below wr.heap.size wr V' → V'.cell? ⟨rb, 3, none⟩ = some (.slice aR A.length cR) ∧ V'.cell? ⟨rb, 4, none⟩ = some (.int .i64 mark)) := fun V' q => ⟨(N.out.ro.later q).r.cell 3 _ rfl, (N.out.ro.later q).r.cell 4 _ rfl⟩
        have km : ∀ V', Below wr.heap.size wr V' → CalcN 35 #[.pointer (some ⟨b.tb, 0, none⟩)] V' (.int .i64 mark) := fun V' q => tmark (N.out.tm.later q)
        have kl : ∀ V', Below wr.heap.size wr V' → Calls Try.prog 37 #[.pointer (some ⟨b.tb, 0, none⟩)] V' fun e w' => ∃ a c, e = .returned (.slice a A.length c) ∧ Hid (IsS w' a A) ∧ Hid (Below wr.heap.size wr w') ∧ (w'.cell? ⟨rb, 3, none⟩ = some (.slice aR A.length cR) ∧ w'.cell? ⟨rb, 4, none⟩ = some (.int .i64 mark)) := fun V' q => by
          refine (tall_is (N.out.tm.later q)).mono ?_
          rintro e w' ⟨a, c, rfl, i, bl⟩
          have bb := q.trans (bl.mono q.size)
          exact ⟨a, c, rfl, i, bb, CE.out w' bb⟩
        have KS : Hid (∀ V' a c, Below wr.heap.size wr V' → IsS V' a A → Calls Try.prog 36 #[.slice a A.length c, .slice aR A.length cR] V' fun e w' => e = .returned (.bool true) ∧ Hid (Below wr.heap.size wr w') ∧ (w'.cell? ⟨rb, 3, none⟩ = some (.slice aR A.length cR) ∧ w'.cell? ⟨rb, 4, none⟩ = some (.int .i64 mark))) := fun V' a c q i => by
          refine (rsame_spec (c1 := c) (c2 := cR) i (RS.out.later q) (by omega)).mono ?_
          rintro e w' ⟨rfl, bl⟩
          have bb := q.trans (bl.mono q.size)
          exact ⟨rfl, bb, CE.out w' bb⟩
        have S0 := CE.out wr (Below.refl _ _)
        have lr := N.out.ro.r.lt
        have mm : (mark == mark) = true := by simp
        have BW : Hid (Below W.heap.size W wr) := N.out.bl
        have zW := BW.out.size
        clear rt ka
        go_wp2_with fail
        go_region_held3 (fun w' => w'.cell? ⟨rb, 3, none⟩ = some (.slice aR A.length cR) ∧ w'.cell? ⟨rb, 4, none⟩ = some (.int .i64 mark))
          (first | exact S0 | exact S7 | exact S8)
          (first
            | (go_at_call 35; (with_reducible refine Calls.mono (km _ (by first | exact Below.refl _ _ | exact (Below.refl _ _).drew | exact below_drewN (Below.refl _ _) _)) ?_); rintro e w4 ⟨rfl, rfl⟩)
            | (go_at_call 37; (with_reducible refine Calls.mono (kl _ (by first | exact Below.refl _ _ | exact (Below.refl _ _).drew | exact below_drewN (Below.refl _ _) _)) ?_); rintro e w7 ⟨a7, c7, rfl, I7, B7, S7⟩)
            | (go_at_call 36; (with_reducible refine Calls.mono (KS.out _ a7 c7 (by first | exact Below.refl _ _ | exact (Below.refl _ _).drew | exact below_drewN (Below.refl _ _) _ | exact B7.out | exact B7.out.drew | exact below_drewN B7.out _) (I7.out.later (by first | exact Below.refl _ _ | exact (Below.refl _ _).drew | exact below_drewN (Below.refl _ _) _))) ?_); rintro e w8 ⟨rfl, B8, S8⟩))
        all_goals
          go_wp2_with fail
          go_returns
          exact ⟨rfl, BW.out.trans ((by first | exact B8.out | exact B8.out.drew | exact below_drewN B8.out _ : Below wr.heap.size wr _).mono zW)⟩
  · have kn := tnew_bad limit late idle (fun q => ok ⟨q.1, q.2.1, q.2.2.1, by have := (secB_iff _).1 q.2.2.2.1; have := q.2.2.2.2; omega, ((secB_iff _).1 q.2.2.2.1).2⟩) W
    have kr := fun w => rnew_bad limit late idle ok w
    clear ok
    go_enter Try.func8, Try.ntmps8
    go_wp2_with (first
      | (go_at_call 31; refine kn.mono ?_; rintro e w1 ⟨rfl, rfl⟩)
      | (go_at_call 32; refine (kr _).mono ?_; rintro e w2 ⟨rfl, b2⟩; have z2 := b2.size)
      | (go_at_call 33; refine (ka _).mono ?_; rintro e w4 ⟨rfl, b4⟩))
    go_returns
    exact ⟨rfl, (b2.alloc z2 _).trans (b4.mono (Nat.le_trans z2 (by simp)))⟩
end Go.Proofs.Ytbnlhjooimppeaa
/-
  SourceKeeps: for every input the law returns true, and each argument reads afterwards as it read before. No condition on the input.
-/
namespace Go.Proofs.Ytbnlhjooimppeaa.sourceKeeps
open Go.ChangeShapes Go.WideShapes Go.ChangeAt Go.RowKit Go.Deep W
open Go.ChangeMaps (open_string shut_string)
set_option linter.unusedVariables false
theorem own : ownKnob Try.prog.godebug = none := by kernel_rfl
theorem laidOut : laidOutB Try.prog = true := by kernel_rfl
set_option maxRecDepth 100000 in
theorem lifted (os : Os) (started : os.Started) (H : Type) (enc : TypeId × Value → H) :
    ReturnsInHanded {} Try.checked os 8 .any (Rows.sourceKeepsSpec.pre6 enc Try.prog Try.f8 Rows.sourceKeepsRow.domain false) (Rows.sourceKeepsSpec.post enc Try.prog Try.f8 false true false false) := by
  refine returnsInHanded_of_change_sized (C := Try.checked) own started (by kernel_rfl) Try.func8
    (ChangeSpec.witness6 (enc := enc) (C := Try.checked) false ⟨#[], #[.int .i64 0, .int .i64 0, .int .i64 0, .slice none 0 0], []⟩ 8 (by kernel_rfl) (by kernel_rfl) (by kernel_rfl) (by kernel_rfl)) ?_
  intro W base args ds gs before hval0 hW hcnd hsz0 _
  have hsz : (DataW.weightsEach Try.prog (Try.f8.params.toList ++ Rows.sourceKeepsSpec.plain.varTypes Try.prog) (ds ++ gs)).all (· ≤ reachBytes) = true := hsz0
  clear hsz0
  have hval : ∀ (j : Nat) t v, Try.f8.params[j]? = some t → args[j]? = some v → Value.okWide Try.prog W .any base t v := hval0
  have hW' := hW
  obtain ⟨p, q, hA0, hV, rfl, hfz, hnd⟩ := hW
  have hA : DataW.TrodAll enc Try.prog W 0 (fun _ => true) true Try.f8.params.toList args.toList ds p := hA0
  rw [Try.params8] at hA hval hsz
  obtain ⟨v0, vs0, d0, ds0, p0, q0, hargs, rfl, rfl, h0, r0⟩ := trodAll_cons hA
  obtain ⟨v1, vs1, d1, ds1, p1, q1, rfl, rfl, rfl, h1, r1⟩ := trodAll_cons r0
  obtain ⟨v2, vs2, d2, ds2, p2, q2, rfl, rfl, rfl, h2, r2⟩ := trodAll_cons r1
  obtain ⟨v3, vs3, d3, ds3, p3, q3, rfl, rfl, rfl, h3, r3⟩ := trodAll_cons r2
  obtain ⟨rfl, rfl, rfl⟩ := trodAll_nil r3
  obtain rfl : args = #[v0, v1, v2, v3] := by cases args; simp_all
  obtain ⟨rfl, rfl⟩ := trodVars_none hV
  obtain ⟨a0, rfl, rfl, rfl, w0⟩ := open_int Try.underlying3 (hval 0 3 v0 rfl rfl) h0
  obtain ⟨a1, rfl, rfl, rfl, w1⟩ := open_int Try.underlying2 (hval 1 2 v1 rfl rfl) h1
  obtain ⟨a2, rfl, rfl, rfl, w2⟩ := open_int Try.underlying2 (hval 2 2 v2 rfl rfl) h2
  have k3 := h3
  have lt3 : ∀ x ∈ p3, x.block < W.heap.size := by obtain ⟨m, hm⟩ := k3; exact DataW.trod_lt m _ _ _ hm
  obtain ⟨s3, n3, c3, rfl⟩ := okWide_slice Try.underlying61 (hval 3 61 v3 rfl rfl)
  obtain ⟨fuel3, hf3⟩ := h3
  obtain ⟨L3, hl3, hL3, hz3, hd3⟩ := Go.Proofs.Ytbnlhjooimppeaa.rd_oqs (by simpa [Value.cells] using hf3)
  have hn3 : L3.length = n3 ∧ n3 ≤ 140737488355328 := by
    refine ⟨hl3, ?_⟩
    rcases hd3 with e | ⟨el, spd, e, el2⟩
    · omega
    · have h1 := sized_slice hsz (j := 3) (t := 61) (e := 73) (elems := el) (spare := spd) rfl (by simp; exact e) Try.underlying61
      have rl : reachBytes ≤ 140737488355328 := by decide
      rw [(by kernel_rfl : Try.prog.bytesOf 73 = 40)] at h1
      omega
  clear hA0 hval0 hsz
  refine (Go.Proofs.Ytbnlhjooimppeaa.law_SourceKeeps a0 a1 a2 s3 n3 c3 L3 hn3 hz3 W hL3).mono fun e W' ⟨he, bel⟩ => ?_
  subst he
  exact ⟨_, rfl, _, _, _, [], _, [], hW', trodAll_mk1 (shut_bool Try.underlying4 _), (trodAll_cons_mk (shut_int Try.underlying3 w0) (trodAll_cons_mk (shut_int Try.underlying2 w1) (trodAll_cons_mk (shut_int Try.underlying2 w2) (trodAll_cons_mk (Below.trod laidOut (by kernel_rfl) (of_decide_eq_true (by kernel_rfl)) k3 bel lt3) trodAll_mk0)))), rfl, bel.frame _, fun h => by cases h⟩
theorem over : Rows.sourceKeepsRow.holds Try.pinned (OpenSpec.ofChange Rows.sourceKeepsSpec) :=
  OpenClaim.holds_of_wide 8 Try.f8 rfl rfl rfl rfl rfl rfl rfl ⟨rfl, rfl, rfl, rfl, rfl⟩ rfl rfl rfl rfl rfl (by kernel_rfl) Try.func8 (by kernel_rfl)
    (of_decide_eq_true (by kernel_rfl)) (by unfold Func.isWrapper; first | (rw [if_pos (by decide +kernel)]; kernel_rfl) | (rw [if_neg (by decide +kernel)]; exact ⟨rfl, rfl⟩))
    (fun os started H enc _ => lifted os started H enc)
end Go.Proofs.Ytbnlhjooimppeaa.sourceKeeps
namespace Go.Proofs.Ytbnlhjooimppeaa
theorem sourceKeeps_holds : Rows.SourceKeepsSaid := sourceKeeps.over
#print axioms sourceKeeps_holds
end Go.Proofs.Ytbnlhjooimppeaa
