/- Texts that belong together: Srh Sri Srj Sjo Lawsw FSourceOwn. -/
import Derived.Test.YtbnlhjooimppeaaG04
import Derived.Deep.CutRange
import Derived.Test.YtbnlhjooimppeaaRows
import Derived.Test.YtbnlhjooimppeaaG03
import Derived.WalkKit
import Derived.ProofKit
import Derived.OpenShut
import Derived.ShutString
import Derived.ChangeOld
import Derived.Below
import Derived.SizedLaws
import Derived.Deep.SlicePairs
set_option linter.unusedSimpArgs false
set_option linter.unusedVariables false
/- source: the reference's Hear, its parts. -/
namespace Go.Proofs.Ytbnlhjooimppeaa
set_option linter.unusedVariables false
set_option linter.unusedSimpArgs false
open Go.RowKit W Go.Maps
/-- The reference's table, with a list of its own. -/
structure RO (B : Nat) (w : World) (rb : Nat) (lim : Nat) (late idle : Int) (s : Value) (A : List Sr) (mark : Int) : Prop where
  r : Bw w rb 67 #[.int .i64 (lim : Int), .int .i64 late, .int .i64 idle, s, .int .i64 mark]
  row : w.ownsRow B 82 3 s A.length (srcsL A)
  nil : A = [] → s = .slice none 0 0
theorem RO.chg {B : Nat} {S : Nat → Prop} {w w' : World} {rb lim : Nat} {late idle : Int} {s : Value} {A : List Sr} {mark : Int} (h : RO B w rb lim late idle s A mark) (c : Chg S w w') (n1 : ¬ S rb) (n2 : ∀ k, s.ownBlock = some k → ¬ S k) : RO B w' rb lim late idle s A mark :=
  ⟨h.r.chg c n1, chg_row h.row c n2, h.nil⟩
theorem RO.later {B : Nat} {w w' : World} {rb lim : Nat} {late idle : Int} {s : Value} {A : List Sr} {mark : Int} (h : RO B w rb lim late idle s A mark) (c : Below w.heap.size w w') : RO B w' rb lim late idle s A mark :=
  h.chg (S := fun _ => False) (Chg.of_below c) (fun q => q) (fun _ _ q => q)
theorem RO.rt {B : Nat} {w : World} {rb lim : Nat} {late idle : Int} {s : Value} {A : List Sr} {mark : Int} (h : RO B w rb lim late idle s A mark) : ∃ a c, s = .slice a A.length c ∧ RT w rb (lim : Int) late idle a c A mark ∧ ∀ g o, a = some ⟨g, o, none⟩ → g ≠ rb := by
  obtain ⟨a, c, rfl, i⟩ := isS_own h.row rfl
  refine ⟨a, c, rfl, ⟨h.r, i⟩, fun g o e q => ?_⟩
  subst e q
  exact h.r.ne_row h.row (by decide) rfl
theorem RO.form {B : Nat} {w : World} {rb lim : Nat} {late idle : Int} {s : Value} {A : List Sr} {mark : Int} (h : RO B w rb lim late idle s A mark) (h0 : A ≠ []) : ∃ g c, s = .slice (some ⟨g, 0, none⟩) A.length c ∧ A.length ≤ c ∧ c ≤ maxLen ∧ g < w.heap.size ∧ B ≤ g := by
  rcases h.row.2 with ⟨_, e⟩ | ⟨g, cap, cur, rfl, hb, hh, hn, hm, _⟩
  · exact absurd (List.eq_nil_of_length_eq_zero e) h0
  · exact ⟨g, cap, rfl, hn, hm, blk_lt hh, hb⟩
/-! ### where a name stands -/
theorem FdP.tail {a : Sr} {A : List Sr} {name : ByteArray} {i : Nat} (h : FdP (a :: A) name (i + 1)) : ltB a.1 name = true ∧ FdP A name i := by
  refine ⟨h.lt 0 (by simp) (by omega), by have := h.le; simp at this; omega, fun k hk ki => ?_, fun hi => ?_⟩
  · have := h.lt (k + 1) (by simp; omega) (by omega)
    simpa using this
  · have := h.ge (by simp; omega)
    simpa using this
theorem put_at {A : List Sr} {s : Sr} {i : Nat} (hA : Names A) (h : FdP A s.1 i) : putS A s = A.take i ++ s :: A.drop (if (findS A s.1).isSome then i + 1 else i) := by
  induction A generalizing i with
  | nil =>
    have : i = 0 := by have := h.le; simpa using this
    subst this
    simp [putS, dropS, findS]
  | cons a A ih =>
    have h' := List.pairwise_cons.1 hA
    cases i with
    | zero =>
      have g := h.ge (by simp)
      simp only [List.getElem_cons_zero] at g
      by_cases e : a.1 = s.1
      · rw [putS_cons_eq e]
        simp [findS, e]
      · rw [putS_cons_gt g e]
        have : (findS (a :: A) s.1).isSome = false := by
          cases q : (findS (a :: A) s.1).isSome
          · rfl
          · obtain ⟨hi, z⟩ := (h.there hA).1 q
            exact absurd z (by simpa using e)
        rw [this]; simp
    | succ i =>
      obtain ⟨h1, h2⟩ := h.tail
      rw [putS_cons_lt h1, ih h'.2 h2]
      have : findS (a :: A) s.1 = findS A s.1 := by simp [findS, ltB_ne h1]
      rw [this]
      simp only [List.take_succ_cons, List.cons_append]
      split <;> rfl
/-! ### parts of a list -/
theorem srcs_take : ∀ (l : List Sr) (k : Nat), srcsL (l.take k) = (srcsL l).take (k * 3)
  | [], k => by simp [srcsL]
  | e :: l, 0 => by simp [srcsL]
  | e :: l, k + 1 => by
    rw [show (k + 1) * 3 = k * 3 + 1 + 1 + 1 from by omega]
    simp [srcsL, srcs_take l k]
theorem srcs_drop : ∀ (l : List Sr) (k : Nat), srcsL (l.drop k) = (srcsL l).drop (k * 3)
  | [], k => by simp [srcsL]
  | e :: l, 0 => by simp [srcsL]
  | e :: l, k + 1 => by
    rw [show (k + 1) * 3 = k * 3 + 1 + 1 + 1 from by omega]
    simp [srcsL, srcs_drop l k]
theorem size_src (w : World) : (Go.sizeOf (Try.prog.elem 65)).run Try.prog w = .ok 3 w := by kernel_rfl
theorem addz11 (x : Addr) : x.add 0 = x := by unfold Addr.add; simp
theorem srcs_to {a : Option Addr} {n c e : Nat} (he : e ≤ n) (hc : n ≤ c) (v : World) : (Instr.slice 65 (.slice a n c) none (some (.int .i64 (e : Int))) none).run Try.prog v = .ok (.slice a e c) v := by
  rw [run_slice_h (P := Try.prog) (w := v) 65 a n c (by kernel_rfl) .i64 (e : Int) (by omega) (by omega), size_src]
  cases a <;> simp [Result.andThen, sliced, addz11]
theorem srcs_from {g n c k : Nat} {A : List Sr} (hn : n = A.length) (hk : k ≤ n) (hc : n ≤ c) (h63 : c ≤ maxLen) :
    ∃ ad, (∀ v, (Instr.slice 65 (.slice (some ⟨g, 0, none⟩) n c) (some (.int .i64 (k : Int))) none none).run Try.prog v = .ok (.slice (some ad) (n - k) (c - k)) v) ∧ ∀ w : World, (∀ t u, (srcsL A)[t]? = some u → w.cell? ⟨g, t, none⟩ = some u) → ∀ j u, (srcsL (A.drop k))[j]? = some u → w.cell? (ad.add j) = some u := by
  refine ⟨if c = k then ⟨g, 0, none⟩ else ⟨g, k * 3, none⟩, fun v => ?_, fun w h j u e => ?_⟩
  · rw [run_slice_l (P := Try.prog) (w := v) 65 (some ⟨g, 0, none⟩) n c (by kernel_rfl) .i64 (k : Int) (by omega) (by omega), size_src]
    by_cases q : c = k
    · simp [Result.andThen, sliced, q]
    · simp [Result.andThen, sliced, q, Addr.add]
      try (intro z; omega)
  · rw [srcs_drop, List.getElem?_drop] at e
    have lt : k * 3 + j < (srcsL A).length := (List.getElem?_eq_some_iff.1 e).1
    rw [srcs_len] at lt
    have q : ¬ c = k := by omega
    rw [if_neg q, Go.WideShapes.add_plain]
    exact h _ _ e
theorem own_succ {w : World} {base size k : Nat} {e : TypeId} {v : Value} {xs : List Value} (h : w.ownsRow base e size v (k + 1) xs) : ∃ g cap, v = .slice (some ⟨g, 0, none⟩) (k + 1) cap ∧ k + 1 ≤ cap := by
  rcases h.2 with ⟨_, h0⟩ | ⟨g, cap, _, rfl, _, _, hc, _⟩
  · omega
  · exact ⟨g, cap, rfl, hc⟩
theorem srcs_head {w : World} {g : Nat} {A : List Sr} {i : Nat} (hr : ∀ t u, (srcsL A)[t]? = some u → w.cell? ⟨g, t, none⟩ = some u) : ∀ j u, (srcsL (A.take i))[j]? = some u → w.cell? ((⟨g, 0, none⟩ : Addr).add j) = some u := by
  intro j u e
  rw [srcs_take, List.getElem?_take] at e
  split at e
  · rw [Go.WideShapes.add_plain, Nat.zero_add]
    exact hr _ _ e
  · cases e
def HearR (B : Nat) (w : World) (rb : Nat) (lim : Nat) (late idle : Int) (s : Value) (A : List Sr) (mark c : Int) (e : Ending) (w' : World) : Prop :=
  ∃ s', e = .returned (.int .i64 c) ∧ RO B w' rb lim late idle s' A mark ∧ Chg (· = rb) w w' ∧ Mvd w s s'
end Go.Proofs.Ytbnlhjooimppeaa
/- source: the reference's Hear. -/
namespace Go.Proofs.Ytbnlhjooimppeaa
set_option linter.unusedVariables false
set_option linter.unusedSimpArgs false
open Go.RowKit W Go.Maps
section
variable {B : Nat} {w : World} {rb lim : Nat} {late idle : Int} {s : Value} {A : List Sr} {mark : Int}
theorem hearR_bad (h : RO B w rb lim late idle s A mark) (c : Int) {w' : World} (b : Below w.heap.size w w') : HearR B w rb lim late idle s A mark c (.returned (.int .i64 c)) w' :=
  ⟨s, rfl, h.later b, Chg.of_below b, Mvd.refl _ _⟩
set_option maxRecDepth 100000 in
set_option maxHeartbeats 4000000 in
theorem rhear_arg (h : RO B w rb lim late idle s A mark) (name : ByteArray) (at' now : Int) (hb : (secB at' && secB now) = false) :
    Calls Try.prog 41 #[.pointer (some ⟨rb, 0, none⟩), .string name, .int .i64 at', .int .i64 now] w (HearR B w rb lim late idle s A mark 1) := by
  have k1 := rsecond11 at'
  have k2 := rsecond11 now
  have H := hide h
  cases ha : secB at' with
  | false =>
    rw [ha] at k1
    clear h hb ha
    go_enter Try.func41, Try.ntmps41
    go_wp2_with (go_at_call 57; (with_reducible refine Calls.mono (k1 _) ?_); rintro e w' ⟨rfl, rfl⟩)
    go_returns
    exact hearR_bad H.out 1 (Below.refl _ _)
  | true =>
    have hn : secB now = false := by rw [ha] at hb; simpa using hb
    rw [ha] at k1
    rw [hn] at k2
    clear h hb ha hn
    go_enter Try.func41, Try.ntmps41
    go_wp2_with (go_at_call 57; (first | ((with_reducible refine Calls.mono (k1 _) ?_); rintro e w' ⟨rfl, rfl⟩) | ((with_reducible refine Calls.mono (k2 _) ?_); rintro e w' ⟨rfl, rfl⟩)))
    go_returns
    exact hearR_bad H.out 1 (Below.refl _ _)
/-- Put together. -/
theorem hear_fin {ns : Sr} (h : RO B w rb lim late idle s A mark) (hB : B ≤ w.heap.size) (hA : Names A) {w5 w6 : World} {v3 : Value} (bl : Below w.heap.size w w5)
    (o : w5.ownsRow w.heap.size 82 3 v3 (putS A ns).length (srcsL (putS A ns))) (e6 : w6 = w5.setCell ⟨rb, 3, none⟩ v3) :
    RO B w6 rb lim late idle v3 (putS A ns) mark ∧ Chg (· = rb) w w6 ∧ ∀ s0, Mvd w s0 v3 := by
  have r5 := h.later bl
  have C : Chg (· = rb) w5 w6 := by rw [e6]; exact Chg.set _ rfl
  refine ⟨⟨by rw [e6]; exact r5.r.set 3 v3, own_mono' (chg_row o C (fun k e (q : k = rb) => r5.r.ne_row o (by decide) (q ▸ e))) hB, fun e => ?_⟩, (Chg.of_below bl).trans C (fun _ _ q => q), fun s0 k e => .inr (own_old o e).1⟩
  have := (mem_putS hA (s := ns) (x := ns)).2 (.inl rfl)
  rw [e] at this; cases this
/-- Reckoned. -/
theorem reckon_fin {w7 : World} {v3 : Value} {P : List Sr} (h : RO B w7 rb lim late idle v3 P mark) (hl : P.length ≤ 1048576) (hs : ∀ s ∈ P, 0 ≤ s.2.1 ∧ s.2.1 ≤ 1099511627775) (hla : 0 ≤ late ∧ late ≤ 1099511627775) :
    Calls Try.prog 68 #[.pointer (some ⟨rb, 0, none⟩)] w7 fun e w' => e = .returned (.tuple #[]) ∧ RO B w' rb lim late idle v3 P (markS P late mark) ∧ Chg (· = rb) w7 w' := by
  obtain ⟨a, c, rfl, rt, ng⟩ := h.rt
  refine (rreckon_spec rt ng hl hs hla).mono ?_
  rintro e w' ⟨rfl, rt', C⟩
  exact ⟨rfl, ⟨rt'.r, chg_row h.row C (fun k e (q : k = rb) => h.r.ne_row h.row (by decide) (q ▸ e)), h.nil⟩, C⟩
end
set_option maxRecDepth 100000 in
set_option maxHeartbeats 8000000 in
theorem rhear_room {B : Nat} {w : World} {rb lim : Nat} {late idle : Int} {s : Value} {A : List Sr} {mark : Int} (h : RO B w rb lim late idle s A mark) (hB : B ≤ w.heap.size) (hA : Names A) (hl : A.length ≤ 1024) (h0 : A ≠ []) (hs : ∀ s ∈ A, (0 ≤ s.2.1 ∧ s.2.1 ≤ 1099511627775) ∧ (0 ≤ s.2.2 ∧ s.2.2 ≤ 1099511627775)) (hla : 0 ≤ late ∧ late ≤ 1099511627775)
    (name : ByteArray) (at' now : Int) (ha : secB at' = true) (hn : secB now = true) (cc : (findS A name).isSome = true ∨ A.length < lim) :
    Calls Try.prog 41 #[.pointer (some ⟨rb, 0, none⟩), .string name, .int .i64 at', .int .i64 now] w (HearR B w rb lim late idle s (putS A (newS A name at' now)) (markS (putS A (newS A name at' now)) late mark) 0) := by
  have k1 := rsecond11 at'
  have k2 := rsecond11 now
  rw [ha] at k1
  rw [hn] at k2
  obtain ⟨ha1, ha2⟩ := (secB_iff _).1 ha
  obtain ⟨hn1, hn2⟩ := (secB_iff _).1 hn
  obtain ⟨g, c, rfl, nc, cm, gl, gB⟩ := h.form h0
  obtain ⟨a9, c9, e9, rt, ng⟩ := h.rt
  injection e9 with e1 e2 e3
  subst e1 e3
  have kf := rfind_spec rt hA (by omega) name
  have gr := ng g 0 rfl
  obtain ⟨t0, ht0⟩ : ∃ t0, t0 = (findS A name).isSome := ⟨_, rfl⟩
  rw [← ht0] at kf cc
  have T0 := hide ht0
  obtain ⟨n, hnn⟩ : ∃ n, n = A.length := ⟨_, rfl⟩
  have HN := hide hnn
  have H := hide h
  rw [← hnn] at nc hl cc H
  have HA := hide hA
  have HS := hide hs
  have n0 : 0 < n := by
    rw [hnn]
    cases A with
    | nil => exact absurd rfl h0
    | cons a A => simp
  have kf' : Calls Try.prog 67 #[.pointer (some ⟨rb, 0, none⟩), .string name] w fun e w' => ∃ i : Nat, e = .returned (.tuple #[.int .i64 (i : Int), .bool t0]) ∧ Hid (FdP A name i) ∧ i ≤ n ∧ Hid (Below w.heap.size w w') := by
    refine kf.mono ?_
    rintro e w' ⟨i, rfl, f, b⟩
    exact ⟨i, rfl, f, by have := f.le; omega, b⟩
  obtain ⟨i0, hi0⟩ : ∃ i0, Hid (Try.prog.info? 82 = some i0 ∧ i0.zero = some (.agg #[.string ByteArray.empty, .int .i64 0, .int .i64 0]) ∧ i0.size = 3 ∧ i0.bytes = 32) := by
    obtain ⟨i0, h1, h2, h3, h4⟩ := info_parts info_src
    exact ⟨i0, h1, h2, h3, h4⟩
  have lr := h.r.lt
  clear h rt ng kf ht0 hnn hA hs ha hn h0 e2
  go_enter Try.func41, Try.ntmps41
  go_wp2_with (first
    | (go_at_call 57; (first | ((with_reducible refine Calls.mono (k1 _) ?_); rintro e w' ⟨rfl, rfl⟩) | ((with_reducible refine Calls.mono (k2 _) ?_); rintro e w' ⟨rfl, rfl⟩)))
    | (go_at_call 67; refine kf'.mono ?_; rintro e w1 ⟨i, rfl, FD, hin, B1⟩))
  have R1 := hide (H.out.later B1.out)
  have c3 := R1.out.r.cell 3 _ rfl
  have c0 := R1.out.r.cell 0 _ rfl
  have lr1 := R1.out.r.lt
  have sl1 := fun v => srcs_to (a := some ⟨g, 0, none⟩) (n := n) (c := c) hin nc v
  obtain ⟨i2, hi2⟩ : ∃ i2, i2 = if t0 then i + 1 else i := ⟨_, rfl⟩
  have HI2 := hide hi2
  obtain ⟨mx, hmx⟩ : ∃ mx, mx = max (srcOf A name).2.1 at' := ⟨_, rfl⟩
  obtain ⟨ls, hls⟩ : ∃ ls, ls = max (srcOf A name).2.2 now := ⟨_, rfl⟩
  have HMX := hide hmx
  have HLS := hide hls
  have i2n : i2 ≤ n := by
    rw [hi2]
    cases t0 with
    | false => simpa using hin
    | true =>
      obtain ⟨z, _⟩ := (FD.out.there HA.out).1 T0.out.symm
      have := HN.out
      simp; omega
  clear k1 k2 kf' hi2 hmx hls
  go_cut [40] from 27 to 40 (fun s40 w2 => s40 = .bool false ∧ Hid (Below w.heap.size w w2))
  case first =>
    cases t0 with
    | true =>
      go_quiet (fail)
      go_wp2_with fail
      go_meet
      case rel => exact ⟨rfl, hide (B1.out.trans (below_drewN ((Below.refl _ _).mono B1.out.size) _))⟩
    | false =>
      have q : n < lim := by simpa using cc
      have d1 : decide ((lim : Int) ≤ (n : Int)) = false := by rw [decide_eq_false_iff_not]; omega
      have d2 : decide (lim ≤ n) = false := by rw [decide_eq_false_iff_not]; omega
      go_quiet (fail)
      go_wp2_with fail
      go_meet
      case rel => exact ⟨rfl, hide (B1.out.trans (below_drewN ((Below.refl _ _).mono B1.out.size) _))⟩
  rename World => W2
  obtain ⟨rfl, B2⟩ := hcut
  have R2 := hide (H.out.later B2.out)
  have c3' := R2.out.r.cell 3 _ rfl
  have lr2 := R2.out.r.lt
  have z2 := B2.out.size
  have HR := hide (row_look (by have q := R2.out.row; rw [← HN.out] at q; exact q)).1
  clear c3 c0
  go_upto_if 53 with (first
          | (at_builtin
             refine wpList_append_own_at _ rfl _ _ 65 rfl w.heap.size 82 i0 (.agg #[.string ByteArray.empty, .int .i64 0, .int .i64 0]) 3 32 Try.underlying65 hi0.out.1 hi0.out.2.1 hi0.out.2.2.1 hi0.out.2.2.2 ?a1 ?a2 (.slice none 0 0) 0 [] ?a3 ?a4 ⟨g, 0, none⟩ i c (srcsL (A.take i)) ?a5 ?a6 ?a7 ?a8 ?a9 ?b1 ?b2 ?_
             case a1 => rfl
             case a2 => decide
             case a3 => rfl
             case a4 => exact World.ownsRow_nil _ _ _ _
             case a5 => rfl
             case a6 => (rw [srcs_len, List.length_take]; have := HN.out; rw [Nat.min_eq_left (by omega)])
             case a7 => exact srcs_head HR.out
             case a8 => exact srcs_one _
             case a9 => (unfold maxLen; omega)
             case b1 => omega
             case b2 => exact z2
             intro v1 w3 hown hgrow _ hat
             obtain ⟨A1, c1, rfl, _, _⟩ := own_form hown
             rw [Nat.zero_add] at hown ⊢
             have O1 : Hid (w3.ownsRow w.heap.size 82 3 (.slice A1 i c1) i (srcsL (A.take i))) := hown
             have B3 : Hid (Below w.heap.size w w3) := hide (B2.out.grown hgrow z2 (fun j e => by cases e))
             clear hown hgrow hat))
  have z3 := B3.out.size
  have R3 := hide (H.out.later B3.out)
  have c3'' := R3.out.r.cell 3 _ rfl
  have lr3 := R3.out.r.lt
  have gl3 : g < w3.heap.size := Nat.lt_of_lt_of_le gl z3
  have HR3 := hide (row_look (by have q := R3.out.row; rw [← HN.out] at q; exact q)).1
  have bl3 : Hid (Below w3.heap.size w3 (w3.alloc (.cells #[.string name, .int .i64 at', .int .i64 now] 82))) := hide ((Below.refl _ _).alloc (Nat.le_refl _) _)
  clear c3'
  go_cut [9] from 54 to 93 (fun s9 w4 => s9 = .int .i64 (i2 : Int) ∧ w4.cell? ⟨w3.heap.size, 0, none⟩ = some (.string name) ∧ w4.cell? ⟨w3.heap.size, 1, none⟩ = some (.int .i64 mx) ∧ w4.cell? ⟨w3.heap.size, 2, none⟩ = some (.int .i64 ls) ∧ w3.heap.size < w4.heap.size ∧ Hid (Below w3.heap.size w3 w4))
  case first =>
    cases t0 with
    | false =>
      have so : srcOf A name = (ByteArray.empty, 0, 0) := by
        unfold srcOf
        have := T0.out
        cases e : findS A name with
        | none => rfl
        | some z => rw [e] at this; cases this
      have e1 : mx = at' := by rw [HMX.out, so]; simp only; omega
      have e2 : ls = now := by rw [HLS.out, so]; simp only; omega
      have e3 : i2 = i := HI2.out
      subst e1 e2 e3
      clear so
      go_wp2_with fail
      go_meet
      case rel => exact ⟨rfl, by simp [go_sem], by simp [go_sem], by simp [go_sem], by simp, bl3⟩
    | true =>
      obtain ⟨il, en⟩ := (FD.out.there HA.out).1 T0.out.symm
      have so : srcOf A name = A[i] := by
        unfold srcOf
        rw [(findS_some HA.out).2 ⟨List.getElem_mem il, en⟩]; rfl
      have iln : i < n := by have := HN.out; omega
      have x1 := HR3.out (i * 3 + 1) _ (srcs_at il (j := 1) (by decide))
      have x2 := HR3.out (i * 3 + 2) _ (srcs_at il (j := 2) (by decide))
      obtain ⟨⟨sk, sm, sl⟩, hsx⟩ : ∃ x, x = A[i] := ⟨_, rfl⟩
      rw [← hsx] at x1 x2 so
      dsimp only at x1 x2
      have e1 : mx = max sm at' := by rw [HMX.out, so]
      have e2 : ls = max sl now := by rw [HLS.out, so]
      have e3 : i2 = i + 1 := HI2.out
      have rbne : rb ≠ w3.heap.size := by omega
      have gne : g ≠ w3.heap.size := by omega
      have st : ∀ (V : World) k u, Below w3.heap.size w3 V → Below w3.heap.size w3 (V.setCell ⟨w3.heap.size, k, none⟩ u) := fun V k u b => b.setCell (p := ⟨w3.heap.size, k, none⟩) (Nat.le_refl _) u
      have ST := hide st
      have d3 : decide ((i : Int) < (n : Int)) = true := by rw [decide_eq_true_eq]; omega
      have ib1 : (i : Int) < (n : Int) := by omega
      have ib0 : (0 : Int) ≤ (i : Int) := by omega
      have itn : (i : Int).toNat = i := by omega
      clear so hsx en st
      by_cases p1 : at' < sm
      · have f1 := decide_eq_true p1
        have m1 : mx = sm := by omega
        by_cases p2 : now < sl
        · have f2 := decide_eq_true p2
          have m2 : ls = sl := by omega
          subst m1 m2 e3
          clear e1 e2
          go_wp2_with fail
          go_meet
          case rel => exact ⟨by first | rfl | go_num, by simp [go_sem], by simp [go_sem], by simp [go_sem], by simp, hide ((Below.refl _ _).alloc (Nat.le_refl _) _)⟩
        · have f2 := decide_eq_false p2
          have m2 : ls = now := by omega
          subst m1 m2 e3
          clear e1 e2
          go_wp2_with fail
          go_meet
          case rel => exact ⟨by first | rfl | go_num, by simp [go_sem], by simp [go_sem], by simp [go_sem], by simp, hide ((Below.refl _ _).alloc (Nat.le_refl _) _)⟩
      · have f1 := decide_eq_false p1
        have m1 : mx = at' := by omega
        by_cases p2 : now < sl
        · have f2 := decide_eq_true p2
          have m2 : ls = sl := by omega
          subst m1 m2 e3
          clear e1 e2
          go_wp2_with fail
          go_meet
          case rel => exact ⟨by first | rfl | go_num, by simp [go_sem], by simp [go_sem], by simp [go_sem], by simp, hide ((Below.refl _ _).alloc (Nat.le_refl _) _)⟩
        · have f2 := decide_eq_false p2
          have m2 : ls = now := by omega
          subst m1 m2 e3
          clear e1 e2
          go_wp2_with fail
          go_meet
          case rel => exact ⟨by first | rfl | go_num, by simp [go_sem], by simp [go_sem], by simp [go_sem], by simp, bl3⟩
  rename World => W4
  obtain ⟨rfl, y0, y1, y2, z4, B4⟩ := hcut
  have O4 : Hid (W4.ownsRow w.heap.size 82 3 (.slice A1 i c1) i (srcsL (A.take i))) := hide (chg_row O1.out (Chg.of_below (S := fun _ => False) B4.out) (fun _ _ q => q))
  have B4w : Hid (Below w.heap.size w W4) := hide (B3.out.trans (B4.out.mono z3))
  have R4 := hide (R3.out.later B4.out)
  have c34 := R4.out.r.cell 3 _ rfl
  have f34 := R4.out.r.frz 3
  have lr4 := R4.out.r.lt
  have HR4 := hide (row_look (by have q := R4.out.row; rw [← HN.out] at q; exact q)).1
  have z5 : w.heap.size ≤ W4.heap.size := B4w.out.size
  clear c3'' HR3 R3 HR O1
  obtain ⟨ns, hns⟩ : ∃ ns : Sr, ns = (name, mx, ls) := ⟨_, rfl⟩
  have NS : Hid (newS A name at' now = ns) := by show _ = _; rw [hns, HMX.out, HLS.out]; rfl
  have PA : Hid (putS A ns = A.take i ++ [ns] ++ A.drop i2) := by
    have e1 : ns.1 = name := by rw [hns]
    have := put_at (s := ns) HA.out (by rw [e1]; exact FD.out)
    show _ = _
    rw [this, e1, ← T0.out, ← HI2.out]
    simp
  have PL : Hid ((putS A ns).length = i + 1 + (n - i2)) := by
    show _ = _
    rw [PA.out, List.length_append, List.length_append, List.length_take, List.length_drop, ← HN.out, Nat.min_eq_left hin]
    rfl
  have PN : Hid (Names (putS A ns)) := HA.out.put ns
  have i2i : i ≤ i2 := by rw [HI2.out]; split <;> omega
  have lP : Hid ((putS A ns).length ≤ 1025) := by show _ ≤ _; rw [PL.out]; omega
  obtain ⟨ad, sl3, hc3⟩ := srcs_from (g := g) (n := n) (c := c) (A := A) HN.out i2n nc cm
  have HC3 := hide hc3
  have NSE := hide hns
  clear hns hc3
  go_upto_region 16 with (first
          | (at_builtin
             refine wpList_append_own_at _ rfl _ _ 65 rfl w.heap.size 82 i0 (.agg #[.string ByteArray.empty, .int .i64 0, .int .i64 0]) 3 32 Try.underlying65 hi0.out.1 hi0.out.2.1 hi0.out.2.2.1 hi0.out.2.2.2 ?a1 ?a2 (.slice A1 i c1) i (srcsL (A.take i)) ?a3 ?a4 ⟨W4.heap.size, 0, none⟩ 1 1 [.string name, .int .i64 mx, .int .i64 ls] ?a5 ?a6 ?a7 ?a8 ?a9 ?b1 ?b2 ?_
             case a1 => rfl
             case a2 => decide
             case a3 => rfl
             case a4 => exact O4.out.alloc _
             case a5 => rfl
             case a6 => rfl
             case a7 => exact cells_new' _ _ _ _ (by simp)
             case a8 => (intro u hu; simp at hu; rcases hu with rfl | rfl | rfl <;> rfl)
             case a9 => (unfold maxLen; omega)
             case b1 => omega
             case b2 => (simp; omega)
             intro v2 w5 hown hgrow _ hat
             obtain ⟨A2, c2, rfl, _, _⟩ := own_form hown
             have O5 : Hid (w5.ownsRow w.heap.size 82 3 (.slice A2 (i + 1) c2) (i + 1) (srcsL (A.take i ++ [ns]))) := (by rw [srcs_snoc, NSE.out]; exact hown)
             have B5 : Hid (Below w.heap.size w w5) := hide (B4w.out.trans ((Chg.grown2 (w := W4) (S := fun k => (Value.slice A1 i c1).ownBlock = some k) hgrow rfl rfl rfl rfl (fun _ e => e)).below (fun k e => (own_old O4.out e).1) z5))
             clear hown hgrow hat))
  have R5 := hide (H.out.later B5.out)
  have c35 := R5.out.r.cell 3 _ rfl
  have f35 := R5.out.r.frz 3
  have lr5 := R5.out.r.lt
  have z6 : w.heap.size ≤ w5.heap.size := B5.out.size
  have HR5 := hide (row_look (by have q := R5.out.row; rw [← HN.out] at q; exact q)).1
  have rne : Hid (∀ k, (Value.slice A2 (i + 1) c2).ownBlock = some k → k ≠ rb) := fun k e q => by have := (own_old O5.out e).1; omega
  clear c34 f34 y0 y1 y2
  go_wp2_with (first
          | (at_builtin
             refine wpList_append_own_at _ rfl _ _ 65 rfl w.heap.size 82 i0 (.agg #[.string ByteArray.empty, .int .i64 0, .int .i64 0]) 3 32 Try.underlying65 hi0.out.1 hi0.out.2.1 hi0.out.2.2.1 hi0.out.2.2.2 ?a1 ?a2 (.slice A2 (i + 1) c2) (i + 1) (srcsL (A.take i ++ [ns])) ?a3 ?a4 ad (n - i2) (c - i2) (srcsL (A.drop i2)) ?a5 ?a6 ?a7 ?a8 ?a9 ?b1 ?b2 ?_
             case a1 => rfl
             case a2 => decide
             case a3 => rfl
             case a4 => exact O5.out
             case a5 => rfl
             case a6 => (rw [srcs_len, List.length_drop, ← HN.out])
             case a7 => exact HC3.out _ HR5.out
             case a8 => exact srcs_one _
             case a9 => (unfold maxLen; omega)
             case b1 => omega
             case b2 => exact z6
             intro v3 w6 hown hgrow _ hat
             obtain ⟨A3, c3, rfl, _, _⟩ := own_form hown
             have O6 : Hid (w6.ownsRow w.heap.size 82 3 (.slice A3 (i + 1 + (n - i2)) c3) (putS A ns).length (srcsL (putS A ns))) := (by rw [PL.out, PA.out, srcs_app]; exact hown)
             have B6 : Hid (Below w.heap.size w w6) := hide (B5.out.trans ((Chg.grown (S := fun k => (Value.slice A2 (i + 1) c2).ownBlock = some k) hgrow (fun _ e => e)).below (fun k e => (own_old O5.out e).1) z6))
             have R6 := hide (H.out.later B6.out)
             have f36 := R6.out.r.frz 3
             have c36 := R6.out.r.cell 3 _ rfl
             have lr6 := R6.out.r.lt
             clear hown hgrow hat))
  have F := hide (hear_fin (ns := ns) H.out hB HA.out B6.out (by have o := O6.out; exact o) rfl)
  have hs2 : ∀ s ∈ putS A ns, 0 ≤ s.2.1 ∧ s.2.1 ≤ 1099511627775 := fun t ht => by
    rcases (mem_putS HA.out).1 ht with q | ⟨q, _⟩
    · rw [q, NSE.out]
      have := HMX.out
      have b0 : 0 ≤ (srcOf A name).2.1 ∧ (srcOf A name).2.1 ≤ 1099511627775 := by
        unfold srcOf
        cases e : findS A name with
        | none => simp
        | some z => exact (HS.out z ((findS_some HA.out).1 e).1).1
      simp only
      omega
    · exact (HS.out t q).1
  have kr := reckon_fin F.out.1 (by have := lP.out; omega) hs2 hla
  refine kr.mono ?_
  rintro e w8 ⟨rfl, R8, C8⟩
  go_wp2_with fail
  go_returns
  rw [NS.out]
  exact ⟨_, rfl, R8, F.out.2.1.trans C8 (fun _ _ q => q), F.out.2.2 _⟩
end Go.Proofs.Ytbnlhjooimppeaa
/- source: the reference's Hear, the other cases. -/
namespace Go.Proofs.Ytbnlhjooimppeaa
set_option linter.unusedVariables false
set_option linter.unusedSimpArgs false
open Go.RowKit W Go.Maps
set_option maxRecDepth 100000 in
set_option maxHeartbeats 4000000 in
theorem rhear_full {B : Nat} {w : World} {rb lim : Nat} {late idle : Int} {s : Value} {A : List Sr} {mark : Int} (h : RO B w rb lim late idle s A mark) (hA : Names A) (hl : A.length ≤ 1024)
    (name : ByteArray) (at' now : Int) (ha : secB at' = true) (hn : secB now = true) (cc : ¬ ((findS A name).isSome = true ∨ A.length < lim)) :
    Calls Try.prog 41 #[.pointer (some ⟨rb, 0, none⟩), .string name, .int .i64 at', .int .i64 now] w (HearR B w rb lim late idle s A mark 110) := by
  have k1 := rsecond11 at'
  have k2 := rsecond11 now
  rw [ha] at k1
  rw [hn] at k2
  obtain ⟨a, c, rfl, rt, ng⟩ := h.rt
  have kf := rfind_spec rt hA (by omega) name
  have t0 : (findS A name).isSome = false := by
    cases q : (findS A name).isSome
    · rfl
    · exact absurd (.inl q) cc
  rw [t0] at kf
  obtain ⟨n, hnn⟩ : ∃ n, n = A.length := ⟨_, rfl⟩
  have q : lim ≤ n := by
    have : ¬ A.length < lim := fun z => cc (.inr z)
    omega
  have d1 : decide ((lim : Int) ≤ (n : Int)) = true := by rw [decide_eq_true_eq]; omega
  have d2 : decide (lim ≤ n) = true := by rw [decide_eq_true_eq]; omega
  have H := hide h
  rw [← hnn] at H
  have HN := hide hnn
  have lr := h.r.lt
  clear h rt ng t0 hnn hA ha hn cc
  go_enter Try.func41, Try.ntmps41
  go_wp2_with (first
    | (go_at_call 57; (first | ((with_reducible refine Calls.mono (k1 _) ?_); rintro e w' ⟨rfl, rfl⟩) | ((with_reducible refine Calls.mono (k2 _) ?_); rintro e w' ⟨rfl, rfl⟩)))
    | (go_at_call 67; refine kf.mono ?_; rintro e w1 ⟨i, rfl, fd, b1⟩; have R1 := hide (H.out.later b1); have c3 := R1.out.r.cell 3 _ rfl; have c0 := R1.out.r.cell 0 _ rfl; have lr1 := R1.out.r.lt; have B1 := hide b1; clear fd b1))
  go_quiet (fail)
  go_wp2_with fail
  go_returns
  have := hearR_bad H.out 110 (B1.out.trans (below_drewN ((Below.refl w1.heap.size w1).mono B1.out.size) nq))
  rw [HN.out] at this
  exact this
set_option maxRecDepth 100000 in
set_option maxHeartbeats 4000000 in
theorem rhear_first {B : Nat} {w : World} {rb lim : Nat} {late idle : Int} {s : Value} {mark : Int} (h : RO B w rb lim late idle s [] mark) (hB : B ≤ w.heap.size) (hla : 0 ≤ late ∧ late ≤ 1099511627775) (hlim : 0 < lim)
    (name : ByteArray) (at' now : Int) (ha : secB at' = true) (hn : secB now = true) :
    Calls Try.prog 41 #[.pointer (some ⟨rb, 0, none⟩), .string name, .int .i64 at', .int .i64 now] w (HearR B w rb lim late idle s (putS [] (newS [] name at' now)) (markS (putS [] (newS [] name at' now)) late mark) 0) := by
  have k1 := rsecond11 at'
  have k2 := rsecond11 now
  rw [ha] at k1
  rw [hn] at k2
  obtain ⟨ha1, ha2⟩ := (secB_iff _).1 ha
  obtain ⟨hn1, hn2⟩ := (secB_iff _).1 hn
  have es := h.nil rfl
  subst es
  obtain ⟨a, c, e9, rt, ng⟩ := h.rt
  injection e9 with e1 e2 e3
  subst e1 e3
  have kf := rfind_spec rt List.Pairwise.nil (by simp) name
  have t0 : (findS [] name).isSome = false := rfl
  rw [t0] at kf
  have kf' : Calls Try.prog 67 #[.pointer (some ⟨rb, 0, none⟩), .string name] w fun e w' => e = .returned (.tuple #[.int .i64 0, .bool false]) ∧ Hid (Below w.heap.size w w') := by
    refine kf.mono ?_
    rintro e w' ⟨i, rfl, f, b⟩
    have : i = 0 := by have := f.le; simpa using this
    subst this
    exact ⟨rfl, b⟩
  obtain ⟨i0, hi0⟩ : ∃ i0, Hid (Try.prog.info? 82 = some i0 ∧ i0.zero = some (.agg #[.string ByteArray.empty, .int .i64 0, .int .i64 0]) ∧ i0.size = 3 ∧ i0.bytes = 32) := by
    obtain ⟨i0, h1, h2, h3, h4⟩ := info_parts info_src
    exact ⟨i0, h1, h2, h3, h4⟩
  have d1 : decide ((lim : Int) ≤ 0) = false := by rw [decide_eq_false_iff_not]; omega
  have d2 : decide (lim ≤ 0) = false := by rw [decide_eq_false_iff_not]; omega
  have H := hide h
  have lr := h.r.lt
  clear h rt ng t0 ha hn kf e2
  go_enter Try.func41, Try.ntmps41
  go_wp2_with (first
    | (go_at_call 57; (first | ((with_reducible refine Calls.mono (k1 _) ?_); rintro e w' ⟨rfl, rfl⟩) | ((with_reducible refine Calls.mono (k2 _) ?_); rintro e w' ⟨rfl, rfl⟩)))
    | (go_at_call 67; refine kf'.mono ?_; rintro e w1 ⟨rfl, B1⟩; have R1 := hide (H.out.later B1.out); have c3 := R1.out.r.cell 3 _ rfl; have c0 := R1.out.r.cell 0 _ rfl; have lr1 := R1.out.r.lt))
  go_quiet (fail)
  have R2 := hide (R1.out.later (below_drewN (Below.refl _ _) nq))
  have B2 : Hid (Below w.heap.size w (w1.drewN nq)) := B1.out.trans (below_drewN ((Below.refl w1.heap.size w1).mono B1.out.size) nq)
  generalize w1.drewN nq = W2 at R2 B2 ⊢
  have c3' := R2.out.r.cell 3 _ rfl
  have lr2 := R2.out.r.lt
  clear c3 c0
  obtain ⟨ns, hns⟩ : ∃ ns : Sr, ns = (name, at', now) := ⟨_, rfl⟩
  have NS : Hid (newS [] name at' now = ns) := by
    show _ = _
    rw [hns]
    unfold newS srcOf
    simp only [findS, List.find?_nil, Option.getD_none]
    rw [show max 0 at' = at' from by omega, show max 0 now = now from by omega]
  have PA : Hid (putS [] ns = [ns]) := by show _ = _; rfl
  have NSE := hide hns
  have z2 := B2.out.size
  clear hns
  go_upto_region 16 with (first
          | (at_builtin
             refine wpList_append_own_at _ rfl _ _ 65 rfl w.heap.size 82 i0 (.agg #[.string ByteArray.empty, .int .i64 0, .int .i64 0]) 3 32 Try.underlying65 hi0.out.1 hi0.out.2.1 hi0.out.2.2.1 hi0.out.2.2.2 ?a1 ?a2 (.slice none 0 0) 0 [] ?a3 ?a4 ⟨W2.heap.size + 1, 0, none⟩ 1 1 [.string name, .int .i64 at', .int .i64 now] ?a5 ?a6 ?a7 ?a8 ?a9 ?b1 ?b2 ?_
             case a1 => rfl
             case a2 => decide
             case a3 => rfl
             case a4 => exact World.ownsRow_nil _ _ _ _
             case a5 => rfl
             case a6 => rfl
             case a7 => exact cells_new' _ _ _ _ (by simp)
             case a8 => (intro u hu; simp at hu; rcases hu with rfl | rfl | rfl <;> rfl)
             case a9 => (unfold maxLen; omega)
             case b1 => omega
             case b2 => (simp; omega)
             intro v2 w5 hown hgrow _ hat
             obtain ⟨g2, c2, rfl, c2b⟩ := own_succ hown
             have c2c : 1 ≤ c2 := c2b
             have O5 : Hid (w5.ownsRow w.heap.size 82 3 (.slice (some ⟨g2, 0, none⟩) 1 c2) (putS [] ns).length (srcsL (putS [] ns))) := (by rw [PA.out, NSE.out]; exact hown)
             have B5 : Hid (Below w.heap.size w w5) := hide (((B2.out.alloc z2 _).alloc (Nat.le_trans z2 (by simp)) _).grown hgrow (Nat.le_trans z2 (by simp; omega)) (fun j e => by cases e))
             clear hown hgrow hat))
  have R5 := hide (H.out.later B5.out)
  have c35 := R5.out.r.cell 3 _ rfl
  have f35 := R5.out.r.frz 3
  have lr5 := R5.out.r.lt
  clear c3'
  go_wp2_with fail
  have F := hide (hear_fin (ns := ns) H.out hB List.Pairwise.nil B5.out O5.out rfl)
  have kr := reckon_fin F.out.1 (by rw [PA.out]; simp) (fun t ht => by rw [PA.out, List.mem_singleton] at ht; rw [ht, NSE.out]; exact ⟨ha1, ha2⟩) hla
  refine kr.mono ?_
  rintro e w8 ⟨rfl, R8, C8⟩
  go_wp2_with fail
  go_returns
  rw [NS.out]
  exact ⟨_, rfl, R8, F.out.2.1.trans C8 (fun _ _ q => q), F.out.2.2 _⟩
theorem rhear_spec {B : Nat} {w : World} {rb lim : Nat} {late idle : Int} {s : Value} {A : List Sr} {mark : Int} (h : RO B w rb lim late idle s A mark) (hB : B ≤ w.heap.size) (hA : Names A) (hl : A.length ≤ 1024) (hs : ∀ s ∈ A, (0 ≤ s.2.1 ∧ s.2.1 ≤ 1099511627775) ∧ (0 ≤ s.2.2 ∧ s.2.2 ≤ 1099511627775)) (hla : 0 ≤ late ∧ late ≤ 1099511627775) (hlim : 0 < lim)
    (name : ByteArray) (at' now : Int) :
    Calls Try.prog 41 #[.pointer (some ⟨rb, 0, none⟩), .string name, .int .i64 at', .int .i64 now] w (HearR B w rb lim late idle s (heA lim A name at' now) (heM lim late A mark name at' now) (heC lim A name at' now)) := by
  unfold heA heM heC heOk
  cases hb : (secB at' && secB now) with
  | false => exact rhear_arg h name at' now hb
  | true =>
    have ha : secB at' = true := by simp only [Bool.and_eq_true] at hb; exact hb.1
    have hn : secB now = true := by simp only [Bool.and_eq_true] at hb; exact hb.2
    by_cases cc : (findS A name).isSome = true ∨ A.length < lim
    · have e : ((findS A name).isSome || decide (A.length < lim)) = true := by simpa using cc
      rw [e]
      by_cases h0 : A = []
      · subst h0
        exact rhear_first h hB hla hlim name at' now ha hn
      · exact rhear_room h hB hA hl h0 hs hla name at' now ha hn cc
    · have e : ((findS A name).isSome || decide (A.length < lim)) = false := by
        cases q : ((findS A name).isSome || decide (A.length < lim))
        · rfl
        · exact absurd (by simpa using q) cc
      rw [e]
      exact rhear_full h hA hl name at' now ha hn cc
end Go.Proofs.Ytbnlhjooimppeaa
/- source: the table and the reference's, side by side. -/
namespace Go.Proofs.Ytbnlhjooimppeaa
set_option linter.unusedVariables false
set_option linter.unusedSimpArgs false
open Go.RowKit W Go.Maps
section
variable {B B' : Nat} {w w' : World} {b : Tb} {rb lim lim' : Nat} {late idle late' idle' : Int} {v1 v2 s : Value} {A A' : List Sr} {r1 r2 : List En} {mark mark' : Int}
/-- What a table's call leaves of the reference's. -/
theorem RO.tab (h : RO B' w rb lim' late' idle' s A' mark') (t : TM B w b lim late idle v1 v2 A r1 r2 mark) (c : Chg (tS b v1 v2) w w') : RO B' w' rb lim' late' idle' s A' mark' := by
  refine h.chg c ?_ ?_
  · rintro (q | q | q | q)
    · exact h.r.ne t.mem.i (by decide) q
    · exact h.r.ne_map t.mem.m q
    · exact h.r.nkS t.mem.qa1 (by decide) (by decide) q
    · exact h.r.nkS t.mem.qa2 (by decide) (by decide) q
  · rintro k e (q | q | q | q)
    · subst q; exact t.mem.i.ne_row h.row (by decide) e
    · subst q; exact row_ne_map h.row t.mem.m e
    · exact t.mem.qa1.ne_own h.row (by decide) (by decide) k q e
    · exact t.mem.qa2.ne_own h.row (by decide) (by decide) k q e
/-- What the reference's call leaves of a table. -/
theorem TM.ref (t : TM B w b lim late idle v1 v2 A r1 r2 mark) (h : RO B' w rb lim' late' idle' s A' mark') (c : Chg (· = rb) w w') : TM B w' b lim late idle v1 v2 A r1 r2 mark := by
  refine ⟨⟨t.mem.t.chg c ?_, t.mem.i.chg c ?_, t.mem.qa1.chg c ?_ ?_, t.mem.qa2.chg c ?_ ?_, t.mem.m.chg c ?_, t.mem.a12, t.mem.as1, t.mem.as2, t.mem.aq1, t.mem.aq2, t.mem.bt, t.mem.bi, t.mem.bs⟩, t.pl⟩
  · exact t.mem.t.ne h.r (by decide)
  · exact t.mem.i.ne h.r (by decide)
  · exact t.mem.qa1.q.ne h.r (by decide)
  · rintro k z q; subst q; exact h.r.nkS t.mem.qa1 (by decide) (by decide) z
  · exact t.mem.qa2.q.ne h.r (by decide)
  · rintro k z q; subst q; exact h.r.nkS t.mem.qa2 (by decide) (by decide) z
  · exact fun q => h.r.ne_map t.mem.m q.symm
/-- Both, between calls. -/
structure NJ (W : World) (b : Tb) (rb lim : Nat) (late idle : Int) (wr : World) (v1 v2 s : Value) (A : List Sr) (r1 r2 : List En) (mark : Int) : Prop where
  tm : TM W.heap.size wr b lim late idle v1 v2 A r1 r2 mark
  ro : RO W.heap.size wr rb lim late idle s A mark
  bl : Below W.heap.size W wr
theorem NJ.below {W wr : World} (h : NJ W b rb lim late idle wr v1 v2 s A r1 r2 mark) (k : Below wr.heap.size wr w') : NJ W b rb lim late idle w' v1 v2 s A r1 r2 mark := ⟨h.tm.later k, h.ro.later k, h.bl.trans (k.mono h.bl.size)⟩
theorem NJ.len {W wr : World} (h : NJ W b rb lim late idle wr v1 v2 s A r1 r2 mark) : A.length ≤ 1024 := by have := h.tm.mem.qa1.le; have := h.tm.pl.lim; have := h.tm.pl.s1.len; omega
theorem NJ.tabn {W wr w1 : World} {v1' v2' : Value} {r1' r2' : List En} (h : NJ W b rb lim late idle wr v1 v2 s A r1 r2 mark) (k : Below wr.heap.size wr w1) (t : TM W.heap.size w' b lim late idle v1' v2' A' r1' r2' mark') (c : Chg (tS b v1 v2) w1 w') :
    TM W.heap.size w' b lim late idle v1' v2' A' r1' r2' mark' ∧ RO W.heap.size w' rb lim late idle s A mark ∧ Below W.heap.size W w' :=
  ⟨t, (h.below k).ro.tab (h.below k).tm c, (h.below k).bl.trans (c.below (fun k' q => ((h.below k).tm.old k' q).1) (h.below k).bl.size)⟩
theorem NJ.refn {W wr w1 : World} {s' : Value} (t : TM W.heap.size wr b lim late idle v1 v2 A' r1 r2 mark') (r : RO W.heap.size wr rb lim late idle s A mark) (bl : Below W.heap.size W wr) (hrb : W.heap.size ≤ rb) (k : Below wr.heap.size wr w1) (r' : RO W.heap.size w' rb lim late idle s' A' mark') (c : Chg (· = rb) w1 w') :
    NJ W b rb lim late idle w' v1 v2 s' A' r1 r2 mark' :=
  ⟨(t.later k).ref (r.later k) c, r', (bl.trans (k.mono bl.size)).trans (c.below (fun k' (q : k' = rb) => by rw [q]; exact hrb) (Nat.le_trans bl.size k.size))⟩
/-- The reference's table has a block of the statement's own. -/
theorem RO.bl {rb' : Nat} (h : RO B w rb' lim late idle s A mark) (hB : B ≤ rb') : ∀ {V : World}, Chg (· = rb') w V → B ≤ w.heap.size → Below B w V := fun c z => c.below (fun k q => by rw [q]; exact hB) z
end
end Go.Proofs.Ytbnlhjooimppeaa
/- source: SourceOwn. -/
namespace Go.Proofs.Ytbnlhjooimppeaa
set_option linter.unusedVariables false
set_option linter.unusedSimpArgs false
open Go.RowKit W Go.Maps
set_option maxRecDepth 100000 in
set_option maxHeartbeats 8000000 in
theorem law_SourceOwn (a : Option Addr) (n c : Nat) (L : List Oq) (hn : L.length = n ∧ n ≤ 140737488355328) (hsz : ∀ o ∈ L, o.nm.size ≤ maxLen) (W : World) (hI : IsOq W a L) :
    Calls Try.prog 12 #[.slice a n c] W fun e w' => e = .returned (.bool true) ∧ Below W.heap.size W w' := by
  obtain ⟨hl, hb⟩ := hn
  have ka := alive11_spec
  have HL := hide hl
  have HS := hide hsz
  have HI := hide hI
  clear hl hsz hI
  have kn := tnew_ok 1024 (by decide) (by decide) 0 50 (by decide) (by decide) (by decide) W
  have kr := fun w => rnew_ok 1024 (by decide) (by decide) 0 50 (by decide) (by decide) w
  rw [show ((1024 : Nat) : Int) = 1024 from rfl] at kn
  simp only [show ((1024 : Nat) : Int) = 1024 from rfl] at kr
  go_enter Try.func12, Try.ntmps12
  go_wp2_with (first
    | (go_at_call 31; refine kn.mono ?_; rintro e w1 ⟨b, rfl, t1, b1⟩)
    | (go_at_call 32; refine (kr _).mono ?_; rintro e w2 ⟨rfl, b2⟩))
  obtain ⟨W3, hW3⟩ : ∃ W3, W3 = w2.alloc (.cells #[.int .i64 1024, .int .i64 0, .int .i64 50, .slice none 0 0, .int .i64 0] 67) := ⟨_, rfl⟩
  have z1 := b1.size
  have z2 := b2.size
  have b3 : Below w2.heap.size w2 W3 := by rw [hW3]; exact (Below.refl _ _).alloc (Nat.le_refl _) _
  have r3 : Bw W3 w2.heap.size 67 #[.int .i64 1024, .int .i64 0, .int .i64 50, .slice none 0 0, .int .i64 0] := by rw [hW3]; exact Bw.new w2 _ _
  rw [← hW3]
  obtain ⟨rb, hrb⟩ : ∃ rb, rb = w2.heap.size := ⟨_, rfl⟩
  rw [← hrb] at r3 ⊢
  have rbB : W.heap.size ≤ rb := by omega
  have J0 : Hid (NJ W b rb 1024 0 50 W3 (.slice none 0 0) (.slice none 0 0) (.slice none 0 0) [] [] [] 0) :=
    ⟨(t1.later b2).later b3, ⟨r3, World.ownsRow_nil _ _ _ _, fun _ => rfl⟩, b1.trans ((b2.mono z1).trans (b3.mono (by omega)))⟩
  clear kn kr t1 b1 b2 b3 r3 hW3 z1 z2 hrb
  go_loopw [7] (fun s7 wr => ∃ (i : Nat) (v1 v2 s : Value) (A : List Sr) (r1 r2 : List En) (mark : Int), s7 = .int .i64 (i : Int) ∧ i ≤ n ∧ Hid (NJ W b rb 1024 0 50 wr v1 v2 s A r1 r2 mark)) (fun s7 _ => n - (intOf s7).toNat)
  case atStart => exact ⟨0, _, _, _, [], [], [], 0, rfl, by omega, J0⟩
  case round =>
    obtain ⟨i, v1, v2, s, A, r1, r2, mark, rfl, hi, N⟩ := hrel
    by_cases hlt : i < n
    · have e1 : decide ((i : Int) < (n : Int)) = true := by rw [decide_eq_true_eq]; omega
      have e2 : decide (i < n) = true := by rw [decide_eq_true_eq]; omega
      have il : i < L.length := by have := HL.out; omega
      obtain ⟨g, o, rfl, gl, x0, x1, x2, x3⟩ := (HI.out.later (N.out.bl)).at_ il
      have xs : L[i].nm.size ≤ maxLen := HS.out _ (List.getElem_mem il)
      obtain ⟨⟨kd, nm, t, tn⟩, hq⟩ : ∃ q, q = L[i] := ⟨_, rfl⟩
      have HQ := hide hq
      rw [← hq] at x0 x1 x2 x3 xs
      dsimp only at x0 x1 x2 x3 xs
      have zW : W.heap.size ≤ wr.heap.size := N.out.bl.size
      have lA := hide N.out.len
      have kh := fun W' (q : Below wr.heap.size wr W') => thear_spec (N.out.tm.later q) (Nat.le_trans zW q.size) nm xs t tn
      obtain ⟨A', hA'⟩ : ∃ A', A' = heA 1024 A nm t tn := ⟨_, rfl⟩
      obtain ⟨mk, hmk⟩ : ∃ mk, mk = heM 1024 0 A mark nm t tn := ⟨_, rfl⟩
      rw [← hA', ← hmk] at kh
      have HA' := hide hA'
      have HMK := hide hmk
      generalize heC 1024 A nm t tn = C at kh
      clear hq hA' hmk
      go_wp2_with fail
      go_cut [] from 26 to 42 (fun w2 => ∃ v1' v2' r1' r2', Hid (TM W.heap.size w2 b 1024 0 50 v1' v2' A' r1' r2' mk) ∧ Hid (RO W.heap.size w2 rb 1024 0 50 s A mark) ∧ Hid (Below W.heap.size W w2))
      case first =>
        go_region_with (go_at_call 39; (with_reducible refine Calls.mono (kh _ (by first | exact Below.refl _ _ | exact (Below.refl _ _).drew | exact below_drewN (Below.refl _ _) _)) ?_); rintro e w2 ⟨v1', v2', r1', r2', rfl, t2, c2, _, _⟩; have Q2 := hide (N.out.tabn (by first | exact Below.refl _ _ | exact (Below.refl _ _).drew | exact below_drewN (Below.refl _ _) _) t2 c2); clear t2 c2)
        all_goals
          go_wp2_with fail
          go_meet
          case rel => exact ⟨v1', v2', r1', r2', Q2.out.1, Q2.out.2.1, Q2.out.2.2⟩
      rename World => w2
      obtain ⟨v1', v2', r1', r2', T2, R2, B2⟩ := hcut
      obtain ⟨g', o', e9, gl2, x0', x1', x2', x3'⟩ := (HI.out.later B2.out).at_ il
      injection e9 with e9
      injection e9 with e10 e11
      subst e10 e11
      rw [← HQ.out] at x0' x1' x2' x3'
      dsimp only at x0' x1' x2' x3'
      have zW2 : W.heap.size ≤ w2.heap.size := B2.out.size
      have kh2 := fun W' (q : Below w2.heap.size w2 W') => rhear_spec (R2.out.later q) (Nat.le_trans zW2 q.size) N.out.tm.pl.names lA.out (fun s hs => ⟨(N.out.tm.pl.sec s hs).1, (N.out.tm.pl.sec s hs).2.1⟩) (by decide) (by decide) nm t tn
      rw [← HA'.out, ← HMK.out] at kh2
      generalize heC 1024 A nm t tn = C at kh2
      clear kh x0 x1 x2 x3 gl
      go_wp2_with fail
      go_region_with (go_at_call 41; (with_reducible refine Calls.mono (kh2 _ (by first | exact Below.refl _ _ | exact (Below.refl _ _).drew | exact below_drewN (Below.refl _ _) _)) ?_); rintro e w3 ⟨s', rfl, r3, c3, _⟩; have J3 := hide (NJ.refn T2.out R2.out B2.out rbB (by first | exact Below.refl _ _ | exact (Below.refl _ _).drew | exact below_drewN (Below.refl _ _) _) r3 c3); clear r3 c3)
      all_goals
        go_wp2_with fail
        go_roundw
        case rel => exact ⟨i + 1, v1', v2', s', A', r1', r2', mk, by go_num, by omega, J3⟩
        case measure => (first | (simp [intOf]; done) | (simp [intOf]; omega))
    · obtain rfl : i = n := by omega
      have e1 : decide ((i : Int) < (i : Int)) = false := by rw [decide_eq_false_iff_not]; omega
      have e2 : decide (i < i) = false := by rw [decide_eq_false_iff_not]; omega
      obtain ⟨aR, cR, rfl, rt, _⟩ := N.out.ro.rt
      have RS := hide rt.is
      obtain ⟨m, hm⟩ : ∃ m, m = A.length := ⟨_, rfl⟩
      have HM := hide hm
      have lA : m ≤ 1024 := by have := N.out.len; omega
      have zW : W.heap.size ≤ wr.heap.size := N.out.bl.size
      have N' := hide N.out
      rw [← hm] at N'
      obtain ⟨i0, hi0⟩ : ∃ i0, Hid (Try.prog.info? 82 = some i0 ∧ i0.zero = some (.agg #[.string ByteArray.empty, .int .i64 0, .int .i64 0]) ∧ i0.size = 3 ∧ i0.bytes = 32) := by
        obtain ⟨i0, h1, h2, h3, h4⟩ := info_parts info_src
        exact ⟨i0, h1, h2, h3, h4⟩
      obtain ⟨wo, rfl⟩ : ∃ wo, wo = wr := ⟨_, rfl⟩
      have kl : Calls Try.prog 37 #[.pointer (some ⟨b.tb, 0, none⟩)] wo fun e w' => ∃ s c, e = .returned (.slice s m c) ∧ Hid (w'.ownsRow wo.heap.size 82 3 (.slice s m c) m (srcsL A)) ∧ Hid (Below wo.heap.size wo w') := by
        refine (tall_spec N.out.tm).mono ?_
        rintro e w' ⟨s, rfl, o, bl⟩
        obtain ⟨aS, cS, rfl, _⟩ := isS_own o rfl
        exact ⟨aS, cS, by rw [HM.out], by rw [HM.out]; exact o, bl⟩
      clear hm rt N
      go_wp2_with (go_at_call 37; refine kl.mono ?_; rintro e w4 ⟨aS, cS, rfl, O4, B4⟩)
      go_loopw [9] (fun s9 wr2 => ∃ (k : Nat) (xs : List Value), s9 = .int .i64 (k : Int) ∧ k ≤ m ∧ Hid (wr2.ownsRow wo.heap.size 82 3 (.slice aS m cS) m xs) ∧ Hid (Below wo.heap.size wo wr2)) (fun s9 _ => m - (intOf s9).toNat)
      case atStart => exact ⟨0, _, rfl, by omega, O4, B4⟩
      case round =>
        obtain ⟨k, xs, rfl, hk, OX, BX⟩ := hrel
        by_cases hkm : k < m
        · have f1 : decide ((k : Int) < (m : Int)) = true := by rw [decide_eq_true_eq]; omega
          have f2 : decide (k < m) = true := by rw [decide_eq_true_eq]; omega
          obtain ⟨m1, hm1⟩ : ∃ m1, m = m1 + 1 := ⟨m - 1, by omega⟩
          obtain ⟨g2, c2, e9, _⟩ := own_succ (k := m1) (by rw [← hm1]; exact OX.out)
          injection e9 with e9 e10 e11
          subst e9
          have lx : xs.length = m * 3 := OX.out.1
          obtain ⟨r1, r2, r3, r4⟩ := row_look OX.out
          have y0 := r1 (k * 3) _ (List.getElem?_eq_getElem (by omega))
          have y1 := r1 (k * 3 + 1) _ (List.getElem?_eq_getElem (by omega))
          have y2 := r1 (k * 3 + 2) _ (List.getElem?_eq_getElem (by omega))
          have f3 := r2 (k * 3)
          have f4 := r2 (k * 3 + 1)
          have f5 := r2 (k * 3 + 2)
          have O1 := row_put OX.out (k * 3) (by omega) (.string ⟨#[116, 117, 114, 110, 101, 100]⟩)
          have O2 := row_put O1 (k * 3 + 1) (by omega) (.int .i64 (-1))
          have O3 := hide (row_put O2 (k * 3 + 2) (by omega) (.int .i64 0))
          have B3 := hide (((BX.out.setCell (p := ⟨g2, k * 3, none⟩) r4 (.string ⟨#[116, 117, 114, 110, 101, 100]⟩)).setCell (p := ⟨g2, k * 3 + 1, none⟩) r4 (.int .i64 (-1))).setCell (p := ⟨g2, k * 3 + 2, none⟩) r4 (.int .i64 0))
          generalize xs[k * 3] = u0 at y0
          generalize xs[k * 3 + 1] = u1 at y1
          generalize xs[k * 3 + 2] = u2 at y2
          clear hm1 e10 e11 lx r1 r2 O1 O2
          go_wp2_with fail
          go_roundw
          case rel => exact ⟨k + 1, _, by go_num, by omega, O3, B3⟩
          case measure => (first | (simp [intOf]; done) | (simp [intOf]; omega))
        · obtain rfl : k = m := by omega
          have f1 : decide ((k : Int) < (k : Int)) = false := by rw [decide_eq_false_iff_not]; omega
          have f2 : decide (k < k) = false := by rw [decide_eq_false_iff_not]; omega
          have zX := BX.out.size
          go_upto_region 16 with (first
          | (at_builtin
             refine wpList_append_own_at _ rfl _ _ 65 rfl wo.heap.size 82 i0 (.agg #[.string ByteArray.empty, .int .i64 0, .int .i64 0]) 3 32 Try.underlying65 hi0.out.1 hi0.out.2.1 hi0.out.2.2.1 hi0.out.2.2.2 ?a1 ?a2 (.slice aS k cS) k xs ?a3 ?a4 ⟨wr.heap.size, 0, none⟩ 1 1 [.string ByteArray.empty, .int .i64 0, .int .i64 0] ?a5 ?a6 ?a7 ?a8 ?a9 ?b1 ?b2 ?_
             case a1 => rfl
             case a2 => decide
             case a3 => rfl
             case a4 => exact OX.out.alloc _
             case a5 => rfl
             case a6 => rfl
             case a7 => exact cells_new' _ _ _ _ (by simp)
             case a8 => (intro u hu; simp at hu; rcases hu with rfl | rfl | rfl <;> rfl)
             case a9 => (unfold maxLen; omega)
             case b1 => omega
             case b2 => (simp; omega)
             intro v5 w5 hown hgrow _ hat
             obtain ⟨A5, c5, rfl, _, _⟩ := own_form hown
             have B5 : Hid (Below wo.heap.size wo w5) := hide (BX.out.trans ((Chg.grown2 (w := wr) (S := fun k' => (Value.slice aS k cS).ownBlock = some k') hgrow rfl rfl rfl rfl (fun _ e => e)).below (fun k' e => (own_old OX.out e).1) zX))
             clear hown hgrow hat))
          have N5 := hide (N'.out.below B5.out)
          have B5w : Hid (Below W.heap.size W w5) := N5.out.bl
          have zw5 : W.heap.size ≤ w5.heap.size := N5.out.bl.size
          have c3 := N5.out.ro.r.cell 3 _ rfl
          have c4 := N5.out.ro.r.cell 4 _ rfl
          have l3 := N5.out.ro.r.lt
          have CE : Hid (∀ V, Below w5.heap.size w5 V → V.cell? ⟨rb, 3, none⟩ = some (.slice aR k cR) ∧ V.cell? ⟨rb, 4, none⟩ = some (.int .i64 mark) ∧ rb < V.heap.size) := fun V q => ⟨(N5.out.ro.later q).r.cell 3 _ rfl, (N5.out.ro.later q).r.cell 4 _ rfl, (N5.out.ro.later q).r.lt⟩
          have kl6 : ∀ V, Below w5.heap.size w5 V → Calls Try.prog 37 #[.pointer (some ⟨b.tb, 0, none⟩)] V fun e w' => ∃ a c, e = .returned (.slice a k c) ∧ Hid (IsS w' a A) ∧ Hid (Below w5.heap.size w5 w') ∧ w'.cell? ⟨rb, 3, none⟩ = some (.slice aR k cR) ∧ w'.cell? ⟨rb, 4, none⟩ = some (.int .i64 mark) ∧ rb < w'.heap.size := fun V q => by
            refine (tall_is (N5.out.tm.later q)).mono ?_
            rintro e w' ⟨a, c, rfl, i, bl⟩
            have bb := q.trans (bl.mono q.size)
            exact ⟨a, c, by rw [HM.out], i, bb, CE.out w' bb⟩
          have ks6 : ∀ V a c, Below w5.heap.size w5 V → IsS V a A → Calls Try.prog 36 #[.slice a k c, .slice aR k cR] V fun e w' => e = .returned (.bool true) ∧ Hid (Below w5.heap.size w5 w') ∧ w'.cell? ⟨rb, 3, none⟩ = some (.slice aR k cR) ∧ w'.cell? ⟨rb, 4, none⟩ = some (.int .i64 mark) ∧ rb < w'.heap.size := fun V a c q i => by
            have kk := rsame_spec (c1 := c) (c2 := cR) i ((RS.out.later B5.out).later q) (by have := HM.out; omega)
            rw [← HM.out] at kk
            refine kk.mono ?_
            rintro e w' ⟨rfl, bl⟩
            have bb := q.trans (bl.mono q.size)
            exact ⟨rfl, bb, CE.out w' bb⟩
          have km6 : ∀ V, Below w5.heap.size w5 V → CalcN 35 #[.pointer (some ⟨b.tb, 0, none⟩)] V (.int .i64 mark) := fun V q => tmark (N5.out.tm.later q)
          have ka6 : ∀ V, Below w5.heap.size w5 V → Calls Try.prog 33 #[] V fun e w' => e = .returned (.bool true) ∧ Hid (Below w5.heap.size w5 w') := fun V q => by
            refine (ka V).mono ?_
            rintro e w' ⟨rfl, bl⟩
            exact ⟨rfl, q.trans (bl.mono q.size)⟩
          have KS6 := hide ks6
          clear ka kl ks6
          have S0 : w5.cell? ⟨rb, 3, none⟩ = some (.slice aR k cR) ∧ w5.cell? ⟨rb, 4, none⟩ = some (.int .i64 mark) := ⟨c3, c4⟩
          have wk1 : IntKind.i64.wrap ((k : Int) + 1) = (k : Int) + 1 := by rw [IntKind.wrap_i64]; omega
          have wk2 : ((((k + 1 : Nat)) : Int) == (k : Int) + 1) = true := by simp
          have wk3 : (((k : Int) + 1) == (k : Int) + 1) = true := by simp
          go_region_held3 (fun w' => w'.cell? ⟨rb, 3, none⟩ = some (.slice aR k cR) ∧ w'.cell? ⟨rb, 4, none⟩ = some (.int .i64 mark))
            (first | exact S0 | exact S7 | exact S8 | exact S10)
            (first
            | (go_at_call 37; (with_reducible refine Calls.mono (kl6 _ (by first | exact Below.refl _ _ | exact (Below.refl _ _).drew | exact below_drewN (Below.refl _ _) _)) ?_); rintro e w7 ⟨a7, c7, rfl, I7, B7, g3, g4, g5⟩; have S7 : w7.cell? ⟨rb, 3, none⟩ = some (.slice aR k cR) ∧ w7.cell? ⟨rb, 4, none⟩ = some (.int .i64 mark) := ⟨g3, g4⟩)
            | (go_at_call 36; (with_reducible refine Calls.mono (KS6.out _ a7 c7 (by first | exact Below.refl _ _ | exact (Below.refl _ _).drew | exact below_drewN (Below.refl _ _) _ | exact B7.out | exact B7.out.drew | exact below_drewN B7.out _) (I7.out.later (by first | exact Below.refl _ _ | exact (Below.refl _ _).drew | exact below_drewN (Below.refl _ _) _))) ?_); rintro e w8 ⟨rfl, B8, h3, h4, h5⟩; have S8 : w8.cell? ⟨rb, 3, none⟩ = some (.slice aR k cR) ∧ w8.cell? ⟨rb, 4, none⟩ = some (.int .i64 mark) := ⟨h3, h4⟩)
            | (go_at_call 35; (with_reducible refine Calls.mono (km6 _ (by first | exact Below.refl _ _ | exact (Below.refl _ _).drew | exact below_drewN (Below.refl _ _) _ | exact B7.out | exact B7.out.drew | exact below_drewN B7.out _ | exact B8.out | exact B8.out.drew | exact below_drewN B8.out _)) ?_); rintro e w9 ⟨rfl, rfl⟩)
            | (go_at_call 33; (with_reducible refine Calls.mono (ka6 _ (by first | exact Below.refl _ _ | exact (Below.refl _ _).drew | exact below_drewN (Below.refl _ _) _ | exact B7.out | exact B7.out.drew | exact below_drewN B7.out _ | exact B8.out | exact B8.out.drew | exact below_drewN B8.out _)) ?_); rintro e w10 ⟨rfl, B10⟩; have S10 : w10.cell? ⟨rb, 3, none⟩ = some (.slice aR k cR) ∧ w10.cell? ⟨rb, 4, none⟩ = some (.int .i64 mark) := ⟨(CE.out _ B10.out).1, (CE.out _ B10.out).2.1⟩))
          all_goals
            go_wp2_with fail
            go_returns
            exact ⟨rfl, B5w.out.trans ((by first | exact B10.out | exact below_drewN B10.out _ | exact B10.out.drew : Below w5.heap.size w5 _).mono zw5)⟩
end Go.Proofs.Ytbnlhjooimppeaa
/-
  SourceOwn: for every input the law returns true, and each argument reads afterwards as it read before. No condition on the input.
-/
namespace Go.Proofs.Ytbnlhjooimppeaa.sourceOwn
open Go.ChangeShapes Go.WideShapes Go.ChangeAt Go.RowKit Go.Deep W
open Go.ChangeMaps (open_string shut_string)
set_option linter.unusedVariables false
theorem own : ownKnob Try.prog.godebug = none := by kernel_rfl
theorem laidOut : laidOutB Try.prog = true := by kernel_rfl
set_option maxRecDepth 100000 in
theorem lifted (os : Os) (started : os.Started) (H : Type) (enc : TypeId × Value → H) :
    ReturnsInHanded {} Try.checked os 12 .any (Rows.sourceOwnSpec.pre6 enc Try.prog Try.f12 Rows.sourceOwnRow.domain false) (Rows.sourceOwnSpec.post enc Try.prog Try.f12 false true false false) := by
  refine returnsInHanded_of_change_sized (C := Try.checked) own started (by kernel_rfl) Try.func12
    (ChangeSpec.witness6 (enc := enc) (C := Try.checked) false ⟨#[], #[.slice none 0 0], []⟩ 8 (by kernel_rfl) (by kernel_rfl) (by kernel_rfl) (by kernel_rfl)) ?_
  intro W base args ds gs before hval0 hW hcnd hsz0 _
  have hsz : (DataW.weightsEach Try.prog (Try.f12.params.toList ++ Rows.sourceOwnSpec.plain.varTypes Try.prog) (ds ++ gs)).all (· ≤ reachBytes) = true := hsz0
  clear hsz0
  have hval : ∀ (j : Nat) t v, Try.f12.params[j]? = some t → args[j]? = some v → Value.okWide Try.prog W .any base t v := hval0
  have hW' := hW
  obtain ⟨p, q, hA0, hV, rfl, hfz, hnd⟩ := hW
  have hA : DataW.TrodAll enc Try.prog W 0 (fun _ => true) true Try.f12.params.toList args.toList ds p := hA0
  rw [Try.params12] at hA hval hsz
  obtain ⟨v0, vs0, d0, ds0, p0, q0, hargs, rfl, rfl, h0, r0⟩ := trodAll_cons hA
  obtain ⟨rfl, rfl, rfl⟩ := trodAll_nil r0
  obtain rfl : args = #[v0] := by cases args; simp_all
  obtain ⟨rfl, rfl⟩ := trodVars_none hV
  have k0 := h0
  have lt0 : ∀ x ∈ p0, x.block < W.heap.size := by obtain ⟨m, hm⟩ := k0; exact DataW.trod_lt m _ _ _ hm
  obtain ⟨s0, n0, c0, rfl⟩ := okWide_slice Try.underlying61 (hval 0 61 v0 rfl rfl)
  obtain ⟨fuel0, hf0⟩ := h0
  obtain ⟨L0, hl0, hL0, hz0, hd0⟩ := Go.Proofs.Ytbnlhjooimppeaa.rd_oqs (by simpa [Value.cells] using hf0)
  have hn0 : L0.length = n0 ∧ n0 ≤ 140737488355328 := by
    refine ⟨hl0, ?_⟩
    rcases hd0 with e | ⟨el, spd, e, el2⟩
    · omega
    · have h1 := sized_slice hsz (j := 0) (t := 61) (e := 73) (elems := el) (spare := spd) rfl (by simp; exact e) Try.underlying61
      have rl : reachBytes ≤ 140737488355328 := by decide
      rw [(by kernel_rfl : Try.prog.bytesOf 73 = 40)] at h1
      omega
  clear hA0 hval0 hsz
  refine (Go.Proofs.Ytbnlhjooimppeaa.law_SourceOwn s0 n0 c0 L0 hn0 hz0 W hL0).mono fun e W' ⟨he, bel⟩ => ?_
  subst he
  exact ⟨_, rfl, _, _, _, [], _, [], hW', trodAll_mk1 (shut_bool Try.underlying4 _), (trodAll_cons_mk (Below.trod laidOut (by kernel_rfl) (of_decide_eq_true (by kernel_rfl)) k0 bel lt0) trodAll_mk0), rfl, bel.frame _, fun h => by cases h⟩
theorem over : Rows.sourceOwnRow.holds Try.pinned (OpenSpec.ofChange Rows.sourceOwnSpec) :=
  OpenClaim.holds_of_wide 12 Try.f12 rfl rfl rfl rfl rfl rfl rfl ⟨rfl, rfl, rfl, rfl, rfl⟩ rfl rfl rfl rfl rfl (by kernel_rfl) Try.func12 (by kernel_rfl)
    (of_decide_eq_true (by kernel_rfl)) (by unfold Func.isWrapper; first | (rw [if_pos (by decide +kernel)]; kernel_rfl) | (rw [if_neg (by decide +kernel)]; exact ⟨rfl, rfl⟩))
    (fun os started H enc _ => lifted os started H enc)
end Go.Proofs.Ytbnlhjooimppeaa.sourceOwn
namespace Go.Proofs.Ytbnlhjooimppeaa
theorem sourceOwn_holds : Rows.SourceOwnSaid := sourceOwn.over
#print axioms sourceOwn_holds
end Go.Proofs.Ytbnlhjooimppeaa
