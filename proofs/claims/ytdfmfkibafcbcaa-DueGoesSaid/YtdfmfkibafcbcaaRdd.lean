/- due: the reference's Take. -/
import Derived.Test.YtdfmfkibafcbcaaRdc
import Derived.Test.YtdfmfkibafcbcaaQt
namespace Go.Proofs.Ytdfmfkibafcbcaa
set_option linter.unusedVariables false
set_option linter.unusedSimpArgs false
open Go.RowKit W Go.Maps
theorem size_due7 (w : World) : (Go.sizeOf (Try.prog.elem 27)).run Try.prog w = .ok 2 w := by kernel_rfl
theorem addz7 (x : Addr) : x.add 0 = x := by unfold Addr.add; simp
theorem dues_to {a : Option Addr} {n c e : Nat} (he : e ≤ n) (hc : n ≤ c) (v : World) : (Instr.slice 27 (.slice a n c) none (some (.int .i64 (e : Int))) none).run Try.prog v = .ok (.slice a e c) v := by
  rw [run_slice_h (P := Try.prog) (w := v) 27 a n c (by kernel_rfl) .i64 (e : Int) (by omega) (by omega), size_due7]
  cases a <;> simp [Result.andThen, sliced, addz7]
theorem dues_from {g o n c k : Nat} (hk : k ≤ n) (hc : n ≤ c) (h63 : c ≤ maxLen) :
    ∃ ad, (∀ v, (Instr.slice 27 (.slice (some ⟨g, o, none⟩) n c) (some (.int .i64 (k : Int))) none none).run Try.prog v = .ok (.slice (some ad) (n - k) (c - k)) v) ∧ (k < n → ad = ⟨g, o + k * 2, none⟩) ∧ ad.block = g ∧ ad.spot = none := by
  refine ⟨if c = k then ⟨g, o, none⟩ else ⟨g, o + k * 2, none⟩, fun v => ?_, fun z => by rw [if_neg (by omega)], by split <;> rfl, by split <;> rfl⟩
  rw [run_slice_l (P := Try.prog) (w := v) 27 (some ⟨g, o, none⟩) n c (by kernel_rfl) .i64 (k : Int) (by omega) (by omega), size_due7]
  by_cases q : c = k
  · simp [Result.andThen, sliced, q]
  · simp [Result.andThen, sliced, q, Addr.add]
    try (intro z; omega)
theorem dues_from0 {c : Nat} (v : World) : (Instr.slice 27 (.slice none 0 c) (some (.int .i64 0)) none none).run Try.prog v = .ok (.slice none 0 c) v := by
  rw [run_slice_l (P := Try.prog) (w := v) 27 none 0 c (by kernel_rfl) .i64 0 (by omega) (by omega), size_due7]
  simp [Result.andThen, sliced]
theorem IsE.take {w : World} {a : Option Addr} {L : List En} (h : IsE w a L) (k : Nat) : IsE w a (L.take k) := by
  rcases h with h | ⟨g, o, e, q⟩
  · subst h; exact .inl (by simp)
  · refine .inr ⟨g, o, e, q.lt, fun j hj => ?_⟩
    rw [List.length_take] at hj
    have := q.at_ j (by omega)
    rw [List.getElem_take]; exact this
theorem LieE.drop {w : World} {g o : Nat} {L : List En} (h : LieE w g o L) (k : Nat) : LieE w g (o + k * 2) (L.drop k) :=
  ⟨h.lt, fun j hj => by
    rw [List.length_drop] at hj
    have := h.at_ (k + j) (by omega)
    rw [List.getElem_drop, show o + k * 2 + j * 2 = o + (k + j) * 2 from by omega]
    exact this⟩
theorem tk_take (r : List En) (now : Int) : tkR r now = r.take (tkR r now).length := by
  unfold tkR
  induction r with
  | nil => rfl
  | cons x r ih =>
    by_cases q : x.2 ≤ now
    · rw [List.takeWhile_cons_of_pos (by simpa using q)]
      rw [List.length_cons, List.take_succ_cons]
      exact congrArg _ ih
    · rw [List.takeWhile_cons_of_neg (by simpa using q)]; rfl
theorem dr_drop (r : List En) (now : Int) : drR r now = r.drop (tkR r now).length := by
  unfold tkR drR
  induction r with
  | nil => rfl
  | cons x r ih =>
    by_cases q : x.2 ≤ now
    · rw [List.takeWhile_cons_of_pos (by simpa using q), List.dropWhile_cons_of_pos (by simpa using q)]
      rw [List.length_cons, List.drop_succ_cons]
      exact ih
    · rw [List.takeWhile_cons_of_neg (by simpa using q), List.dropWhile_cons_of_neg (by simpa using q)]; rfl
theorem tk_len (r : List En) (now : Int) : (tkR r now).length ≤ r.length := List.Sublist.length_le (List.takeWhile_sublist _)
theorem tk_pos {x : En} {r : List En} {now : Int} (q : x.2 ≤ now) : tkR (x :: r) now = x :: tkR r now := by
  unfold tkR; rw [List.takeWhile_cons_of_pos (by simpa using q)]
theorem tk_neg {x : En} {r : List En} {now : Int} (q : ¬ x.2 ≤ now) : tkR (x :: r) now = [] := by
  unfold tkR; rw [List.takeWhile_cons_of_neg (by simpa using q)]
theorem tk_in {now : Int} : ∀ {r : List En} {i : Nat} (h : i < r.length), i < (tkR r now).length → r[i].2 ≤ now
  | x :: r, i, h, hi => by
    by_cases q : x.2 ≤ now
    · rw [tk_pos q] at hi
      cases i with
      | zero => exact q
      | succ i => exact tk_in (r := r) (by simpa using h) (by simpa using hi)
    · rw [tk_neg q] at hi; simp at hi
theorem tk_out {now : Int} : ∀ {r : List En} {m : Nat} (h : m < r.length), m = (tkR r now).length → now < r[m].2
  | x :: r, m, h, hm => by
    by_cases q : x.2 ≤ now
    · rw [tk_pos q, List.length_cons] at hm
      subst hm
      exact tk_out (r := r) (by simpa using h) rfl
    · rw [tk_neg q, List.length_nil] at hm
      subst hm
      simp only [List.getElem_cons_zero]; omega
theorem RQ.cut {w : World} {rb g o c k n : Nat} {lim : Int} {L : List En} (h : RQ w rb lim (some ⟨g, o, none⟩) c L) (hn : n = L.length) (hk : k ≤ n) {ad : Addr} (e : k < n → ad = ⟨g, o + k * 2, none⟩) (eb : ad.block = g) (ep : ad.spot = none) (ng : g ≠ rb) :
    RQ (w.setCell ⟨rb, 1, none⟩ (.slice (some ad) (n - k) (c - k))) rb lim (some ad) (c - k) (L.drop k) ∧ IsE (w.setCell ⟨rb, 1, none⟩ (.slice (some ad) (n - k) (c - k))) (some ⟨g, o, none⟩) (L.take k) ∧ Chg (· = rb) w (w.setCell ⟨rb, 1, none⟩ (.slice (some ad) (n - k) (c - k))) := by
  subst hn
  have C : Chg (· = rb) w (w.setCell ⟨rb, 1, none⟩ (.slice (some ad) (L.length - k) (c - k))) := Chg.set _ rfl
  have cp := h.cap
  have cm := h.capm
  refine ⟨⟨?_, ?_, by rw [List.length_drop]; omega, by omega, fun ad' z => by cases z; exact ⟨ad.block, ad.off, by rcases ad with ⟨b1, o1, p1⟩; dsimp only at *; rw [ep], by rw [eb]; exact ng⟩, fun z => (by cases z), fun ad' z => (by cases z; rw [World.size_setCell]; rw [eb]; exact h.alt _ rfl)⟩, ?_, C⟩
  · rw [List.length_drop]
    exact h.r.set 1 _
  · by_cases q : k < L.length
    · rcases h.is with z | ⟨g', o', z, l⟩
      · subst z; simp at q
      · injection z with z; injection z with z1 z2; subst z1 z2
        exact .inr ⟨g, o + k * 2, by rw [e q], (l.drop k).chg C (fun z => ng z)⟩
    · exact .inl (List.drop_eq_nil_iff.2 (by omega))
  · rcases h.is.take k with z | ⟨g', o', z, l⟩
    · exact .inl z
    · injection z with z; injection z with z1 z2; subst z1 z2
      exact .inr ⟨g, o, rfl, l.chg C (fun z => ng z)⟩
/-- Where the reference's list has gone: its block is the old one or a new one. -/
def MvA (w : World) (a a' : Option Addr) : Prop := ∀ ad', a' = some ad' → (∃ ad, a = some ad ∧ ad.block = ad'.block) ∨ w.heap.size ≤ ad'.block
theorem MvA.refl (w : World) (a : Option Addr) : MvA w a a := fun ad e => .inl ⟨ad, e, rfl⟩
theorem MvA.none (w : World) (a : Option Addr) : MvA w a none := fun _ e => by cases e
theorem MvA.trans {w w' : World} {a b c : Option Addr} (h : MvA w a b) (z : w.heap.size ≤ w'.heap.size) (k : MvA w' b c) : MvA w a c := fun ad e => by
  rcases k ad e with ⟨x, ex, q⟩ | q
  · rcases h x ex with ⟨y, ey, q2⟩ | q2
    · exact .inl ⟨y, ey, q2.trans q⟩
    · exact .inr (by omega)
  · exact .inr (by omega)
def RTakeP (rb : Nat) (lim : Int) (a : Option Addr) (L : List En) (now : Int) (w : World) (e : Ending) (w' : World) : Prop :=
  ∃ c1 a2 c2, e = .returned (.slice a (tkR L now).length c1) ∧ IsE w' a (tkR L now) ∧ RQ w' rb lim a2 c2 (drR L now) ∧ Chg (· = rb) w w' ∧ MvA w a a2
set_option maxRecDepth 100000 in
set_option maxHeartbeats 4000000 in
theorem rtake7_spec {w : World} {rb : Nat} {lim : Int} {a : Option Addr} {c : Nat} {L : List En} (h : RQ w rb lim a c L) (hl : L.length ≤ 65536) (now : Int) :
    Calls Try.prog 19 #[.pointer (some ⟨rb, 0, none⟩), .int .i64 now] w (RTakeP rb lim a L now w) := by
  have hr : w.cell? ⟨rb, 1, none⟩ = some (.slice a L.length c) := h.r.cell 1 _ rfl
  have lr := h.r.lt
  have fz : w.frozen? ⟨rb, 1, none⟩ = false := h.r.frz 1
  have H := hide h
  have cp := h.cap
  have cm := h.capm
  obtain ⟨n, hn⟩ : ∃ n, n = L.length := ⟨_, rfl⟩
  obtain ⟨m, hm⟩ : ∃ m, m = (tkR L now).length := ⟨_, rfl⟩
  have mn : m ≤ n := by rw [hm, hn]; exact tk_len _ _
  have HN := hide hn
  have HM := hide hm
  rw [← hn] at hr cp hl
  have PF : Hid (∀ e w', (∃ c1 a2 c2, e = .returned (.slice a m c1) ∧ IsE w' a (tkR L now) ∧ RQ w' rb lim a2 c2 (drR L now) ∧ Chg (· = rb) w w' ∧ MvA w a a2) → RTakeP rb lim a L now w e w') := fun e w' q => by rw [hm] at q; exact q
  generalize RTakeP rb lim a L now w = P at PF ⊢
  clear h hn hm
  go_enter Try.func19, Try.ntmps19
  go_wp2_with fail
  go_loopw [5] (fun s5 wr => ∃ k : Nat, s5 = .int .i64 (k : Int) ∧ k ≤ m ∧ w = wr) (fun s5 _ => m - (intOf s5).toNat)
  case atStart => exact ⟨0, rfl, by omega, (by first | rfl | trivial)⟩
  case round =>
    obtain ⟨k, rfl, hk, rfl⟩ := hrel
    by_cases hlt : k < n
    · have d1 : decide ((k : Int) < (n : Int)) = true := by rw [decide_eq_true_eq]; omega
      have d2 : decide (k < n) = true := by rw [decide_eq_true_eq]; omega
      have kl : k < L.length := by have := HN.out; omega
      obtain ⟨g, o, rfl, gl, x0, x1⟩ := H.out.is.at_ kl
      obtain ⟨t, ht⟩ : ∃ t, t = L[k].2 := ⟨_, rfl⟩
      rw [← ht] at x1
      have HT := hide ht
      clear ht x0
      by_cases q : k < m
      · have t1 : t ≤ now := by rw [HT.out]; exact tk_in kl (by have := HM.out; omega)
        have t2 : decide (t ≤ now) = true := decide_eq_true t1
        have t3 : decide (now < t) = false := decide_eq_false (by omega)
        go_wp2_with fail
        go_roundw
        case rel => exact ⟨k + 1, by go_num, by omega, (by first | rfl | trivial)⟩
        case measure => (first | (simp [intOf]; done) | (simp [intOf]; omega))
      · have km : k = m := by omega
        have t1 : ¬ t ≤ now := by have := tk_out (now := now) kl (by rw [km]; exact HM.out); rw [HT.out]; omega
        have t2 : decide (t ≤ now) = false := decide_eq_false t1
        have t3 : decide (now < t) = true := decide_eq_true (by omega)
        have KM := hide km
        clear km t1
        have ng : g ≠ rb := by
          obtain ⟨g1, o1, z1, z2⟩ := H.out.adr _ rfl
          cases z1; exact z2
        obtain ⟨ad, sl2, e1, e2, e3⟩ := dues_from (g := g) (o := o) (n := n) (c := c) (k := k) (by omega) cp cm
        have ea := e1 hlt
        subst ea
        have sl1 := fun v => dues_to (a := some ⟨g, o, none⟩) (n := n) (c := c) (e := k) (by omega) cp v
        go_wp2_with fail
        have ek := KM.out
        have f := RQ.cut H.out HN.out (by omega) (ad := ⟨g, o + k * 2, none⟩) (fun _ => rfl) rfl rfl ng
        have t1 : L.take k = tkR L now := by rw [ek, HM.out]; exact (tk_take L now).symm
        have t2 : L.drop k = drR L now := by rw [ek, HM.out]; exact (dr_drop L now).symm
        rw [t1, t2] at f
        subst ek
        exact PF.out _ _ ⟨_, _, _, rfl, f.2.1, f.1, f.2.2, fun ad' z => by cases z; exact .inl ⟨_, rfl, rfl⟩⟩
    · have kn : k = n := by omega
      have d1 : decide ((k : Int) < (n : Int)) = false := by rw [decide_eq_false_iff_not]; omega
      have d2 : decide (k < n) = false := by rw [decide_eq_false_iff_not]; omega
      have KM : Hid (k = m) := by show _ = _; omega
      clear kn
      cases a with
      | some ad0 =>
        obtain ⟨g, o, e9, ng⟩ := H.out.adr _ rfl
        subst e9
        obtain ⟨ad, sl2, e1, e2, e3⟩ := dues_from (g := g) (o := o) (n := n) (c := c) (k := k) (by omega) cp cm
        have sl1 := fun v => dues_to (a := some ⟨g, o, none⟩) (n := n) (c := c) (e := k) (by omega) cp v
        have E2 := hide e2
        go_wp2_with fail
        have ek := KM.out
        have f := RQ.cut H.out HN.out (by omega) e1 e2 e3 ng
        have t1 : L.take k = tkR L now := by rw [ek, HM.out]; exact (tk_take L now).symm
        have t2 : L.drop k = drR L now := by rw [ek, HM.out]; exact (dr_drop L now).symm
        rw [t1, t2] at f
        subst ek
        exact PF.out _ _ ⟨_, _, _, rfl, f.2.1, f.1, f.2.2, fun ad' z => by cases z; exact .inl ⟨_, rfl, E2.out.symm⟩⟩
      | none =>
        have L0 : L = [] := H.out.is.resolve_right (fun ⟨_, _, z, _⟩ => by cases z)
        have n0 : n = 0 := by rw [HN.out, L0]; rfl
        have k0 : k = 0 := by omega
        have m0 : m = 0 := by have := KM.out; omega
        subst n0 k0
        have sl2 := fun v => dues_from0 (c := c) v
        have sl1 := fun v => dues_to (a := none) (n := 0) (c := c) (e := 0) (by omega) cp v
        simp only [show ((0 : Nat) : Int) = 0 from rfl] at sl1
        have HL0 := hide L0
        clear L0
        go_wp2_with fail
        have C : Chg (· = rb) w (w.setCell ⟨rb, 1, none⟩ (.slice none 0 c)) := Chg.set _ rfl
        have e := HL0.out
        subst e
        subst m0
        exact PF.out _ _ ⟨_, none, c, rfl, .inl rfl, ⟨H.out.r.set 1 _, .inl rfl, Nat.zero_le _, cm, fun _ z => (by cases z), fun _ => H.out.nil rfl, fun _ z => (by cases z)⟩, C, MvA.none _ _⟩
end Go.Proofs.Ytdfmfkibafcbcaa
