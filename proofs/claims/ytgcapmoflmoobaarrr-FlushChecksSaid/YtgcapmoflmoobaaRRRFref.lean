/- The reference of layer 10: Check. (gen_fref.py) -/
import Derived.Test.YtgcapmoflmoobaaRRRFchk
import Derived.Deep.QuietTactic
import Derived.BigQuiet
namespace Go.Proofs.YtgcapmoflmoobaaRRR
set_option linter.unusedVariables false
set_option linter.unusedSimpArgs false
open Go.RowKit W
theorem lst_empty (p : ByteArray) : p.toList.isEmpty = (lst p).isEmpty := by rw [ByteArray.toList_eq]; rfl
/-- Where the reading of percents stands. -/
def PctAt (xs : List Int) (E : Bool) (k : Nat) : Prop := (k = 0 ∧ pctR (-100000000) (xs.drop 0) = E) ∨ ∃ (j : Nat) (h : j < xs.length), k = j + 1 ∧ pctR (xs[j] + 1) (xs.drop k) = E
def RisAt (xs : List Int) (E : Bool) (k : Nat) : Prop := (k = 0 ∧ riseB 0 (xs.drop 0) = E) ∨ ∃ (j : Nat) (h : j < xs.length), k = j + 1 ∧ 0 ≤ xs[j] ∧ riseB (xs[j] + 1) (xs.drop k) = E
/-- The box of the settings, and the lists, in a world. -/
structure FlW (B : Nat) (a b : Option Addr) (c d : Nat) (xs ys : List Int) (W : World) : Prop where
  q1 : W.cell? ⟨B, 1, none⟩ = some (.slice a xs.length c)
  q2 : W.cell? ⟨B, 2, none⟩ = some (.slice b ys.length d)
  lt : B < W.heap.size
  hx : IsInts .i64 W a xs
  hy : IsInts .i64 W b ys
theorem FlW.drew {B : Nat} {a b : Option Addr} {c d : Nat} {xs ys : List Int} {W : World} (h : FlW B a b c d xs ys W) (n : Nat) : FlW B a b c d xs ys (W.drewN n) := ⟨h.q1, h.q2, h.lt, h.hx.later (below_drewN (Below.refl _ _) n), h.hy.later (below_drewN (Below.refl _ _) n)⟩
theorem FlW.later {B : Nat} {a b : Option Addr} {c d : Nat} {xs ys : List Int} {W W' : World} (h : FlW B a b c d xs ys W) (k : Below W.heap.size W W') : FlW B a b c d xs ys W' :=
  ⟨(k.cell (p := ⟨B, 1, none⟩) h.lt).trans h.q1, (k.cell (p := ⟨B, 2, none⟩) h.lt).trans h.q2, Nat.lt_of_lt_of_le h.lt k.size, h.hx.later k, h.hy.later k⟩
theorem FlW.at {B : Nat} {a b : Option Addr} {c d : Nat} {xs ys : List Int} {W : World} (h : FlW B a b c d xs ys W) {k : Nat} (hk : k < xs.length) : ∃ g o, a = some ⟨g, o, none⟩ ∧ ∀ j (hj : j < xs.length), W.cell? ⟨g, o + j, none⟩ = some (.int .i64 xs[j]) := by
  rcases h.hx with rfl | ⟨g, o, rfl, hx⟩
  · exact absurd hk (by simp)
  · exact ⟨g, o, rfl, hx.cell⟩
theorem FlW.bt {B : Nat} {a b : Option Addr} {c d : Nat} {xs ys : List Int} {W : World} (h : FlW B a b c d xs ys W) {k : Nat} (hk : k < ys.length) : ∃ g o, b = some ⟨g, o, none⟩ ∧ ∀ j (hj : j < ys.length), W.cell? ⟨g, o + j, none⟩ = some (.int .i64 ys[j]) := by
  rcases h.hy with rfl | ⟨g, o, rfl, hx⟩
  · exact absurd hk (by simp)
  · exact ⟨g, o, rfl, hx.cell⟩
theorem pct_done {xs : List Int} {E : Bool} (h : PctAt xs E xs.length) : E = true := by
  rcases h with ⟨h0, q⟩ | ⟨j, hj, h0, q⟩
  · have : xs = [] := List.eq_nil_of_length_eq_zero h0
    rw [this] at q; exact q.symm
  · rw [List.drop_eq_nil_of_le (Nat.le_refl _)] at q; exact q.symm
theorem ris_done {xs : List Int} {E : Bool} (h : RisAt xs E xs.length) : E = true := by
  rcases h with ⟨h0, q⟩ | ⟨j, hj, h0, hm, q⟩
  · have : xs = [] := List.eq_nil_of_length_eq_zero h0
    rw [this] at q; exact q.symm
  · rw [List.drop_eq_nil_of_le (Nat.le_refl _)] at q; exact q.symm
theorem pct_step {xs : List Int} {E : Bool} {k : Nat} (hk : k < xs.length) (h : PctAt xs E k) (h0 : xs[k] ≠ 0) (h1 : xs[k] ≤ 100000000) (h2 : -100000000 ≤ xs[k]) (h3 : ∀ j (hj : j < xs.length), k = j + 1 → xs[j] + 1 ≤ xs[k]) : PctAt xs E (k + 1) := by
  have dd : xs.drop k = xs[k] :: xs.drop (k + 1) := List.drop_eq_getElem_cons hk
  refine .inr ⟨k, hk, rfl, ?_⟩
  rcases h with ⟨rfl, q⟩ | ⟨j, hj, rfl, q⟩
  · rw [dd, pctR, decide_eq_true h0, decide_eq_true h1, decide_eq_true h2] at q; simpa using q
  · rw [dd, pctR, decide_eq_true h0, decide_eq_true h1, decide_eq_true h2, decide_eq_true (h3 j hj rfl)] at q; simpa using q
theorem pct_stop {xs : List Int} {E : Bool} {k : Nat} (hk : k < xs.length) (h : PctAt xs E k) (n : xs[k] = 0 ∨ 100000000 < xs[k] ∨ xs[k] < -100000000 ∨ ∃ j, ∃ (hj : j < xs.length), k = j + 1 ∧ xs[k] ≤ xs[j]) : E = false := by
  have dd : xs.drop k = xs[k] :: xs.drop (k + 1) := List.drop_eq_getElem_cons hk
  rcases h with ⟨rfl, q⟩ | ⟨j, hj, rfl, q⟩
  · rw [dd, pctR] at q
    rw [← q]
    rcases n with n | n | n | ⟨j, hj, e, _⟩
    · simp [n]
    · rw [decide_eq_false (show ¬ xs[0] ≤ 100000000 by omega)]; simp
    · rw [decide_eq_false (show ¬ (-100000000 : Int) ≤ xs[0] by omega)]; simp
    · omega
  · rw [dd, pctR] at q
    rw [← q]
    rcases n with n | n | n | ⟨i, hi, e, n⟩
    · simp [n]
    · rw [decide_eq_false (show ¬ xs[j + 1] ≤ 100000000 by omega)]; simp
    · rw [decide_eq_false (show ¬ (-100000000 : Int) ≤ xs[j + 1] by omega)]; simp
    · obtain rfl : j = i := by omega
      rw [decide_eq_false (show ¬ xs[j] + 1 ≤ xs[j + 1] by omega)]; simp
theorem ris_step {xs : List Int} {E : Bool} {k : Nat} (hk : k < xs.length) (h : RisAt xs E k) (h2 : 0 ≤ xs[k]) (h3 : ∀ j (hj : j < xs.length), k = j + 1 → xs[j] + 1 ≤ xs[k]) : RisAt xs E (k + 1) := by
  have dd : xs.drop k = xs[k] :: xs.drop (k + 1) := List.drop_eq_getElem_cons hk
  refine .inr ⟨k, hk, rfl, h2, ?_⟩
  rcases h with ⟨rfl, q⟩ | ⟨j, hj, rfl, _, q⟩
  · rw [dd, riseB, decide_eq_true h2] at q; simpa using q
  · rw [dd, riseB, decide_eq_true (h3 j hj rfl)] at q; simpa using q
theorem ris_stop {xs : List Int} {E : Bool} {k : Nat} (hk : k < xs.length) (h : RisAt xs E k) (n : xs[k] < 0 ∨ ∃ j, ∃ (hj : j < xs.length), k = j + 1 ∧ xs[k] ≤ xs[j]) : E = false := by
  have dd : xs.drop k = xs[k] :: xs.drop (k + 1) := List.drop_eq_getElem_cons hk
  rcases h with ⟨rfl, q⟩ | ⟨j, hj, rfl, hm, q⟩
  · rw [dd, riseB] at q
    rw [← q]
    rcases n with n | ⟨j, hj, e, _⟩
    · rw [decide_eq_false (show ¬ (0 : Int) ≤ xs[0] by omega)]; simp
    · omega
  · rw [dd, riseB] at q
    rw [← q]
    rcases n with n | ⟨i, hi, e, n⟩
    · rw [decide_eq_false (show ¬ xs[j] + 1 ≤ xs[j + 1] by omega)]; simp
    · obtain rfl : j = i := by omega
      rw [decide_eq_false (show ¬ xs[j] + 1 ≤ xs[j + 1] by omega)]; simp
set_option maxRecDepth 100000 in
set_option maxHeartbeats 8000000 in
theorem rfcheck_walk (p : ByteArray) (a b : Option Addr) (c d : Nat) (xs ys : List Int) (v E1 E2 B : Bool) (w : World) (Q : Ending → World → Prop)
    (hx : IsInts .i64 w a xs) (hy : IsInts .i64 w b ys)
    (kv : ∀ w', Calls Try.prog 26 #[.string p] w' fun e w2 => e = .returned (.bool v) ∧ Below w'.heap.size w' w2)
    (H1 : Hid (PctAt xs E1 0)) (H2 : Hid (RisAt ys E2 0))
    (EV : Hid (B = (((lst p).isEmpty || v) && decide (xs.length ≤ 16) && decide (ys.length ≤ 32) && E1 && E2)))
    (NO : Hid (B = false → ∀ w', Below w.heap.size w w' → Q (.returned (.int .i64 100)) w')) (YES : Hid (B = true → ∀ w', Below w.heap.size w w' → Q (.returned (.int .i64 0)) w')) :
    Calls Try.prog 9 #[flV p a xs.length c b ys.length d] w Q := by
  have FW0 : FlW w.heap.size a b c d xs ys (w.alloc (.cells #[.string p, .slice a xs.length c, .slice b ys.length d] 24)) :=
    ⟨by simp [go_sem], by simp [go_sem], by simp, hx.later (by go_grown), hy.later (by go_grown)⟩
  have BL0 : Below w.heap.size w (w.alloc (.cells #[.string p, .slice a xs.length c, .slice b ys.length d] 24)) := by go_grown
  clear hx hy
  by_cases pe : lst p = []
  · obtain rfl : p = ⟨#[]⟩ := lst_inj (pe.trans rfl)
    clear pe kv
    go_enter Try.func9, Try.ntmps9
    have FW := hide FW0
    have BL := hide BL0
    clear FW0 BL0
    have q1 := FW.out.q1
    have q2 := FW.out.q2
    by_cases n16 : xs.length ≤ 16
    · by_cases m32 : ys.length ≤ 32
      · have EV2 : Hid (B = (E1 && E2)) := by show _ = _; rw [EV.out, decide_eq_true n16, decide_eq_true m32]; rfl
        clear EV
        go_wp2_with fail
        go_loop [4] (fun i => ∃ k : Nat, k ≤ xs.length ∧ i = .int .i64 k ∧ Hid (PctAt xs E1 k)) (fun i => xs.length - (intOf i).toNat)
        case atStart => exact ⟨0, by omega, rfl, H1.out⟩
        case round =>
          obtain ⟨k, hk, rfl, hd⟩ := hrel
          by_cases hlt : k < xs.length
          · obtain ⟨g, o, rfl, hc⟩ := FW.out.at hlt
            have c0 := hc k hlt
            obtain ⟨x, hx⟩ : ∃ x, x = xs[k] := ⟨_, rfl⟩
            rw [← hx] at c0
            by_cases t : x ≠ 0 ∧ x ≤ 100000000 ∧ -100000000 ≤ x
            · obtain ⟨t0, t1, t2⟩ := t
              have t0b : (x == 0) = false := by rw [beq_eq_false_iff_ne]; exact t0
              rcases Nat.eq_zero_or_pos k with rfl | kp
              · have F : Hid (PctAt xs E1 (0 + 1)) := pct_step hlt hd.out (by rw [← hx]; exact t0) (by rw [← hx]; exact t1) (by rw [← hx]; exact t2) (fun j hj e => by omega)
                rw [Nat.add_zero] at c0
                clear hc hx hd
                go_wp2_with fail
                go_round
                case rel => exact ⟨0 + 1, by omega, by go_num, F⟩
                case measure => simp [intOf]; omega
              · obtain ⟨j, rfl⟩ : ∃ j, k = j + 1 := ⟨k - 1, by omega⟩
                have c1 := hc j (by omega)
                obtain ⟨y, hy⟩ : ∃ y, y = xs[j] := ⟨_, rfl⟩
                rw [← hy] at c1
                by_cases t3 : y + 1 ≤ x
                · have F : Hid (PctAt xs E1 (j + 1 + 1)) := pct_step hlt hd.out (by rw [← hx]; exact t0) (by rw [← hx]; exact t1) (by rw [← hx]; exact t2) (fun i hi e => by have e' : j = i := (by omega); subst e'; rw [← hx, ← hy]; exact t3)
                  have t4 : ¬ x ≤ y := by omega
                  clear hc hx hy hd
                  go_wp2_with fail
                  go_round
                  case rel => exact ⟨j + 1 + 1, by omega, by go_num, F⟩
                  case measure => simp [intOf]; omega
                · have F : Hid (E1 = false) := pct_stop hlt hd.out (.inr (.inr (.inr ⟨j, by omega, rfl, by rw [← hx, ← hy]; omega⟩)))
                  have t4 : x ≤ y := by omega
                  clear hc hx hy hd t3
                  go_wp2_with fail
                  exact NO.out (by rw [EV2.out, F.out]; rfl) _ BL.out
            · have F : Hid (E1 = false) := pct_stop hlt hd.out (by rw [← hx]; omega)
              have t' : x = 0 ∨ 100000000 < x ∨ x < -100000000 := by omega
              clear hc hx hd t
              rcases t' with rfl | t | t
              · go_wp2_with fail
                exact NO.out (by rw [EV2.out, F.out]; rfl) _ BL.out
              · have t0b : (x == 0) = false := by rw [beq_eq_false_iff_ne]; omega
                go_wp2_with fail
                exact NO.out (by rw [EV2.out, F.out]; rfl) _ BL.out
              · have t0b : (x == 0) = false := by rw [beq_eq_false_iff_ne]; omega
                go_wp2_with fail
                exact NO.out (by rw [EV2.out, F.out]; rfl) _ BL.out
          · obtain rfl : k = xs.length := by omega
            have F1 : Hid (E1 = true) := pct_done hd.out
            clear hd
            go_wp2_with fail
            clear q1 q2
            go_loopw [6] (fun i wr => ∃ k : Nat, k ≤ ys.length ∧ i = .int .i64 k ∧ Hid (RisAt ys E2 k) ∧ Hid (FlW w.heap.size a b c d xs ys wr) ∧ Hid (Below w.heap.size w wr)) (fun i _ => ys.length - (intOf i).toNat)
            case atStart => exact ⟨0, by omega, rfl, H2.out, FW.out, BL.out⟩
            case round =>
              obtain ⟨k, hk, rfl, hd, fw, bl⟩ := hrel
              have q2 := fw.out.q2
              by_cases hlt : k < ys.length
              · obtain ⟨g, o, rfl, hc⟩ := fw.out.bt hlt
                have c0 := hc k hlt
                obtain ⟨x, hx⟩ : ∃ x, x = ys[k] := ⟨_, rfl⟩
                rw [← hx] at c0
                by_cases t : 0 ≤ x
                · have t1 : decide (x < 0) = false := decide_eq_false (by omega)
                  have t2 : ¬ x < 0 := by omega
                  rcases Nat.eq_zero_or_pos k with rfl | kp
                  · have F : Hid (RisAt ys E2 (0 + 1)) := ris_step hlt hd.out (by rw [← hx]; exact t) (fun j hj e => by omega)
                    rw [Nat.add_zero] at c0
                    clear hc hx hd
                    go_wp2_with fail
                    go_quiet (fail)
                    go_wp2_with fail
                    go_roundw
                    case rel => exact ⟨0 + 1, by omega, by go_num, F, fw.out.drew _, below_drewN bl.out _⟩
                    case measure => simp [intOf]; omega
                  · obtain ⟨j, rfl⟩ : ∃ j, k = j + 1 := ⟨k - 1, by omega⟩
                    have c1 := hc j (by omega)
                    obtain ⟨y, hy⟩ : ∃ y, y = ys[j] := ⟨_, rfl⟩
                    rw [← hy] at c1
                    by_cases t3 : y + 1 ≤ x
                    · have F : Hid (RisAt ys E2 (j + 1 + 1)) := ris_step hlt hd.out (by rw [← hx]; exact t) (fun i hi e => by have e' : j = i := (by omega); subst e'; rw [← hx, ← hy]; exact t3)
                      have t4 : ¬ x ≤ y := by omega
                      clear hc hx hy hd
                      have jp : decide ((j : Int) + 1 > 0) = true := decide_eq_true (by omega)
                      have jp2 : decide (0 < (j : Int) + 1) = true := decide_eq_true (by omega)
                      have e1 : IntKind.i64.wrap ((j : Int) + 1 - 1) = j := by rw [IntKind.wrap_i64]; omega
                      go_wp2_with fail
                      go_quiet (fail)
                      go_wp2_with fail
                      go_roundw
                      case rel => exact ⟨j + 1 + 1, by omega, by go_num, F, fw.out.drew _, below_drewN bl.out _⟩
                      case measure => simp [intOf]; omega
                    · have F : Hid (E2 = false) := ris_stop hlt hd.out (.inr ⟨j, by omega, rfl, by rw [← hx, ← hy]; omega⟩)
                      have t4 : x ≤ y := by omega
                      clear hc hx hy hd t3
                      have jp : decide ((j : Int) + 1 > 0) = true := decide_eq_true (by omega)
                      have jp2 : decide (0 < (j : Int) + 1) = true := decide_eq_true (by omega)
                      have e1 : IntKind.i64.wrap ((j : Int) + 1 - 1) = j := by rw [IntKind.wrap_i64]; omega
                      go_wp2_with fail
                      go_quiet (fail)
                      go_wp2_with fail
                      exact NO.out (by rw [EV2.out, F1.out, F.out]; rfl) _ (below_drewN bl.out _)
                · have F : Hid (E2 = false) := ris_stop hlt hd.out (.inl (by rw [← hx]; omega))
                  have t1 : decide (x < 0) = true := decide_eq_true (by omega)
                  have t2 : x < 0 := by omega
                  clear hc hx hd t
                  go_wp2_with fail
                  go_quiet (fail)
                  go_wp2_with fail
                  exact NO.out (by rw [EV2.out, F1.out, F.out]; rfl) _ (below_drewN bl.out _)
              · obtain rfl : k = ys.length := by omega
                have F : Hid (E2 = true) := ris_done hd.out
                clear hd
                go_wp2_with fail
                exact YES.out (by rw [EV2.out, F1.out, F.out]; rfl) _ bl.out
      · have D : Hid (B = false) := by show _ = _; rw [EV.out, decide_eq_false m32]; simp
        clear EV
        go_wp2_with fail
        exact NO.out D.out _ BL.out
    · have D : Hid (B = false) := by show _ = _; rw [EV.out, decide_eq_false n16]; simp
      clear EV
      go_wp2_with fail
      exact NO.out D.out _ BL.out
  · obtain ⟨pn1, pn2⟩ := ne_toList pe
    clear pe
    cases v
    · have D : Hid (B = false) := by show _ = _; rw [EV.out, ← lst_empty, pn1]; rfl
      clear EV
      go_enter Try.func9, Try.ntmps9
      go_wp2_with fail
      refine (kv _).mono ?_
      rintro e w1 ⟨rfl, h1⟩
      have BL := hide (Below.trans BL0 (h1.mono BL0.size))
      clear h1 BL0 FW0
      go_wp2_with fail
      exact NO.out D.out _ BL.out
    · go_enter Try.func9, Try.ntmps9
      go_wp2_with fail
      refine (kv _).mono ?_
      rintro e w1 ⟨rfl, h1⟩
      have BL := hide (Below.trans BL0 (h1.mono BL0.size))
      have FW := hide (FW0.later h1)
      clear h1 BL0 FW0
      have q1 := FW.out.q1
      have q2 := FW.out.q2
      by_cases n16 : xs.length ≤ 16
      · by_cases m32 : ys.length ≤ 32
        · have EV2 : Hid (B = (E1 && E2)) := by show _ = _; rw [EV.out, decide_eq_true n16, decide_eq_true m32]; simp
          clear EV
          go_wp2_with fail
          go_loop [4] (fun i => ∃ k : Nat, k ≤ xs.length ∧ i = .int .i64 k ∧ Hid (PctAt xs E1 k)) (fun i => xs.length - (intOf i).toNat)
          case atStart => exact ⟨0, by omega, rfl, H1.out⟩
          case round =>
            obtain ⟨k, hk, rfl, hd⟩ := hrel
            by_cases hlt : k < xs.length
            · obtain ⟨g, o, rfl, hc⟩ := FW.out.at hlt
              have c0 := hc k hlt
              obtain ⟨x, hx⟩ : ∃ x, x = xs[k] := ⟨_, rfl⟩
              rw [← hx] at c0
              by_cases t : x ≠ 0 ∧ x ≤ 100000000 ∧ -100000000 ≤ x
              · obtain ⟨t0, t1, t2⟩ := t
                have t0b : (x == 0) = false := by rw [beq_eq_false_iff_ne]; exact t0
                rcases Nat.eq_zero_or_pos k with rfl | kp
                · have F : Hid (PctAt xs E1 (0 + 1)) := pct_step hlt hd.out (by rw [← hx]; exact t0) (by rw [← hx]; exact t1) (by rw [← hx]; exact t2) (fun j hj e => by omega)
                  rw [Nat.add_zero] at c0
                  clear hc hx hd
                  go_wp2_with fail
                  go_round
                  case rel => exact ⟨0 + 1, by omega, by go_num, F⟩
                  case measure => simp [intOf]; omega
                · obtain ⟨j, rfl⟩ : ∃ j, k = j + 1 := ⟨k - 1, by omega⟩
                  have c1 := hc j (by omega)
                  obtain ⟨y, hy⟩ : ∃ y, y = xs[j] := ⟨_, rfl⟩
                  rw [← hy] at c1
                  by_cases t3 : y + 1 ≤ x
                  · have F : Hid (PctAt xs E1 (j + 1 + 1)) := pct_step hlt hd.out (by rw [← hx]; exact t0) (by rw [← hx]; exact t1) (by rw [← hx]; exact t2) (fun i hi e => by have e' : j = i := (by omega); subst e'; rw [← hx, ← hy]; exact t3)
                    have t4 : ¬ x ≤ y := by omega
                    clear hc hx hy hd
                    go_wp2_with fail
                    go_round
                    case rel => exact ⟨j + 1 + 1, by omega, by go_num, F⟩
                    case measure => simp [intOf]; omega
                  · have F : Hid (E1 = false) := pct_stop hlt hd.out (.inr (.inr (.inr ⟨j, by omega, rfl, by rw [← hx, ← hy]; omega⟩)))
                    have t4 : x ≤ y := by omega
                    clear hc hx hy hd t3
                    go_wp2_with fail
                    exact NO.out (by rw [EV2.out, F.out]; rfl) _ BL.out
              · have F : Hid (E1 = false) := pct_stop hlt hd.out (by rw [← hx]; omega)
                have t' : x = 0 ∨ 100000000 < x ∨ x < -100000000 := by omega
                clear hc hx hd t
                rcases t' with rfl | t | t
                · go_wp2_with fail
                  exact NO.out (by rw [EV2.out, F.out]; rfl) _ BL.out
                · have t0b : (x == 0) = false := by rw [beq_eq_false_iff_ne]; omega
                  go_wp2_with fail
                  exact NO.out (by rw [EV2.out, F.out]; rfl) _ BL.out
                · have t0b : (x == 0) = false := by rw [beq_eq_false_iff_ne]; omega
                  go_wp2_with fail
                  exact NO.out (by rw [EV2.out, F.out]; rfl) _ BL.out
            · obtain rfl : k = xs.length := by omega
              have F1 : Hid (E1 = true) := pct_done hd.out
              clear hd
              go_wp2_with fail
              clear q1 q2
              go_loopw [6] (fun i wr => ∃ k : Nat, k ≤ ys.length ∧ i = .int .i64 k ∧ Hid (RisAt ys E2 k) ∧ Hid (FlW w.heap.size a b c d xs ys wr) ∧ Hid (Below w.heap.size w wr)) (fun i _ => ys.length - (intOf i).toNat)
              case atStart => exact ⟨0, by omega, rfl, H2.out, FW.out, BL.out⟩
              case round =>
                obtain ⟨k, hk, rfl, hd, fw, bl⟩ := hrel
                have q2 := fw.out.q2
                by_cases hlt : k < ys.length
                · obtain ⟨g, o, rfl, hc⟩ := fw.out.bt hlt
                  have c0 := hc k hlt
                  obtain ⟨x, hx⟩ : ∃ x, x = ys[k] := ⟨_, rfl⟩
                  rw [← hx] at c0
                  by_cases t : 0 ≤ x
                  · have t1 : decide (x < 0) = false := decide_eq_false (by omega)
                    have t2 : ¬ x < 0 := by omega
                    rcases Nat.eq_zero_or_pos k with rfl | kp
                    · have F : Hid (RisAt ys E2 (0 + 1)) := ris_step hlt hd.out (by rw [← hx]; exact t) (fun j hj e => by omega)
                      rw [Nat.add_zero] at c0
                      clear hc hx hd
                      go_wp2_with fail
                      go_quiet (fail)
                      go_wp2_with fail
                      go_roundw
                      case rel => exact ⟨0 + 1, by omega, by go_num, F, fw.out.drew _, below_drewN bl.out _⟩
                      case measure => simp [intOf]; omega
                    · obtain ⟨j, rfl⟩ : ∃ j, k = j + 1 := ⟨k - 1, by omega⟩
                      have c1 := hc j (by omega)
                      obtain ⟨y, hy⟩ : ∃ y, y = ys[j] := ⟨_, rfl⟩
                      rw [← hy] at c1
                      by_cases t3 : y + 1 ≤ x
                      · have F : Hid (RisAt ys E2 (j + 1 + 1)) := ris_step hlt hd.out (by rw [← hx]; exact t) (fun i hi e => by have e' : j = i := (by omega); subst e'; rw [← hx, ← hy]; exact t3)
                        have t4 : ¬ x ≤ y := by omega
                        clear hc hx hy hd
                        have jp : decide ((j : Int) + 1 > 0) = true := decide_eq_true (by omega)
                        have jp2 : decide (0 < (j : Int) + 1) = true := decide_eq_true (by omega)
                        have e1 : IntKind.i64.wrap ((j : Int) + 1 - 1) = j := by rw [IntKind.wrap_i64]; omega
                        go_wp2_with fail
                        go_quiet (fail)
                        go_wp2_with fail
                        go_roundw
                        case rel => exact ⟨j + 1 + 1, by omega, by go_num, F, fw.out.drew _, below_drewN bl.out _⟩
                        case measure => simp [intOf]; omega
                      · have F : Hid (E2 = false) := ris_stop hlt hd.out (.inr ⟨j, by omega, rfl, by rw [← hx, ← hy]; omega⟩)
                        have t4 : x ≤ y := by omega
                        clear hc hx hy hd t3
                        have jp : decide ((j : Int) + 1 > 0) = true := decide_eq_true (by omega)
                        have jp2 : decide (0 < (j : Int) + 1) = true := decide_eq_true (by omega)
                        have e1 : IntKind.i64.wrap ((j : Int) + 1 - 1) = j := by rw [IntKind.wrap_i64]; omega
                        go_wp2_with fail
                        go_quiet (fail)
                        go_wp2_with fail
                        exact NO.out (by rw [EV2.out, F1.out, F.out]; rfl) _ (below_drewN bl.out _)
                  · have F : Hid (E2 = false) := ris_stop hlt hd.out (.inl (by rw [← hx]; omega))
                    have t1 : decide (x < 0) = true := decide_eq_true (by omega)
                    have t2 : x < 0 := by omega
                    clear hc hx hd t
                    go_wp2_with fail
                    go_quiet (fail)
                    go_wp2_with fail
                    exact NO.out (by rw [EV2.out, F1.out, F.out]; rfl) _ (below_drewN bl.out _)
                · obtain rfl : k = ys.length := by omega
                  have F : Hid (E2 = true) := ris_done hd.out
                  clear hd
                  go_wp2_with fail
                  exact YES.out (by rw [EV2.out, F1.out, F.out]; rfl) _ bl.out
        · have D : Hid (B = false) := by show _ = _; rw [EV.out, decide_eq_false m32]; simp
          clear EV
          go_wp2_with fail
          exact NO.out D.out _ BL.out
      · have D : Hid (B = false) := by show _ = _; rw [EV.out, decide_eq_false n16]; simp
        clear EV
        go_wp2_with fail
        exact NO.out D.out _ BL.out
theorem rfcheck_any (p : ByteArray) (a b : Option Addr) (c d : Nat) (xs ys : List Int) (w : World) (hx : IsInts .i64 w a xs) (hy : IsInts .i64 w b ys) :
    Calls Try.prog 9 #[flV p a xs.length c b ys.length d] w (FlE p xs ys w) :=
  rfcheck_walk p a b c d xs ys (validN (lst p)) (pctR (-100000000) xs) (riseB 0 ys) (flB (lst p) xs ys) w _ hx hy (fun w' => rvalid_spec p w') (.inl ⟨rfl, rfl⟩) (.inl ⟨rfl, rfl⟩) rfl
    (fun h w' b => fl_no h b) (fun h w' b => fl_yes h b)
end Go.Proofs.YtgcapmoflmoobaaRRR
