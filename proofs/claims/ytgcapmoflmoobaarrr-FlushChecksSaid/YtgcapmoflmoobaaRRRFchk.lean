/- flush: Check. -/
import Derived.Test.YtgcapmoflmoobaaRRRFris
import Derived.Test.YtgcapmoflmoobaaRRRRvalidb
namespace Go.Proofs.YtgcapmoflmoobaaRRR
set_option linter.unusedVariables false
set_option linter.unusedSimpArgs false
open Go.RowKit W
abbrev flV (p : ByteArray) (a : Option Addr) (n c : Nat) (b : Option Addr) (m d : Nat) : Value := .agg #[.string p, .slice a n c, .slice b m d]
theorem ne_toList {p : ByteArray} (h : lst p ≠ []) : p.toList.isEmpty = false ∧ ¬ p.toList = [] :=
  ⟨by rw [ByteArray.toList_eq]; unfold lst at h; cases q : p.data.toList with | nil => exact absurd q h | cons _ _ => rfl, by rw [ByteArray.toList_eq]; exact h⟩
def FlE (p : ByteArray) (xs ys : List Int) (w : World) (e : Ending) (w' : World) : Prop := e = .returned (.int .i64 (flE (lst p) xs ys)) ∧ Below w.heap.size w w'
theorem fl_no {p : ByteArray} {xs ys : List Int} {w w' : World} (h : flB (lst p) xs ys = false) (b : Below w.heap.size w w') : FlE p xs ys w (.returned (.int .i64 100)) w' := ⟨by unfold flE; rw [h]; rfl, b⟩
theorem fl_yes {p : ByteArray} {xs ys : List Int} {w w' : World} (h : flB (lst p) xs ys = true) (b : Below w.heap.size w w') : FlE p xs ys w (.returned (.int .i64 0)) w' := ⟨by unfold flE; rw [h]; rfl, b⟩
theorem flB_eq (p : List UInt8) (xs ys : List Int) : flB p xs ys = ((p.isEmpty || validN p) && decide (xs.length ≤ 16) && decide (ys.length ≤ 32) && (riseB (-100000000) xs && !decide (0 ∈ xs) && lastO xs) && riseB 0 ys) := by
  unfold flB; rw [pct_eq xs _ (by omega)]
set_option maxRecDepth 100000 in
set_option maxHeartbeats 8000000 in
theorem fcheck_walk (p : ByteArray) (a b : Option Addr) (n m c d : Nat) (v r1 z r2 lo B : Bool) (w : World) (Q : Ending → World → Prop)
    (kv : ∀ w', CalcN 23 #[.string p] w' (.bool v))
    (k1 : n ≤ 16 → ∀ W, Below w.heap.size w W → CalcN 24 #[.slice a n c, .int .i64 (-100000000)] W (.bool r1))
    (k2 : n ≤ 16 → ∀ W, Below w.heap.size w W → CalcN 25 #[.slice a n c, .int .i64 0] W (.bool z))
    (k3 : m ≤ 32 → ∀ W, Below w.heap.size w W → CalcN 24 #[.slice b m d, .int .i64 0] W (.bool r2))
    (last : Hid (n = 0 ∧ lo = true ∨ ∃ (j : Nat) (x : Int) (g o : Nat), n = j + 1 ∧ a = some ⟨g, o, none⟩ ∧ w.cell? ⟨g, o + j, none⟩ = some (.int .i64 x) ∧ g < w.heap.size ∧ lo = decide (x ≤ 100000000)))
    (EV : Hid (B = (((lst p).isEmpty || v) && decide (n ≤ 16) && decide (m ≤ 32) && (r1 && !z && lo) && r2)))
    (NO : Hid (B = false → ∀ w', Below w.heap.size w w' → Q (.returned (.int .i64 100)) w')) (YES : Hid (B = true → ∀ w', Below w.heap.size w w' → Q (.returned (.int .i64 0)) w')) :
    Calls Try.prog 8 #[flV p a n c b m d] w Q := by
  by_cases pe : lst p = []
  · obtain rfl : p = ⟨#[]⟩ := lst_inj (pe.trans rfl)
    clear pe
    by_cases n16 : n ≤ 16
    · replace k1 := k1 n16
      replace k2 := k2 n16
      cases r1
      · have D : Hid (B = false) := by show _ = _; rw [EV.out]; simp
        clear EV
        go_enter Try.func8, Try.ntmps8
        go_wp2_with (first | (go_at_call 23; refine (kv _).mono ?_; rintro e w1 ⟨rfl, rfl⟩) | (go_at_call 24; first | ((with_reducible refine (k1 _ (by go_grown)).mono ?_); rintro e w1 ⟨rfl, rfl⟩) | ((with_reducible refine (k3 _ (by go_grown)).mono ?_); rintro e w1 ⟨rfl, rfl⟩)) | (go_at_call 25; refine (k2 _ (by go_grown)).mono ?_; rintro e w1 ⟨rfl, rfl⟩))
        all_goals
          exact NO.out D.out _ (by go_grown)
      · cases z
        · rcases last.out with ⟨rfl, hlo⟩ | ⟨j, x, g, o, rfl, rfl, hc, hg, hlo⟩
          · clear last
            by_cases m32 : m ≤ 32
            · replace k3 := k3 m32
              cases r2
              · have D : Hid (B = false) := by show _ = _; rw [EV.out]; simp
                clear EV
                go_enter Try.func8, Try.ntmps8
                go_wp2_with (first | (go_at_call 23; refine (kv _).mono ?_; rintro e w1 ⟨rfl, rfl⟩) | (go_at_call 24; first | ((with_reducible refine (k1 _ (by go_grown)).mono ?_); rintro e w1 ⟨rfl, rfl⟩) | ((with_reducible refine (k3 _ (by go_grown)).mono ?_); rintro e w1 ⟨rfl, rfl⟩)) | (go_at_call 25; refine (k2 _ (by go_grown)).mono ?_; rintro e w1 ⟨rfl, rfl⟩))
                all_goals
                  exact NO.out D.out _ (by go_grown)
              · have D : Hid (B = true) := by show _ = _; rw [EV.out]; rw [hlo, decide_eq_true n16, decide_eq_true m32, show (lst ⟨#[]⟩).isEmpty = true from rfl]; rfl
                clear hlo
                clear EV
                go_enter Try.func8, Try.ntmps8
                go_wp2_with (first | (go_at_call 23; refine (kv _).mono ?_; rintro e w1 ⟨rfl, rfl⟩) | (go_at_call 24; first | ((with_reducible refine (k1 _ (by go_grown)).mono ?_); rintro e w1 ⟨rfl, rfl⟩) | ((with_reducible refine (k3 _ (by go_grown)).mono ?_); rintro e w1 ⟨rfl, rfl⟩)) | (go_at_call 25; refine (k2 _ (by go_grown)).mono ?_; rintro e w1 ⟨rfl, rfl⟩))
                all_goals
                  exact YES.out D.out _ (by go_grown)
            · have D : Hid (B = false) := by show _ = _; rw [EV.out]; rw [decide_eq_false m32]; simp
              clear EV
              go_enter Try.func8, Try.ntmps8
              go_wp2_with (first | (go_at_call 23; refine (kv _).mono ?_; rintro e w1 ⟨rfl, rfl⟩) | (go_at_call 24; first | ((with_reducible refine (k1 _ (by go_grown)).mono ?_); rintro e w1 ⟨rfl, rfl⟩) | ((with_reducible refine (k3 _ (by go_grown)).mono ?_); rintro e w1 ⟨rfl, rfl⟩)) | (go_at_call 25; refine (k2 _ (by go_grown)).mono ?_; rintro e w1 ⟨rfl, rfl⟩))
              all_goals
                exact NO.out D.out _ (by go_grown)
          · clear last
            by_cases xw : x ≤ 100000000
            · rw [decide_eq_true xw] at hlo
              by_cases m32 : m ≤ 32
              · replace k3 := k3 m32
                cases r2
                · have D : Hid (B = false) := by show _ = _; rw [EV.out]; simp
                  clear EV
                  go_enter Try.func8, Try.ntmps8
                  go_wp2_with (first | (go_at_call 23; refine (kv _).mono ?_; rintro e w1 ⟨rfl, rfl⟩) | (go_at_call 24; first | ((with_reducible refine (k1 _ (by go_grown)).mono ?_); rintro e w1 ⟨rfl, rfl⟩) | ((with_reducible refine (k3 _ (by go_grown)).mono ?_); rintro e w1 ⟨rfl, rfl⟩)) | (go_at_call 25; refine (k2 _ (by go_grown)).mono ?_; rintro e w1 ⟨rfl, rfl⟩))
                  all_goals
                    exact NO.out D.out _ (by go_grown)
                · have D : Hid (B = true) := by show _ = _; rw [EV.out]; rw [hlo, decide_eq_true n16, decide_eq_true m32, show (lst ⟨#[]⟩).isEmpty = true from rfl]; rfl
                  clear hlo
                  clear EV
                  go_enter Try.func8, Try.ntmps8
                  go_wp2_with (first | (go_at_call 23; refine (kv _).mono ?_; rintro e w1 ⟨rfl, rfl⟩) | (go_at_call 24; first | ((with_reducible refine (k1 _ (by go_grown)).mono ?_); rintro e w1 ⟨rfl, rfl⟩) | ((with_reducible refine (k3 _ (by go_grown)).mono ?_); rintro e w1 ⟨rfl, rfl⟩)) | (go_at_call 25; refine (k2 _ (by go_grown)).mono ?_; rintro e w1 ⟨rfl, rfl⟩))
                  all_goals
                    exact YES.out D.out _ (by go_grown)
              · have D : Hid (B = false) := by show _ = _; rw [EV.out]; rw [decide_eq_false m32]; simp
                clear EV
                go_enter Try.func8, Try.ntmps8
                go_wp2_with (first | (go_at_call 23; refine (kv _).mono ?_; rintro e w1 ⟨rfl, rfl⟩) | (go_at_call 24; first | ((with_reducible refine (k1 _ (by go_grown)).mono ?_); rintro e w1 ⟨rfl, rfl⟩) | ((with_reducible refine (k3 _ (by go_grown)).mono ?_); rintro e w1 ⟨rfl, rfl⟩)) | (go_at_call 25; refine (k2 _ (by go_grown)).mono ?_; rintro e w1 ⟨rfl, rfl⟩))
                all_goals
                  exact NO.out D.out _ (by go_grown)
            · rw [decide_eq_false xw] at hlo
              have xg : 100000000 < x := by omega
              have D : Hid (B = false) := by show _ = _; rw [EV.out]; rw [hlo]; simp
              clear hlo xw
              clear EV
              go_enter Try.func8, Try.ntmps8
              go_wp2_with (first | (go_at_call 23; refine (kv _).mono ?_; rintro e w1 ⟨rfl, rfl⟩) | (go_at_call 24; first | ((with_reducible refine (k1 _ (by go_grown)).mono ?_); rintro e w1 ⟨rfl, rfl⟩) | ((with_reducible refine (k3 _ (by go_grown)).mono ?_); rintro e w1 ⟨rfl, rfl⟩)) | (go_at_call 25; refine (k2 _ (by go_grown)).mono ?_; rintro e w1 ⟨rfl, rfl⟩))
              all_goals
                exact NO.out D.out _ (by go_grown)
        · have D : Hid (B = false) := by show _ = _; rw [EV.out]; simp
          clear EV
          go_enter Try.func8, Try.ntmps8
          go_wp2_with (first | (go_at_call 23; refine (kv _).mono ?_; rintro e w1 ⟨rfl, rfl⟩) | (go_at_call 24; first | ((with_reducible refine (k1 _ (by go_grown)).mono ?_); rintro e w1 ⟨rfl, rfl⟩) | ((with_reducible refine (k3 _ (by go_grown)).mono ?_); rintro e w1 ⟨rfl, rfl⟩)) | (go_at_call 25; refine (k2 _ (by go_grown)).mono ?_; rintro e w1 ⟨rfl, rfl⟩))
          all_goals
            exact NO.out D.out _ (by go_grown)
    · have D : Hid (B = false) := by show _ = _; rw [EV.out]; rw [decide_eq_false n16]; simp
      clear EV
      go_enter Try.func8, Try.ntmps8
      go_wp2_with (first | (go_at_call 23; refine (kv _).mono ?_; rintro e w1 ⟨rfl, rfl⟩) | (go_at_call 24; first | ((with_reducible refine (k1 _ (by go_grown)).mono ?_); rintro e w1 ⟨rfl, rfl⟩) | ((with_reducible refine (k3 _ (by go_grown)).mono ?_); rintro e w1 ⟨rfl, rfl⟩)) | (go_at_call 25; refine (k2 _ (by go_grown)).mono ?_; rintro e w1 ⟨rfl, rfl⟩))
      all_goals
        exact NO.out D.out _ (by go_grown)
  · have pn := ne_toList pe
    obtain ⟨pn1, pn2⟩ := pn
    cases v
    · have D : Hid (B = false) := by show _ = _; rw [EV.out]; cases h : lst p with | nil => exact absurd h pe | cons _ _ => simp
      clear EV
      go_enter Try.func8, Try.ntmps8
      go_wp2_with (first | (go_at_call 23; refine (kv _).mono ?_; rintro e w1 ⟨rfl, rfl⟩) | (go_at_call 24; first | ((with_reducible refine (k1 _ (by go_grown)).mono ?_); rintro e w1 ⟨rfl, rfl⟩) | ((with_reducible refine (k3 _ (by go_grown)).mono ?_); rintro e w1 ⟨rfl, rfl⟩)) | (go_at_call 25; refine (k2 _ (by go_grown)).mono ?_; rintro e w1 ⟨rfl, rfl⟩))
      all_goals
        exact NO.out D.out _ (by go_grown)
    · have pz : (lst p).isEmpty = false := by cases h : lst p with | nil => exact absurd h pe | cons _ _ => rfl
      clear pe pz
      by_cases n16 : n ≤ 16
      · replace k1 := k1 n16
        replace k2 := k2 n16
        cases r1
        · have D : Hid (B = false) := by show _ = _; rw [EV.out]; simp
          clear EV
          go_enter Try.func8, Try.ntmps8
          go_wp2_with (first | (go_at_call 23; refine (kv _).mono ?_; rintro e w1 ⟨rfl, rfl⟩) | (go_at_call 24; first | ((with_reducible refine (k1 _ (by go_grown)).mono ?_); rintro e w1 ⟨rfl, rfl⟩) | ((with_reducible refine (k3 _ (by go_grown)).mono ?_); rintro e w1 ⟨rfl, rfl⟩)) | (go_at_call 25; refine (k2 _ (by go_grown)).mono ?_; rintro e w1 ⟨rfl, rfl⟩))
          all_goals
            exact NO.out D.out _ (by go_grown)
        · cases z
          · rcases last.out with ⟨rfl, hlo⟩ | ⟨j, x, g, o, rfl, rfl, hc, hg, hlo⟩
            · clear last
              by_cases m32 : m ≤ 32
              · replace k3 := k3 m32
                cases r2
                · have D : Hid (B = false) := by show _ = _; rw [EV.out]; simp
                  clear EV
                  go_enter Try.func8, Try.ntmps8
                  go_wp2_with (first | (go_at_call 23; refine (kv _).mono ?_; rintro e w1 ⟨rfl, rfl⟩) | (go_at_call 24; first | ((with_reducible refine (k1 _ (by go_grown)).mono ?_); rintro e w1 ⟨rfl, rfl⟩) | ((with_reducible refine (k3 _ (by go_grown)).mono ?_); rintro e w1 ⟨rfl, rfl⟩)) | (go_at_call 25; refine (k2 _ (by go_grown)).mono ?_; rintro e w1 ⟨rfl, rfl⟩))
                  all_goals
                    exact NO.out D.out _ (by go_grown)
                · have D : Hid (B = true) := by show _ = _; rw [EV.out]; rw [hlo, decide_eq_true n16, decide_eq_true m32]; simp
                  clear hlo
                  clear EV
                  go_enter Try.func8, Try.ntmps8
                  go_wp2_with (first | (go_at_call 23; refine (kv _).mono ?_; rintro e w1 ⟨rfl, rfl⟩) | (go_at_call 24; first | ((with_reducible refine (k1 _ (by go_grown)).mono ?_); rintro e w1 ⟨rfl, rfl⟩) | ((with_reducible refine (k3 _ (by go_grown)).mono ?_); rintro e w1 ⟨rfl, rfl⟩)) | (go_at_call 25; refine (k2 _ (by go_grown)).mono ?_; rintro e w1 ⟨rfl, rfl⟩))
                  all_goals
                    exact YES.out D.out _ (by go_grown)
              · have D : Hid (B = false) := by show _ = _; rw [EV.out]; rw [decide_eq_false m32]; simp
                clear EV
                go_enter Try.func8, Try.ntmps8
                go_wp2_with (first | (go_at_call 23; refine (kv _).mono ?_; rintro e w1 ⟨rfl, rfl⟩) | (go_at_call 24; first | ((with_reducible refine (k1 _ (by go_grown)).mono ?_); rintro e w1 ⟨rfl, rfl⟩) | ((with_reducible refine (k3 _ (by go_grown)).mono ?_); rintro e w1 ⟨rfl, rfl⟩)) | (go_at_call 25; refine (k2 _ (by go_grown)).mono ?_; rintro e w1 ⟨rfl, rfl⟩))
                all_goals
                  exact NO.out D.out _ (by go_grown)
            · clear last
              by_cases xw : x ≤ 100000000
              · rw [decide_eq_true xw] at hlo
                by_cases m32 : m ≤ 32
                · replace k3 := k3 m32
                  cases r2
                  · have D : Hid (B = false) := by show _ = _; rw [EV.out]; simp
                    clear EV
                    go_enter Try.func8, Try.ntmps8
                    go_wp2_with (first | (go_at_call 23; refine (kv _).mono ?_; rintro e w1 ⟨rfl, rfl⟩) | (go_at_call 24; first | ((with_reducible refine (k1 _ (by go_grown)).mono ?_); rintro e w1 ⟨rfl, rfl⟩) | ((with_reducible refine (k3 _ (by go_grown)).mono ?_); rintro e w1 ⟨rfl, rfl⟩)) | (go_at_call 25; refine (k2 _ (by go_grown)).mono ?_; rintro e w1 ⟨rfl, rfl⟩))
                    all_goals
                      exact NO.out D.out _ (by go_grown)
                  · have D : Hid (B = true) := by show _ = _; rw [EV.out]; rw [hlo, decide_eq_true n16, decide_eq_true m32]; simp
                    clear hlo
                    clear EV
                    go_enter Try.func8, Try.ntmps8
                    go_wp2_with (first | (go_at_call 23; refine (kv _).mono ?_; rintro e w1 ⟨rfl, rfl⟩) | (go_at_call 24; first | ((with_reducible refine (k1 _ (by go_grown)).mono ?_); rintro e w1 ⟨rfl, rfl⟩) | ((with_reducible refine (k3 _ (by go_grown)).mono ?_); rintro e w1 ⟨rfl, rfl⟩)) | (go_at_call 25; refine (k2 _ (by go_grown)).mono ?_; rintro e w1 ⟨rfl, rfl⟩))
                    all_goals
                      exact YES.out D.out _ (by go_grown)
                · have D : Hid (B = false) := by show _ = _; rw [EV.out]; rw [decide_eq_false m32]; simp
                  clear EV
                  go_enter Try.func8, Try.ntmps8
                  go_wp2_with (first | (go_at_call 23; refine (kv _).mono ?_; rintro e w1 ⟨rfl, rfl⟩) | (go_at_call 24; first | ((with_reducible refine (k1 _ (by go_grown)).mono ?_); rintro e w1 ⟨rfl, rfl⟩) | ((with_reducible refine (k3 _ (by go_grown)).mono ?_); rintro e w1 ⟨rfl, rfl⟩)) | (go_at_call 25; refine (k2 _ (by go_grown)).mono ?_; rintro e w1 ⟨rfl, rfl⟩))
                  all_goals
                    exact NO.out D.out _ (by go_grown)
              · rw [decide_eq_false xw] at hlo
                have xg : 100000000 < x := by omega
                have D : Hid (B = false) := by show _ = _; rw [EV.out]; rw [hlo]; simp
                clear hlo xw
                clear EV
                go_enter Try.func8, Try.ntmps8
                go_wp2_with (first | (go_at_call 23; refine (kv _).mono ?_; rintro e w1 ⟨rfl, rfl⟩) | (go_at_call 24; first | ((with_reducible refine (k1 _ (by go_grown)).mono ?_); rintro e w1 ⟨rfl, rfl⟩) | ((with_reducible refine (k3 _ (by go_grown)).mono ?_); rintro e w1 ⟨rfl, rfl⟩)) | (go_at_call 25; refine (k2 _ (by go_grown)).mono ?_; rintro e w1 ⟨rfl, rfl⟩))
                all_goals
                  exact NO.out D.out _ (by go_grown)
          · have D : Hid (B = false) := by show _ = _; rw [EV.out]; simp
            clear EV
            go_enter Try.func8, Try.ntmps8
            go_wp2_with (first | (go_at_call 23; refine (kv _).mono ?_; rintro e w1 ⟨rfl, rfl⟩) | (go_at_call 24; first | ((with_reducible refine (k1 _ (by go_grown)).mono ?_); rintro e w1 ⟨rfl, rfl⟩) | ((with_reducible refine (k3 _ (by go_grown)).mono ?_); rintro e w1 ⟨rfl, rfl⟩)) | (go_at_call 25; refine (k2 _ (by go_grown)).mono ?_; rintro e w1 ⟨rfl, rfl⟩))
            all_goals
              exact NO.out D.out _ (by go_grown)
      · have D : Hid (B = false) := by show _ = _; rw [EV.out]; rw [decide_eq_false n16]; simp
        clear EV
        go_enter Try.func8, Try.ntmps8
        go_wp2_with (first | (go_at_call 23; refine (kv _).mono ?_; rintro e w1 ⟨rfl, rfl⟩) | (go_at_call 24; first | ((with_reducible refine (k1 _ (by go_grown)).mono ?_); rintro e w1 ⟨rfl, rfl⟩) | ((with_reducible refine (k3 _ (by go_grown)).mono ?_); rintro e w1 ⟨rfl, rfl⟩)) | (go_at_call 25; refine (k2 _ (by go_grown)).mono ?_; rintro e w1 ⟨rfl, rfl⟩))
        all_goals
          exact NO.out D.out _ (by go_grown)
theorem fcheck_any (p : ByteArray) (a b : Option Addr) (c d : Nat) (xs ys : List Int) (w : World) (hx : IsInts .i64 w a xs) (hy : IsInts .i64 w b ys) :
    Calls Try.prog 8 #[flV p a xs.length c b ys.length d] w (FlE p xs ys w) := by
  refine fcheck_walk p a b xs.length ys.length c d (validN (lst p)) (riseB (-100000000) xs) (decide (0 ∈ xs)) (riseB 0 ys) (lastO xs) (flB (lst p) xs ys) w _
    (fun w' => valid_spec p w') (fun l W h => rising_spec a c xs (-100000000) W (hx.later h) (by omega)) (fun l W h => contains_spec a c xs 0 W (hx.later h) (by omega)) (fun l W h => rising_spec b d ys 0 W (hy.later h) (by omega)) ?_ (flB_eq (lst p) xs ys)
    (fun h w' b => fl_no h b) (fun h w' b => fl_yes h b)
  show _
  rcases hx with rfl | ⟨g, o, rfl, hx⟩
  · exact .inl ⟨rfl, rfl⟩
  · by_cases e : xs = []
    · subst e; exact .inl ⟨rfl, rfl⟩
    · have hp : 0 < xs.length := by cases xs; exact absurd rfl e; simp
      refine .inr ⟨xs.length - 1, xs[xs.length - 1], g, o, by omega, rfl, hx.cell _ (by omega), hx.lt, ?_⟩
      unfold lastO
      rw [List.getLast?_eq_getElem?, List.getElem?_eq_getElem (by omega)]
end Go.Proofs.YtgcapmoflmoobaaRRR
