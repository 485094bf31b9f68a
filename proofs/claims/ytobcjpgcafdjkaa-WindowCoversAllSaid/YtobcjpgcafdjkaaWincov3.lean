/- WindowCovers: every Cover, against the reference. -/
import Derived.Test.YtobcjpgcafdjkaaWincov2
import Derived.Deep.AppendLies
namespace Go.Proofs.Ytobcjpgcafdjkaa
set_option linter.unusedVariables false
open Go.RowKit W
/-- The numbers from p on, n of them, lie in block g. -/
structure LiesAt (w : World) (g : Nat) (p : Int) (n : Nat) : Prop where
  cell : ∀ j, j < n → w.cell? ⟨g, 0 + j, none⟩ = some (.int .i64 (p + (j : Int)))
  lt : g < w.heap.size
theorem LiesAt.later {w w' : World} {g n : Nat} {p : Int} (h : LiesAt w g p n) (b : Below w.heap.size w w') : LiesAt w' g p n :=
  ⟨fun j hj => (b.cell (p := ⟨g, 0 + j, none⟩) h.lt).trans (h.cell j hj), Nat.lt_of_lt_of_le h.lt b.size⟩
theorem got {w w' : World} {p : Int} {n : Nat} {e : Ending} (h : CoverPost w p n e w') (hn : 1 ≤ n) :
    ∃ g cap, e = .returned (.tuple #[.slice (some ⟨g, 0, none⟩) n cap, .int .i64 0]) ∧ LiesAt w' g p n ∧ Below w.heap.size w w' := by
  obtain ⟨v, rfl, own⟩ := h
  have o := own.own
  obtain ⟨hl, hx | ⟨g, cap, cur, rfl, hg, hb, hnc, hcm, hs, hxs⟩⟩ := o
  · exact absurd hx.2 (by omega)
  · refine ⟨g, cap, rfl, ⟨fun j hj => ?_, (own.own.lt g rfl).2⟩, own.below⟩
    have := own.own.cellAt j (by omega)
    rw [Nat.zero_add, this]
    simp [runs, hj]
abbrev CoverIs (f : Nat) (t l d x : Int) : Prop := ∀ w, Calls Try.prog f #[.int .i64 t, .int .i64 l, .int .i64 d] w fun e w' => e = .returned (.tuple #[.slice none 0 0, .int .i64 x]) ∧ w = w'
abbrev CoverHas (f : Nat) (t l d p : Int) (n : Nat) : Prop := ∀ w, Calls Try.prog f #[.int .i64 t, .int .i64 l, .int .i64 d] w (CoverPost w p n)
theorem three : CoverHas 15 5 21 10 0 3 := cover_ok 5 21 10 0 2 3 ⟨by omega, by omega⟩ ⟨by omega, by omega⟩ (by omega) (by omega) (by omega) rfl rfl rfl (by omega) (by omega)
set_option maxHeartbeats 2000000 in
theorem covers_nil (t l d x : Int) (c1 : CoverIs 15 t l d x) (c2 : CoverIs 18 t l d x) (w : World) :
    Calls Try.prog 6 #[.int .i64 t, .int .i64 l, .int .i64 d] w fun e w' => e = .returned (.bool true) ∧ Below w.heap.size w w' := by
  have c3 := three
  have c4 := same_none none none 0 0
  go_enter Try.func6, Try.ntmps6
  go_wp2_with fail
  refine (c1 _).mono ?_
  rintro e w' ⟨rfl, rfl⟩
  go_wp2_with fail
  refine (c2 _).mono ?_
  rintro e w' ⟨rfl, rfl⟩
  go_wp2_with fail
  refine (c3 _).mono ?_
  intro e w1 hp
  obtain ⟨g, cap, he, la, b1⟩ := got hp (by omega)
  clear hp
  rw [he]
  go_wp2_with fail
  refine (c4 _).mono ?_
  rintro e2 w2 ⟨rfl, b2⟩
  have la2 := la.later b2
  have B2 := b1.trans (b2.mono b1.size)
  clear la b1 b2
  go_wp2_with fail
  refine (same_some g 0 cap w2.heap.size 0 3 3 (fun j => 0 + (j : Int)) _ (by have := la2.lt; simp; omega) (by simp) (by unfold maxLen; omega) ?_ ?_).mono ?_
  · intro j hj
    have := la2.cell j hj
    rw [World.cell?_alloc_past _ _ _ la2.lt]
    exact this
  · intro j hj
    obtain rfl | rfl | rfl : j = 0 ∨ j = 1 ∨ j = 2 := by omega
    all_goals simp [go_sem]
  · rintro e3 w3 ⟨rfl, b3⟩
    have B3 : Below w.heap.size w w3 := Below.trans (by have := B2.size; go_grown) (b3.mono (by have := B2.size; simp; omega))
    go_wp2_with fail
    go_returns
    exact ⟨rfl, B3⟩
set_option maxHeartbeats 2000000 in
theorem covers_some (t l d p : Int) (n : Nat) (n1 : 1 ≤ n) (n2 : n ≤ 4096) (c1 : CoverHas 15 t l d p n) (c2 : CoverHas 18 t l d p n) (w : World) :
    Calls Try.prog 6 #[.int .i64 t, .int .i64 l, .int .i64 d] w fun e w' => e = .returned (.bool true) ∧ Below w.heap.size w w' := by
  have c3 := three
  have nm : n ≤ maxLen := by unfold maxLen; omega
  have N1 : Hid (1 ≤ n) := n1
  clear n1 n2
  go_enter Try.func6, Try.ntmps6
  go_wp2_with fail
  refine (c1 _).mono ?_
  intro e v1 hp
  obtain ⟨g, cap, he, la, b1⟩ := got hp N1.out
  clear hp
  rw [he]
  go_wp2_with fail
  refine (c2 _).mono ?_
  intro e' v2 hp
  obtain ⟨g', cap', he', la', b2⟩ := got hp N1.out
  clear hp
  rw [he']
  have lb := la.later b2
  have B2 := b1.trans (b2.mono b1.size)
  clear la b1 b2
  go_wp2_with fail
  refine (c3 _).mono ?_
  intro e'' v3 hp
  obtain ⟨g3, cap3, he'', lc, b3⟩ := got hp (by omega)
  clear hp
  rw [he'']
  have ld := lb.later b3
  have le := la'.later b3
  have B3 := B2.trans (b3.mono B2.size)
  clear lb la' B2 b3
  go_wp2_with fail
  refine (same_some g 0 cap g' 0 cap' n (fun j => p + (j : Int)) _ ld.lt le.lt nm ld.cell le.cell).mono ?_
  rintro e4 v4 ⟨rfl, b4⟩
  have lf := lc.later b4
  have B4 := B3.trans (b4.mono B3.size)
  clear ld le lc B3 b4
  go_wp2_with fail
  refine (same_some g3 0 cap3 v4.heap.size 0 3 3 (fun j => 0 + (j : Int)) _ (by have := lf.lt; simp; omega) (by simp) (by unfold maxLen; omega) ?_ ?_).mono ?_
  · intro j hj
    have := lf.cell j hj
    rw [World.cell?_alloc_past _ _ _ lf.lt]
    exact this
  · intro j hj
    obtain rfl | rfl | rfl : j = 0 ∨ j = 1 ∨ j = 2 := by omega
    all_goals simp [go_sem]
  · rintro e5 v5 ⟨rfl, b5⟩
    have B5 : Below w.heap.size w v5 := Below.trans (by have := B4.size; go_grown) (b5.mono (by have := B4.size; simp; omega))
    go_wp2_with fail
    go_returns
    exact ⟨rfl, B5⟩
theorem law_WindowCovers (t l d : Int) (w0 : (Lit.int .i64 t).wf = true) (w1 : (Lit.int .i64 l).wf = true) (w2 : (Lit.int .i64 d).wf = true) (w : World) :
    Calls Try.prog 6 #[.int .i64 t, .int .i64 l, .int .i64 d] w fun e w' => e = .returned (.bool true) ∧ Below w.heap.size w w' := by
  have i := win_hi_of_wf w0
  have j := win_hi_of_wf w1
  by_cases h : d < 1 ∨ 1048576 < d
  · exact covers_nil t l d _ (cover_bad t l d h) (rcover_bad t l d h) w
  · have h1 : 1 ≤ d := by omega
    have h2 : d ≤ 1048576 := by omega
    by_cases le : l ≤ t
    · exact covers_nil t l d _ (cover_none t l d h1 h2 le) (rcover_none t l d h1 h2 le) w
    · have lt : t < l := by omega
      have pq : t / d ≤ (l - 1) / d := Int.ediv_le_ediv (by omega) (by omega)
      by_cases many : 4096 ≤ (l - 1) / d - t / d
      · exact covers_nil t l d _ (cover_many t l d _ _ i j h1 h2 lt rfl rfl pq many) (rcover_many t l d _ _ i j h1 h2 lt rfl rfl pq many) w
      · have hn : (l - 1) / d = t / d + (((l - 1) / d - t / d + 1).toNat : Int) - 1 := by omega
        exact covers_some t l d _ _ (by omega) (by omega) (cover_ok t l d _ _ _ i j h1 h2 lt rfl rfl hn (by omega) (by omega)) (rcover_ok t l d _ _ _ i j h1 h2 lt rfl rfl hn (by omega) (by omega)) w
end Go.Proofs.Ytobcjpgcafdjkaa
