/- NameFirst: the law's walk. -/
import Derived.Test.YteahbdhhcfoiiaaDoorNal
import Derived.Test.YteahbdhhcfoiiaaDoorNfp
import Derived.Test.YteahbdhhcfoiiaaDoorShp
namespace Go.Proofs.YteahbdhhcfoiiaaDoor
set_option linter.unusedVariables false
set_option linter.unusedSimpArgs false
open Go.RowKit W
theorem gm_of {W : World} (h : W.ShapedOpen Tryd.prog) : ∃ m, GM m W := Tryd.laysM146.s1_3 W h
theorem pat_err {s : ByteArray} {f i j : Nat} {acc : List (List Gl)} {c : Int} (h : patA s f i acc = (j, .error c)) : c = 31 ∨ c = 3 := by
  induction f generalizing i acc with
  | zero => cases h; exact .inl rfl
  | succ f ih =>
    unfold patA at h
    split at h
    · rename_i e; cases h; exact node_err e
    · split at h
      · cases h; exact .inr rfl
      · split at h
        · cases h
        · exact ih h
theorem comp_err {s : ByteArray} {j : Nat} {c : Int} (h : compA s = (j, .error c)) : (c = 31 ∨ c = 3) ∨ c = 2 := by
  unfold compA at h
  split at h
  · cases h; exact .inr rfl
  · exact .inl (pat_err h)
set_option maxRecDepth 100000 in
set_option maxHeartbeats 8000000 in
theorem law_NameFirst (s m : ByteArray) (hs : s.size ≤ 140737488351232) (hm : m.size ≤ 140737488351232) (W : World) (hsh : W.ShapedOpen Tryd.prog) :
    Calls Tryd.prog 14 #[.string s, .string m] W fun e w' => e = .returned (.bool true) ∧ Below W.heap.size W w' := by
  obtain ⟨mx, gm⟩ := gm_of hsh
  clear hsh
  have kc := comp_spec s W
  have GMH := hide gm
  clear gm
  obtain ⟨⟨k, r⟩, hr⟩ : ∃ q, compA s = q := ⟨_, rfl⟩
  rw [hr] at kc
  have HR := hide hr
  clear hr
  cases r with
  | ok p =>
    go_enter Tryd.func14, Tryd.ntmps14
    go_wp2_with fail
    refine Calls.mono kc ?_
    rintro e w1 ⟨b1, a, c, he, ty, lc⟩
    simp only at he
    subst he
    have B1 := hide b1
    clear b1 ty lc kc
    go_wp2_with fail
    have B2 := hide (B1.out.alloc B1.out.size (.cells #[.slice a p.length c] 33))
    refine Calls.mono (alive_spec mx _ (GMH.out.later B2.out)) ?_
    rintro e w2 ⟨rfl, b2⟩
    have B3 := hide (B2.out.trans (b2.mono B2.out.size))
    clear b2
    go_wp2_with fail
    go_returns
    exact ⟨rfl, B3.out⟩
  | error c =>
    have hc := comp_err HR.out
    by_cases y1 : k < s.size
    · by_cases y2 : s.size + m.size ≤ 400
      · rcases hc with hc | rfl
        · have Q : Hid (compA (s ++ m) = (k, .error c)) := comp_pre s m y2 HR.out y1
          rcases hc with rfl | rfl
          all_goals
            go_enter Tryd.func14, Tryd.ntmps14
            go_wp2_with fail
            refine Calls.mono kc ?_
            rintro e w1 ⟨b1, he⟩
            simp only at he
            subst he
            have B1 := hide b1
            clear b1 kc
            go_wp2_with fail
            have B2 := hide (B1.out.alloc B1.out.size (.cells #[.slice none 0 0] 33))
            have k2 := comp_spec (s ++ m) (w1.alloc (.cells #[.slice none 0 0] 33))
            rw [Q.out] at k2
            refine Calls.mono k2 ?_
            rintro e w2 ⟨b2, he⟩
            simp only at he
            subst he
            have c2 : w2.cell? ⟨w1.heap.size, 0, none⟩ = some (.slice none 0 0) := (b2.cell (p := ⟨w1.heap.size, 0, none⟩) (by simp)).trans (by simp [go_sem])
            have l2 : w1.heap.size < w2.heap.size := Nat.lt_of_lt_of_le (by simp) b2.size
            have B3 := hide (B2.out.trans (b2.mono B2.out.size))
            clear b2 k2
            go_wp2_with fail
            have B4 := hide (B3.out.alloc B3.out.size (.cells #[.slice none 0 0] 33))
            refine Calls.mono (alive_spec mx _ (GMH.out.later B4.out)) ?_
            rintro e w3 ⟨rfl, b3⟩
            have B5 := hide (B4.out.trans (b3.mono B4.out.size))
            clear b3
            go_wp2_with fail
            go_returns
            exact ⟨rfl, B5.out⟩
        · go_enter Tryd.func14, Tryd.ntmps14
          go_wp2_with fail
          refine Calls.mono kc ?_
          rintro e w1 ⟨b1, he⟩
          simp only at he
          subst he
          have B1 := hide b1
          clear b1 kc
          go_wp2_with fail
          have B2 := hide (B1.out.alloc B1.out.size (.cells #[.slice none 0 0] 33))
          refine Calls.mono (alive_spec mx _ (GMH.out.later B2.out)) ?_
          rintro e w2 ⟨rfl, b2⟩
          have B3 := hide (B2.out.trans (b2.mono B2.out.size))
          clear b2
          go_wp2_with fail
          go_returns
          exact ⟨rfl, B3.out⟩
      · rcases hc with (rfl | rfl) | rfl
        all_goals
          go_enter Tryd.func14, Tryd.ntmps14
          go_wp2_with fail
          refine Calls.mono kc ?_
          rintro e w1 ⟨b1, he⟩
          simp only at he
          subst he
          have B1 := hide b1
          clear b1 kc
          go_wp2_with fail
          have B2 := hide (B1.out.alloc B1.out.size (.cells #[.slice none 0 0] 33))
          refine Calls.mono (alive_spec mx _ (GMH.out.later B2.out)) ?_
          rintro e w2 ⟨rfl, b2⟩
          have B3 := hide (B2.out.trans (b2.mono B2.out.size))
          clear b2
          go_wp2_with fail
          go_returns
          exact ⟨rfl, B3.out⟩
    · rcases hc with (rfl | rfl) | rfl
      all_goals
        go_enter Tryd.func14, Tryd.ntmps14
        go_wp2_with fail
        refine Calls.mono kc ?_
        rintro e w1 ⟨b1, he⟩
        simp only at he
        subst he
        have B1 := hide b1
        clear b1 kc
        go_wp2_with fail
        have B2 := hide (B1.out.alloc B1.out.size (.cells #[.slice none 0 0] 33))
        refine Calls.mono (alive_spec mx _ (GMH.out.later B2.out)) ?_
        rintro e w2 ⟨rfl, b2⟩
        have B3 := hide (B2.out.trans (b2.mono B2.out.size))
        clear b2
        go_wp2_with fail
        go_returns
        exact ⟨rfl, B3.out⟩
end Go.Proofs.YteahbdhhcfoiiaaDoor
