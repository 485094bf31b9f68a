/- sink: the reference's choice. -/
import Derived.Test.YtbahhlgcebgfeaaDoorSnk20
import Derived.Test.YtbahhlgcebgfeaaDoorSnk13
namespace Go.Proofs.YtbahhlgcebgfeaaDoor
set_option linter.unusedVariables false
set_option linter.unusedSimpArgs false
open Go.RowKit W
theorem wrF_drop (P : List Ch) (m q : Nat) : (wrF (P.drop m) q).2.2 = P.drop (m + 1) := by
  rcases h : P.drop m with _ | ⟨x, r⟩
  · have : P.length ≤ m := by
      have := congrArg List.length h
      rw [List.length_drop] at this
      simp at this; omega
    show [] = _
    rw [List.drop_eq_nil_of_le (by omega)]
  · show r = _
    have := List.drop_drop (i := 1) (j := m) (l := P)
    rw [h] at this
    rw [Nat.add_comm m 1] at *
    first | exact this | (rw [Nat.add_comm 1 m] at *; exact this)
theorem sendL_drop (P : List Ch) (acc : List UInt8) (f : Bool) (b : List UInt8) (idle m : Nat) : ∃ m2, (sendL (P.drop m) acc f b idle m).2.2.2.2 = ((m2 : Nat) : Int) ∧ (sendL (P.drop m) acc f b idle m).1 = P.drop m2 := by
  obtain ⟨p, hp⟩ : ∃ p, p = P.drop m := ⟨_, rfl⟩
  obtain ⟨n, hn⟩ : ∃ n : Int, n = (m : Int) := ⟨_, rfl⟩
  rw [← hp, ← hn]
  fun_induction sendL p acc f b idle n generalizing m with
  | case1 p acc idle n => exact ⟨m, hn, hp⟩
  | case2 p acc b idle n hb h => exact ⟨m + 1, by rw [hn]; push_cast; rfl, by rw [hp]; exact wrF_drop P m _⟩
  | case3 p acc b idle n hb h k ih => exact ih (m + 1) (by rw [hp]; exact wrF_drop P m _) (by rw [hn]; push_cast; rfl)
  | case4 p acc b idle n hb h k i => exact ⟨m + 1, by rw [hn]; push_cast; rfl, by rw [hp]; exact wrF_drop P m _⟩
  | case5 p acc b idle n hb h k i ih => exact ih (m + 1) (by rw [hp]; exact wrF_drop P m _) (by rw [hn]; push_cast; rfl)
def ChoP (B g : Nat) (w : World) (M : Nat → Prop) (pa : Option Addr) (pc : Nat) (P : List Ch) (cv : Value) (hd : Bool) (last : Int) (wv lv : Value) (m : Nat) (C : List CE) (wh lo : List Int) (ba : Option Addr) (bl : List UInt8) (ea : Addr) (q : Nat) (e : Ending) (w' : World) : Prop :=
  e = .returned (.tuple #[.int .i64 ((wrF (P.drop m) q).1 : Nat), .bool (wrF (P.drop m) q).2.1]) ∧ Rk B g w M w' pa pc P cv hd last wv lv ((m : Int) + 1) C wh lo ba bl ea
set_option maxRecDepth 100000 in
set_option maxHeartbeats 8000000 in
theorem choice_is {B g : Nat} {w W : World} {M : Nat → Prop} {pa : Option Addr} {pc : Nat} {P : List Ch} {cv : Value} {hd : Bool} {last : Int} {wv lv : Value} {m : Nat} {C : List CE} {wh lo : List Int} {ba : Option Addr} {bl : List UInt8} {ea : Addr}
    (h : Rk B g w M W pa pc P cv hd last wv lv (m : Int) C wh lo ba bl ea) (hm : m ≤ 4611686018427387904) (hP : P.length ≤ 1048576) (q : Nat) :
    Calls Tryd.prog 29 #[.pointer (some ⟨g, 0, none⟩), .int .i64 q] W (ChoP B g w M pa pc P cv hd last wv lv m C wh lo ba bl ea q) := by
  obtain ⟨c0, _, _, _, _, _, c4, fr, lg⟩ := h.sb.cells
  have f4 := fr 4
  have w1 : IntKind.i64.wrap ((m : Int) + 1) = (m : Int) + 1 := by rw [IntKind.wrap_i64]; omega
  have H1 := hide (h.count ((m : Int) + 1))
  obtain ⟨np, hnp⟩ : ∃ np, np = P.length := ⟨_, rfl⟩
  rw [← hnp] at c0 hP
  have NP := hide hnp
  clear fr h hnp
  by_cases c1 : np ≤ m
  · have c1' : (np : Int) ≤ (m : Int) := by omega
    have E : Hid (wrF (P.drop m) q = (q, false, [])) := hide (by rw [List.drop_eq_nil_of_le (by rw [← NP.out]; exact c1)]; rfl)
    go_enter Tryd.func29, Tryd.ntmps29
    go_wp2_with fail
    go_returns
    exact ⟨by rw [E.out]; rfl, H1.out⟩
  · have c1' : ¬ (np : Int) ≤ (m : Int) := by omega
    have hmP : m < P.length := by rw [← NP.out]; omega
    obtain ⟨x, hx⟩ : ∃ x, x = P[m] := ⟨_, rfl⟩
    have E : Hid (wrF (P.drop m) q = (tk x.1 q, x.2, P.drop (m + 1))) := hide (by rw [← List.getElem_cons_drop hmP, hx]; rfl)
    obtain ⟨k, hk⟩ : ∃ k, k = tk x.1 q := ⟨_, rfl⟩
    have TK : min (max x.1 0) (q : Int) = (k : Int) := by rw [hk]; unfold tk; omega
    have HK := hide hk
    clear hk
    go_enter Tryd.func29, Tryd.ntmps29
    go_upto_region 5 with (fail)
    generalize W.setCell ⟨g, 4, none⟩ (.int .i64 ((m : Int) + 1)) = W1 at H1 ⊢
    clear c0 c4 lg f4
    have c0 := H1.out.sb.cells.1
    rw [← NP.out] at c0
    have lg := blk_lt H1.out.sb
    obtain ⟨gp, op, rfl, ltp, hc⟩ := H1.out.pl.resolve_left (fun e => by rw [e] at hmP; simp at hmP)
    obtain ⟨p0, p1⟩ := hc m hmP
    rw [← hx] at p0 p1
    have m0 : (0 : Int) ≤ (m : Int) := by omega
    have m1 : (m : Int) < (np : Int) := by omega
    clear hc hmP hx
    go_region
    go_wp2_with fail
    go_returns
    exact ⟨by rw [E.out, ← HK.out]; rfl, H1.out.later (Below.refl _ _).drew⟩
end Go.Proofs.YtbahhlgcebgfeaaDoor
