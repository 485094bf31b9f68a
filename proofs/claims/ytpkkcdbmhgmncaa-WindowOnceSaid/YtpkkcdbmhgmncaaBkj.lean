/- window's Book and the reference's, side by side: one contract for each call. -/
import Derived.Test.YtpkkcdbmhgmncaaBki
import Derived.Test.YtpkkcdbmhgmncaaWinsame
namespace Go.Proofs.Ytpkkcdbmhgmncaa
set_option linter.unusedVariables false
set_option linter.unusedSimpArgs false
open Go.RowKit W T9 Go.Maps
/-- The two books at one state, c what is closed, S what is open. -/
structure Both (w : World) (bb mb rb : Nat) (d c : Int) (S : List Int) : Prop where
  bk : BookAt w bb mb d c S
  rk : RBook [rb, bb, mb] w rb d c S
  up : S.Pairwise (· < ·)
  few : S.length ≤ 4096
  ne : rb ≠ bb ∧ rb ≠ mb
def putS (d c : Int) (S : List Int) (t : Int) : List Int := if t / d ≤ c then S else if t / d ∈ S then S else if S.length < 4096 then insS (t / d) S else S
def putV (d c : Int) (S : List Int) (t : Int) : Int := if t / d ≤ c then 0 else if t / d ∈ S then t / d else if S.length < 4096 then t / d else 0
def putE (d c : Int) (S : List Int) (t : Int) : Int := if t / d ≤ c then 62 else if t / d ∈ S then 0 else if S.length < 4096 then 0 else 3
theorem putS_up {d c : Int} {S : List Int} (t : Int) (up : S.Pairwise (· < ·)) (few : S.length ≤ 4096) : (putS d c S t).Pairwise (· < ·) ∧ (putS d c S t).length ≤ 4096 := by
  unfold putS
  split
  · exact ⟨up, few⟩
  · split
    · exact ⟨up, few⟩
    · split
      · rename_i n l
        exact ⟨insS_up _ up n, by rw [insS_len]; omega⟩
      · exact ⟨up, few⟩
theorem put_any {w : World} {bb mb rb : Nat} {d c : Int} {S : List Int} (b : Both w bb mb rb d c S) (t : Int) (j : IsHi t) (h1 : 1 ≤ d) :
    Calls Try.prog 14 #[.pointer (some ⟨bb, 0, none⟩), .int .i64 t] w fun e w' => e = .returned (.tuple #[.int .i64 (putV d c S t), .int .i64 (putE d c S t)]) ∧ BookAt w' bb mb d c (putS d c S t) ∧ Mod [mb] w w' := by
  unfold putV putE putS
  by_cases k1 : t / d ≤ c
  · rw [if_pos k1, if_pos k1, if_pos k1]
    refine (put_late b.bk t _ j h1 rfl k1).mono ?_
    rintro e w' ⟨rfl, rfl⟩
    exact ⟨rfl, b.bk, Mod.refl _ _⟩
  · rw [if_neg k1, if_neg k1, if_neg k1]
    by_cases k2 : t / d ∈ S
    · rw [if_pos k2, if_pos k2, if_pos k2]
      refine (put_in b.bk t _ j h1 rfl (by omega) k2 b.few).mono ?_
      rintro e w' h
      exact h
    · rw [if_neg k2, if_neg k2, if_neg k2]
      by_cases k3 : S.length < 4096
      · rw [if_pos k3, if_pos k3, if_pos k3]
        refine (put_new b.bk t _ j h1 rfl (by omega) k2 k3).mono ?_
        rintro e w' h
        exact h
      · rw [if_neg k3, if_neg k3, if_neg k3]
        refine (put_many b.bk t _ j h1 rfl (by omega) k2 (by omega)).mono ?_
        rintro e w' ⟨rfl, k⟩
        exact ⟨rfl, b.bk.later k, Mod.of_below k⟩
theorem rput_any {X : List Nat} {w : World} {rb : Nat} {d c : Int} {S : List Int} (b : RBook X w rb d c S) (few : S.length ≤ 4096) (t : Int) (j : IsHi t) (h1 : 1 ≤ d) (h2 : d ≤ 1048576) :
    Calls Try.prog 15 #[.pointer (some ⟨rb, 0, none⟩), .int .i64 t] w fun e w' => e = .returned (.tuple #[.int .i64 (putV d c S t), .int .i64 (putE d c S t)]) ∧ RBook X w' rb d c (putS d c S t) ∧ Mod [rb] w w' := by
  unfold putV putE putS
  by_cases k1 : t / d ≤ c
  · rw [if_pos k1, if_pos k1, if_pos k1]
    refine (rput_late b t _ j h1 h2 rfl k1).mono ?_
    rintro e w' ⟨rfl, rfl⟩
    exact ⟨rfl, b, Mod.refl _ _⟩
  · rw [if_neg k1, if_neg k1, if_neg k1]
    by_cases k2 : t / d ∈ S
    · rw [if_pos k2, if_pos k2, if_pos k2]
      refine (rput_in b few t _ j h1 h2 rfl (by omega) k2).mono ?_
      rintro e w' ⟨rfl, rfl⟩
      exact ⟨rfl, b, Mod.refl _ _⟩
    · rw [if_neg k2, if_neg k2, if_neg k2]
      by_cases k3 : S.length < 4096
      · rw [if_pos k3, if_pos k3, if_pos k3]
        refine (rput_new b k3 t _ j h1 h2 rfl (by omega) k2).mono ?_
        rintro e w' h
        exact h
      · rw [if_neg k3, if_neg k3, if_neg k3]
        refine (rput_many b (by omega) t _ j h1 h2 rfl (by omega) k2).mono ?_
        rintro e w' ⟨rfl, rfl⟩
        exact ⟨rfl, b, Mod.refl _ _⟩
def cloC (d c t : Int) : Int := if t / d = -9223372036854775808 then c else if t / d - 1 ≤ c then c else t / d - 1
def cloO (d c : Int) (S : List Int) (t : Int) : List Int := if t / d = -9223372036854775808 then [] else if t / d - 1 ≤ c then [] else S.filter fun y => decide (y ≤ t / d - 1)
def cloS (d c : Int) (S : List Int) (t : Int) : List Int := if t / d = -9223372036854775808 then S else if t / d - 1 ≤ c then S else S.filter fun y => !decide (y ≤ t / d - 1)
theorem cloS_up {d c : Int} {S : List Int} (t : Int) (up : S.Pairwise (· < ·)) (few : S.length ≤ 4096) : (cloS d c S t).Pairwise (· < ·) ∧ (cloS d c S t).length ≤ 4096 := by
  unfold cloS
  split
  · exact ⟨up, few⟩
  · split
    · exact ⟨up, few⟩
    · exact ⟨up.filter _, Nat.le_trans (List.length_filter_le _ _) few⟩
theorem cloO_few {d c : Int} {S : List Int} (t : Int) (few : S.length ≤ 4096) : (cloO d c S t).length ≤ 4096 := by
  unfold cloO
  split
  · simp
  · split
    · simp
    · exact Nat.le_trans (List.length_filter_le _ _) few
theorem close_any {w : World} {bb mb : Nat} {d c : Int} {S : List Int} (b : BookAt w bb mb d c S) (few : S.length ≤ 4096) (up : S.Pairwise (· < ·)) (t : Int) (j : IsHi t) (h1 : 1 ≤ d) (h2 : d ≤ 1048576) :
    Calls Try.prog 17 #[.pointer (some ⟨bb, 0, none⟩), .int .i64 t] w fun e w' => ∃ v, e = .returned v ∧ OwnR w.heap.size w' v (cloO d c S t) ∧ BookAt w' bb mb d (cloC d c t) (cloS d c S t) ∧ Mod [bb, mb] w w' := by
  unfold cloC cloO cloS
  have hd := div_hi j h1
  by_cases k1 : t / d = -9223372036854775808
  · rw [if_pos k1, if_pos k1, if_pos k1]
    refine (close_no b t j h1 h2 k1.symm).mono ?_
    rintro e w' ⟨rfl, rfl⟩
    exact ⟨_, rfl, OwnR.nil _ _, b, Mod.refl _ _⟩
  · rw [if_neg k1, if_neg k1, if_neg k1]
    by_cases k2 : t / d - 1 ≤ c
    · rw [if_pos k2, if_pos k2, if_pos k2]
      refine (close_old b t (t / d - 1) j h1 h2 (by omega) (by have := hd.1; omega) k2).mono ?_
      rintro e w' ⟨rfl, rfl⟩
      exact ⟨_, rfl, OwnR.nil _ _, b, Mod.refl _ _⟩
    · rw [if_neg k2, if_neg k2, if_neg k2]
      refine (close_ok b few up t (t / d - 1) j h1 h2 (by omega) (by have := hd.1; omega) (by omega)).mono ?_
      rintro e w' h
      exact h
theorem rclose_any {X : List Nat} {w : World} {rb : Nat} {d c : Int} {S : List Int} (b : RBook X w rb d c S) (few : S.length ≤ 4096) (t : Int) (j : IsHi t) (h1 : 1 ≤ d) (h2 : d ≤ 1048576) :
    Calls Try.prog 18 #[.pointer (some ⟨rb, 0, none⟩), .int .i64 t] w fun e w' => ∃ v, e = .returned v ∧ OwnR w.heap.size w' v (cloO d c S t) ∧ RBook X w' rb d (cloC d c t) (cloS d c S t) ∧ Mod [rb] w w' := by
  unfold cloC cloO cloS
  have hd := div_hi j h1
  by_cases k1 : t / d = -9223372036854775808
  · rw [if_pos k1, if_pos k1, if_pos k1]
    refine (rclose_no b t j h1 h2 k1.symm).mono ?_
    rintro e w' ⟨rfl, rfl⟩
    exact ⟨_, rfl, OwnR.nil _ _, b, Mod.refl _ _⟩
  · rw [if_neg k1, if_neg k1, if_neg k1]
    by_cases k2 : t / d - 1 ≤ c
    · rw [if_pos k2, if_pos k2, if_pos k2]
      refine (rclose_old b t (t / d - 1) j h1 h2 (by omega) (by have := hd.1; omega) k2).mono ?_
      rintro e w' ⟨rfl, rfl⟩
      exact ⟨_, rfl, OwnR.nil _ _, b, Mod.refl _ _⟩
    · rw [if_neg k2, if_neg k2, if_neg k2]
      refine (rclose_ok b few t (t / d - 1) j h1 h2 (by omega) (by have := hd.1; omega) (by omega)).mono ?_
      rintro e w' h
      exact h
theorem same6 {a a' : Option Addr} {S : List Int} {w : World} (c c' : Nat) (h : IsInts .i64 w a S) (h' : IsInts .i64 w a' S) (hs : S.length ≤ 4096) :
    Calls Try.prog 16 #[.slice a S.length c, .slice a' S.length c'] w fun e w' => e = .returned (.bool true) ∧ Below w.heap.size w w' := by
  by_cases z : S = []
  · subst z
    exact same_none a a' c c' w
  · obtain ⟨g, o, rfl, l⟩ := h.resolve_left z
    obtain ⟨g', o', rfl, l'⟩ := h'.resolve_left z
    refine same_some g o c g' o' c' S.length (fun k => S.getD k 0) w l.lt l'.lt (by unfold maxLen; omega) (fun k hk => ?_) (fun k hk => ?_)
    · rw [l.cell k hk]; simp [List.getD, hk]
    · rw [l'.cell k hk]; simp [List.getD, hk]
theorem same6R {B B' : Nat} {u v : Value} {S : List Int} {w : World} (h : OwnR B w u S) (h' : OwnR B' w v S) (hs : S.length ≤ 4096) :
    Calls Try.prog 16 #[u, v] w fun e w' => e = .returned (.bool true) ∧ Below w.heap.size w w' := by
  obtain ⟨a, c, rfl, _, _, i, _⟩ := h.is
  obtain ⟨a', c', rfl, _, _, i', _⟩ := h'.is
  exact same6 c c' i i' hs
/-- After a call on each book, in either order. -/
theorem Both.after {w w1 w2 : World} {bb mb rb : Nat} {d c c' : Int} {S S' : List Int} (b : Both w bb mb rb d c S) (k1 : BookAt w1 bb mb d c' S') (k2 : RBook [rb, bb, mb] w2 rb d c' S') (m : Mod [rb] w1 w2) (up : S'.Pairwise (· < ·)) (few : S'.length ≤ 4096) : Both w2 bb mb rb d c' S' :=
  ⟨k1.mod m (by simp; exact fun e => b.ne.1 e.symm) (by simp; exact fun e => b.ne.2 e.symm), k2, up, few, b.ne⟩
theorem Both.after2 {w w1 w2 : World} {bb mb rb : Nat} {d c c' : Int} {S S' : List Int} (b : Both w bb mb rb d c S) (k1 : RBook [rb, bb, mb] w1 rb d c' S') (k2 : BookAt w2 bb mb d c' S') (m : Mod [bb, mb] w1 w2) (up : S'.Pairwise (· < ·)) (few : S'.length ≤ 4096) : Both w2 bb mb rb d c' S' :=
  ⟨k2, k1.mod m (by simp; exact b.ne) (by simp), up, few, b.ne⟩
theorem Both.later {w w' : World} {bb mb rb : Nat} {d c : Int} {S : List Int} (b : Both w bb mb rb d c S) (k : Below w.heap.size w w') : Both w' bb mb rb d c S := ⟨b.bk.later k, b.rk.later k, b.up, b.few, b.ne⟩
theorem Both.rafter {w w1 : World} {bb mb rb : Nat} {d c : Int} {S : List Int} (b : Both w bb mb rb d c S) (m : Mod [bb, mb] w w1) : RBook [rb, bb, mb] w1 rb d c S := b.rk.mod m (by simp; exact b.ne) (by simp)
theorem Both.bafter {w w1 : World} {bb mb rb : Nat} {d c : Int} {S : List Int} (b : Both w bb mb rb d c S) (m : Mod [rb] w w1) : Both w1 bb mb rb d c S → BookAt w1 bb mb d c S := fun h => h.bk
set_option maxRecDepth 100000 in
theorem rnew_ok (d : Int) (h1 : 1 ≤ d) (h2 : d ≤ 1048576) (w : World) :
    Calls Try.prog 12 #[.int .i64 d] w fun e w' => e = .returned (.tuple #[.agg #[.int .i64 d, .slice none 0 0, .int .i64 (-9223372036854775808), .bool true], .int .i64 0]) ∧ Below w.heap.size w w' := by
  have k := rbad_no d h1 h2
  clear h1 h2
  go_enter Try.func12, Try.ntmps12
  go_wp2_with fail
  refine (k _).mono ?_
  rintro e w' ⟨rfl, rfl⟩
  go_wp2_with fail
  go_returns
  exact ⟨rfl, by go_grown⟩
set_option maxRecDepth 100000 in
theorem rnew_bad (d : Int) (h1 : d < 1 ∨ 1048576 < d) (w : World) :
    Calls Try.prog 12 #[.int .i64 d] w fun e w' => e = .returned (.tuple #[.agg #[.int .i64 0, .slice none 0 0, .int .i64 0, .bool false], .int .i64 61]) ∧ Below w.heap.size w w' := by
  have k := rbad_yes d h1
  clear h1
  go_enter Try.func12, Try.ntmps12
  go_wp2_with fail
  refine (k _).mono ?_
  rintro e w' ⟨rfl, rfl⟩
  go_wp2_with fail
  go_returns
  exact ⟨rfl, by go_grown⟩
end Go.Proofs.Ytpkkcdbmhgmncaa
