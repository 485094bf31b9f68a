/- micro: Read, whole. (gen_mread.py) -/
import Derived.Test.YtdjehbagnkfkpaaDoorMread
namespace Go.Proofs.YtdjehbagnkfkpaaDoor
set_option linter.unusedVariables false
set_option linter.unusedSimpArgs false
open Go.RowKit W
theorem add_lists (x y : List UInt8) (h : x.length + y.length ≤ 9223372036854775807) (w : World) :
    (Op.stringOp .add ⟨x.toArray⟩ ⟨y.toArray⟩).run Tryd.prog w = .ok (.string ⟨(x ++ y).toArray⟩) w := by
  rw [run_string_add_sum w _ _ (by simp [ByteArray.size]; omega), ByteArray.mk_append_mk]
theorem rep_one' (c : UInt8) (n : Nat) : Lib.repeatL [c] n = List.replicate n c := by
  induction n with
  | zero => rfl
  | succ n ih => simp [Lib.repeatL, ih, List.replicate_succ]
theorem worth_lead (l : List UInt8) : Dc.worth (48 :: l) = Dc.worth l := by simp [Dc.worth]
theorem worth_trim (l : List UInt8) : Dc.worth (Lib.trimLeftB l 48) = Dc.worth l := by
  unfold Lib.trimLeftB
  induction l with
  | nil => rfl
  | cons c l ih =>
    by_cases h : c = 48
    · subst h
      rw [List.dropWhile_cons_of_pos (by simp), ih, worth_lead]
    · rw [List.dropWhile_cons_of_neg (by simpa using h)]
theorem trim_head {l : List UInt8} {c : UInt8} {r : List UInt8} (h : Lib.trimLeftB l 48 = c :: r) : c ≠ 48 := by
  unfold Lib.trimLeftB at h
  have := List.head?_dropWhile_not (fun x => x == (48 : UInt8)) l
  rw [h] at this
  simpa using this
theorem trim_all {l : List UInt8} (h : l.all Dc.isD = true) : (Lib.trimLeftB l 48).all Dc.isD = true := by
  unfold Lib.trimLeftB
  rw [List.all_eq_true] at h ⊢
  intro x hx
  exact h x ((List.dropWhile_sublist _).subset hx)
theorem trim_len (l : List UInt8) : (Lib.trimLeftB l 48).length ≤ l.length := (List.dropWhile_sublist _).length_le
/-- A text of digits that does not begin with 0, with a sign or not, as Parse reads it. -/
theorem par_digits {X : List UInt8} {c : UInt8} {r : List UInt8} (e : X = c :: r) (n48 : c ≠ 48) (d : X.all Dc.isD = true) :
    parRes (isNeg ⟨X.toArray⟩) (digOf ⟨X.toArray⟩) = sumRes (sg false (Dc.worth X : Nat)) ∧ parRes (isNeg ⟨(45 :: X).toArray⟩) (digOf ⟨(45 :: X).toArray⟩) = sumRes (sg true (Dc.worth X : Nat)) := by
  have cd : Dc.isD c = true := by rw [e] at d; simp at d; exact d.1
  have n45 : c ≠ 45 := by rintro rfl; revert cd; decide
  have pl : plainB ⟨X.toArray⟩ = true := by
    unfold plainB allD
    rw [mk_toList, d, e]
    have : (some c == some (48 : UInt8)) = false := by simpa using n48
    simp [this]
  have i1 : isNeg ⟨X.toArray⟩ = false := by
    unfold isNeg; rw [mk_toList, e]; simpa using n45
  have i2 : isNeg ⟨(45 :: X).toArray⟩ = true := by unfold isNeg; rw [mk_toList]; rfl
  have d1 : digOf ⟨X.toArray⟩ = ⟨X.toArray⟩ := by unfold digOf; rw [i1]; rfl
  have d2 : digOf ⟨(45 :: X).toArray⟩ = ⟨X.toArray⟩ := by
    unfold digOf; rw [i2, if_pos rfl]
    apply ByteArray.ext
    apply Array.toList_inj.1
    simp [ByteArray.data_extract, ByteArray.size]
  have ne : (X == [48]) = false := by rw [e]; simp [n48]
  rw [i1, d1, i2, d2]
  refine ⟨?_, ?_⟩
  · rw [parRes_yes (by rw [pl]; rfl), wk_all]
  · rw [parRes_yes (by rw [pl, mk_toList, ne]; rfl), wk_all]
def badE : Ending := .returned (.tuple #[.agg #[.int .i64 0, .int .u64 0], .int .i64 20])
def fineE : Ending := .returned (.tuple #[.agg #[.int .i64 0, .int .u64 0], .int .i64 21])
/-- The millionths of whole digits and of digits behind the point. -/
def worthOf (V F : List UInt8) : Nat := Dc.worth (V ++ F ++ List.replicate (6 - F.length) 48)
/-- What Read answers, of the sign, what stands ahead of the point, what behind it, whether there is one. -/
def readQ (neg : Bool) (V F : List UInt8) (P : Bool) : Ending :=
  if (digB V && (!P || digB F)) = true then if 6 < F.length then fineE else sumRes (sg neg (worthOf V F : Nat)) else badE
def amt (l : List UInt8) : List UInt8 := Lib.trimPrefix l [45]
def sgnB (l : List UInt8) : Bool := Lib.hasPrefix l [45]
def readE (l : List UInt8) : Ending := readQ (sgnB l) (cutW (amt l)) (cutF (amt l)) (cutP (amt l))
theorem digB_all {l : List UInt8} (h : digB l = true) : l.all Dc.isD = true := by unfold digB at h; simp only [Bool.and_eq_true] at h; exact h.2
set_option maxHeartbeats 2000000 in
theorem mread_rest (s : ByteArray) (A V F : List UInt8) (neg P : Bool) (hb : V.length + F.length ≤ 140737488351232)
    (k1 : ∀ w, Calls Tryd.prog 33 #[.string s, .string ⟨#[45]⟩] w fun e w' => e = .returned (.tuple #[.string ⟨A.toArray⟩, .bool neg]) ∧ w' = w)
    (k2 : ∀ w, Calls Tryd.prog 34 #[.string ⟨A.toArray⟩, .string ⟨#[46]⟩] w fun e w' => e = .returned (.tuple #[.string ⟨V.toArray⟩, .string ⟨F.toArray⟩, .bool P]) ∧ Below w.heap.size w w')
    (k3 : ∀ w, Calls Tryd.prog 35 #[.string ⟨V.toArray⟩] w fun e w' => e = .returned (.bool true) ∧ Below w.heap.size w w')
    (k4 : P = true → ∀ w, Calls Tryd.prog 35 #[.string ⟨F.toArray⟩] w fun e w' => e = .returned (.bool true) ∧ Below w.heap.size w w')
    (dv : V.all Dc.isD = true) (df : F.all Dc.isD = true) (w : World) :
    Calls Tryd.prog 18 #[.string s] w fun e w' => e = (if 6 < F.length then fineE else sumRes (sg neg (worthOf V F : Nat))) ∧ Below w.heap.size w w' := by
  by_cases h6 : 6 < F.length
  · rw [if_pos h6]
    cases P
    · exact read_fine_false s A V F neg k1 k2 k3 (by omega) w
    · exact read_fine_true s A V F neg k1 k2 k3 (k4 rfl) (by omega) w
  rw [if_neg h6]
  have hF : (F.length : Int) ≤ 6 := by omega
  obtain ⟨R, hR⟩ : ∃ R : List UInt8, R = List.replicate (6 - F.length) 48 := ⟨_, rfl⟩
  have rl : R.length ≤ 6 := by rw [hR]; simp
  have k5 : ∀ w, Calls Tryd.prog 37 #[.string ⟨#[48]⟩, .int .i64 (6 - (F.length : Int))] w fun e w' => e = .returned (.string ⟨R.toArray⟩) ∧ Below w.heap.size w w' := by
    intro w
    have k := Tryd.strings_Repeat ⟨#[48]⟩ (6 - F.length) w (by omega) (by show 1 * (6 - F.length) ≤ _; omega)
    rw [show (⟨#[48]⟩ : ByteArray).data.toList = [48] from rfl, rep_one', ← hR] at k
    rw [show (6 - (F.length : Int)) = ((6 - F.length : Nat) : Int) by omega]
    exact k
  have c1 := add_lists V F (by omega)
  have c2 := add_lists (V ++ F) R (by simp; omega)
  have k6 := fun w' => Tryd.strings_TrimLeft_one ⟨(V ++ F ++ R).toArray⟩ 48 (by decide) w'
  simp only [show (⟨(V ++ F ++ R).toArray⟩ : ByteArray).data.toList = V ++ F ++ R from rfl] at k6
  have da : (V ++ F ++ R).all Dc.isD = true := by
    rw [List.all_append, List.all_append, dv, df, hR]
    simp; exact .inr (by decide)
  have wt := worth_trim (V ++ F ++ R)
  have ta := trim_all da
  have tl := trim_len (V ++ F ++ R)
  have tl' : (V ++ F ++ R).length ≤ 140737488351238 := by simp; omega
  have hw : worthOf V F = Dc.worth (V ++ F ++ R) := by unfold worthOf; rw [hR]
  rw [hw, ← wt]
  obtain ⟨X, hX⟩ : ∃ X, X = Lib.trimLeftB (V ++ F ++ R) 48 := ⟨_, rfl⟩
  have hd := fun (c : UInt8) (r : List UInt8) (e : X = c :: r) => trim_head (hX ▸ e)
  rw [← hX] at ta tl wt ⊢
  simp only [← hX] at k6
  rcases X with _ | ⟨c, r⟩
  · have z : sumRes (sg neg ((Dc.worth [] : Nat) : Int)) = .returned (.tuple #[.agg #[.int .i64 0, .int .u64 0], .int .i64 0]) := by
      have e : sg neg ((Dc.worth [] : Nat) : Int) = 0 := by cases neg <;> rfl
      rw [e]; rfl
    rw [z]
    cases P
    · exact read_zero_false s A V F R (V ++ F) (V ++ F ++ R) neg k1 k2 k3 hF k5 c1 c2 k6 w
    · exact read_zero_true s A V F R (V ++ F) (V ++ F ++ R) neg k1 k2 k3 (k4 rfl) hF k5 c1 c2 k6 w
  · obtain ⟨p1, p2⟩ := par_digits (X := c :: r) rfl (hd c r rfl) ta
    have sz : (⟨(c :: r).toArray⟩ : ByteArray).size = (c :: r).length := by simp [ByteArray.size]
    have sz2 : (⟨(45 :: c :: r).toArray⟩ : ByteArray).size = (c :: r).length + 1 := by simp [ByteArray.size]
    cases neg
    · have k7 := fun w => parse_spec ⟨(c :: r).toArray⟩ w (by rw [sz]; omega)
      rw [p1] at k7
      cases P
      · exact read_pos_false s A V F R (V ++ F) (V ++ F ++ R) (c :: r) _ _ _ k1 k2 k3 hF k5 c1 c2 k6 (by simp) rfl k7 w
      · exact read_pos_true s A V F R (V ++ F) (V ++ F ++ R) (c :: r) _ _ _ k1 k2 k3 (k4 rfl) hF k5 c1 c2 k6 (by simp) rfl k7 w
    · have k7 := fun w => parse_spec ⟨(45 :: c :: r).toArray⟩ w (by rw [sz2]; omega)
      rw [p2] at k7
      have c3 := add_lists [45] (c :: r) (by rw [show [(45:UInt8)].length = 1 from rfl]; omega)
      cases P
      · exact read_neg_false s A V F R (V ++ F) (V ++ F ++ R) (c :: r) _ _ _ k1 k2 k3 hF k5 c1 c2 k6 (by simp) rfl c3 k7 w
      · exact read_neg_true s A V F R (V ++ F) (V ++ F ++ R) (c :: r) _ _ _ k1 k2 k3 (k4 rfl) hF k5 c1 c2 k6 (by simp) rfl c3 k7 w
theorem amt_len (l : List UInt8) : (amt l).length ≤ l.length := by unfold amt Lib.trimPrefix; split <;> simp
theorem cut_len (l : List UInt8) : (cutW l).length + (cutF l).length ≤ l.length := by
  unfold cutW cutF; split
  · simp
  · simp; omega
theorem cutF_none {l : List UInt8} (h : cutP l = false) : cutF l = [] := by
  unfold cutP at h; unfold cutF
  rw [if_pos (by simpa using h)]
theorem mread_spec (s : ByteArray) (w : World) (hs : s.size ≤ 140737488351232) :
    Calls Tryd.prog 18 #[.string s] w fun e w' => e = readE s.data.toList ∧ Below w.heap.size w w' := by
  have k1 := fun w' => Tryd.strings_CutPrefix s ⟨#[45]⟩ w'
  simp only [show (⟨#[45]⟩ : ByteArray).data.toList = [45] from rfl] at k1
  have al := amt_len s.data.toList
  have sl : s.data.toList.length = s.size := by simp
  obtain ⟨A, hA⟩ : ∃ A, A = amt s.data.toList := ⟨_, rfl⟩
  have k1' : ∀ w, Calls Tryd.prog 33 #[.string s, .string ⟨#[45]⟩] w fun e w' => e = .returned (.tuple #[.string ⟨A.toArray⟩, .bool (sgnB s.data.toList)]) ∧ w' = w := by
    intro w; rw [hA]; exact k1 w
  have za : (⟨A.toArray⟩ : ByteArray).size = A.length := by simp [ByteArray.size]
  rw [← hA] at al
  have cl := cut_len A
  have k2 := fun w => cut_spec ⟨A.toArray⟩ w (by rw [za]; omega)
  simp only [show (⟨A.toArray⟩ : ByteArray).data.toList = A from rfl] at k2
  have zv : (⟨(cutW A).toArray⟩ : ByteArray).size = (cutW A).length := by simp [ByteArray.size]
  have zf : (⟨(cutF A).toArray⟩ : ByteArray).size = (cutF A).length := by simp [ByteArray.size]
  have k3 := fun w => mdig_spec ⟨(cutW A).toArray⟩ w (by rw [zv]; omega)
  have k4 := fun w => mdig_spec ⟨(cutF A).toArray⟩ w (by rw [zf]; omega)
  simp only [show (⟨(cutW A).toArray⟩ : ByteArray).data.toList = cutW A from rfl] at k3
  simp only [show (⟨(cutF A).toArray⟩ : ByteArray).data.toList = cutF A from rfl] at k4
  unfold readE
  rw [← hA]
  unfold readQ
  cases d3 : digB (cutW A)
  · rw [d3] at k3
    rw [if_neg (by simp)]
    exact read_bad1 s A _ _ _ _ k1' k2 k3 w
  · rw [d3] at k3
    cases hP : cutP A
    · rw [if_pos (by simp)]
      have hn := cutF_none hP
      rw [hP] at k2
      exact mread_rest s A _ _ _ false (by omega) k1' k2 k3 (fun h => by cases h) (digB_all d3) (by rw [hn]; rfl) w
    · rw [hP] at k2
      cases d4 : digB (cutF A)
      · rw [d4] at k4
        rw [if_neg (by simp)]
        exact read_bad2 s A _ _ _ k1' k2 k3 k4 w
      · rw [d4] at k4
        rw [if_pos (by simp)]
        exact mread_rest s A _ _ _ true (by omega) k1' k2 k3 (fun _ => k4) (digB_all d3) (digB_all d4) w
end Go.Proofs.YtdjehbagnkfkpaaDoor
