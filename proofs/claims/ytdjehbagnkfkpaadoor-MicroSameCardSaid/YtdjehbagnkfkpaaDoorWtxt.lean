/- wide: a number's text, read again. -/
import Derived.Test.YtdjehbagnkfkpaaDoorWparse
import Derived.Test.YtdjehbagnkfkpaaDoorWprint
namespace Go.Proofs.YtdjehbagnkfkpaaDoor
set_option linter.unusedVariables false
set_option linter.unusedSimpArgs false
open Go.RowKit W
theorem dec_worth (n : Nat) : Dc.worth (Dc.dec n) = n := by
  by_cases h : n = 0
  · subst h; rfl
  · rw [Dc.dec_pos h, Dc.worth_pre]
theorem dec_digits (n : Nat) : ∀ c ∈ Dc.dec n, Dc.isD c = true := by
  by_cases h : n = 0
  · subst h
    intro c hc
    have : c = 48 := by simpa [Dc.dec] using hc
    subst this; rfl
  · rw [Dc.dec_pos h]; exact Dc.pre_digits n
theorem dec_head (n : Nat) : ∃ c r, Dc.dec n = c :: r ∧ c ≠ 45 ∧ (c = 48 → n = 0) := by
  by_cases h : n = 0
  · subst h; exact ⟨48, [], rfl, by decide, fun _ => rfl⟩
  · obtain ⟨d, r, e, a, b⟩ := Dc.pre_head h
    refine ⟨Dc.ch d, r, by rw [Dc.dec_pos h, e], fun q => ?_, fun q => ?_⟩
    · have := Dc.ch_toNat b; rw [q] at this; have e45 : (45 : UInt8).toNat = 45 := rfl; omega
    · have := Dc.ch_toNat b; rw [q] at this; have e48 : (48 : UInt8).toNat = 48 := rfl; omega
theorem mk_toList (l : List UInt8) : (⟨l.toArray⟩ : ByteArray).toList = l := by rw [ByteArray.toList_eq]
theorem plain_dec (n : Nat) : plainB ⟨(Dc.dec n).toArray⟩ = true := by
  obtain ⟨c, r, e, n1, n2⟩ := dec_head n
  have dd : allD ⟨(Dc.dec n).toArray⟩ = true := by
    unfold allD
    rw [mk_toList, List.all_eq_true]
    exact dec_digits n
  unfold plainB
  rw [dd, mk_toList]
  by_cases h : c = 48
  · have := n2 h; subst this; rfl
  · rw [e]
    have : (some c == some (48 : UInt8)) = false := by simpa using h
    simp [this, h]
theorem wk_all (l : List UInt8) : wk ⟨l.toArray⟩ (⟨l.toArray⟩ : ByteArray).size = Dc.worth l := by
  unfold wk
  have e : (⟨l.toArray⟩ : ByteArray).size = l.length := by show l.toArray.size = _; simp
  rw [e]
  show Dc.worth (l.take l.length) = _
  rw [List.take_length]
theorem neg_txt (v : Int) : isNeg ⟨(txt v).toArray⟩ = decide (v < 0) := by
  unfold isNeg txt
  rw [mk_toList]
  by_cases h : v < 0
  · rw [if_pos h, decide_eq_true h]; rfl
  · rw [if_neg h, decide_eq_false h]
    obtain ⟨c, r, e, n1, _⟩ := dec_head v.natAbs
    rw [e]
    show (some c == some (45 : UInt8)) = false
    simpa using n1
theorem dig_txt (v : Int) : digOf ⟨(txt v).toArray⟩ = ⟨(Dc.dec v.natAbs).toArray⟩ := by
  unfold digOf
  rw [neg_txt]
  by_cases h : v < 0
  · rw [decide_eq_true h, if_pos rfl]
    unfold txt
    rw [if_pos h]
    apply ByteArray.ext
    apply Array.toList_inj.1
    simp [ByteArray.data_extract, ByteArray.size]
  · rw [decide_eq_false h]
    unfold txt
    rw [if_neg h]; rfl
theorem par_txt (v : Int) : parRes (isNeg ⟨(txt v).toArray⟩) (digOf ⟨(txt v).toArray⟩) = sumRes v := by
  rw [neg_txt, dig_txt]
  have one : (decide (v < 0) && (⟨(Dc.dec v.natAbs).toArray⟩ : ByteArray).toList == [48]) = false := by
    rw [mk_toList]
    by_cases h : v < 0
    · rw [decide_eq_true h, Bool.true_and]
      have : v.natAbs ≠ 0 := by omega
      obtain ⟨c, r, e, _, n2⟩ := dec_head v.natAbs
      rw [e]
      have : c ≠ 48 := fun q => this (n2 q)
      simp [this]
    · rw [decide_eq_false h]; rfl
  rw [parRes_yes (by rw [plain_dec, one]; rfl), wk_all, dec_worth]
  have e : sg (decide (v < 0)) (v.natAbs : Nat) = v := by
    by_cases h : v < 0
    · rw [decide_eq_true h, sg_t]; omega
    · rw [decide_eq_false h, sg_f]; omega
  rw [e]
theorem txt_inj {v v' : Int} (h : txt v = txt v') : v = v' := by
  have n := neg_txt v
  have d := congrArg ByteArray.toList (dig_txt v)
  rw [h, neg_txt] at n
  rw [h, dig_txt, mk_toList, mk_toList] at d
  have w := congrArg Dc.worth d
  rw [dec_worth, dec_worth] at w
  by_cases g : v < 0
  · have : v' < 0 := by rw [decide_eq_true g] at n; exact of_decide_eq_true n
    omega
  · have : ¬ v' < 0 := by rw [decide_eq_false g] at n; exact of_decide_eq_false n
    omega
theorem txt_short {v : Int} (f : Fits v) : (txt v).length ≤ 41 := by
  obtain ⟨_, _⟩ := f
  have n : v.natAbs < 10 ^ 39 := by omega
  have d : (Dc.dec v.natAbs).length ≤ 40 := by
    by_cases h : v.natAbs = 0
    · rw [h]; decide
    · rw [Dc.dec_pos h]; have := Dc.pre_length_le 39 _ n; omega
  unfold txt
  split
  · rw [List.length_cons]; omega
  · omega
end Go.Proofs.YtdjehbagnkfkpaaDoor
