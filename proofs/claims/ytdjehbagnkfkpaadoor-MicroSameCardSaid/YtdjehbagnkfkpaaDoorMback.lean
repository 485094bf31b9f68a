/- micro: what Show writes, Read reads. -/
import Derived.Test.YtdjehbagnkfkpaaDoorMreadb
import Derived.Test.YtdjehbagnkfkpaaDoorMshow
namespace Go.Proofs.YtdjehbagnkfkpaaDoor
set_option linter.unusedVariables false
set_option linter.unusedSimpArgs false
open Go.RowKit W
theorem idx_none {l : List UInt8} (h : ∀ c ∈ l, c ≠ 46) : Lib.indexByte l 46 = -1 := by
  induction l with
  | nil => rfl
  | cons c l ih =>
    have n : (c == 46) = false := by simpa using h c (by simp)
    unfold Lib.indexByte
    rw [n, ih (fun x hx => h x (by simp [hx]))]; rfl
theorem idx_some {V : List UInt8} (F : List UInt8) (h : ∀ c ∈ V, c ≠ 46) : Lib.indexByte (V ++ 46 :: F) 46 = (V.length : Int) := by
  induction V with
  | nil => rfl
  | cons c l ih =>
    have n : (c == 46) = false := by simpa using h c (by simp)
    have e := ih (fun x hx => h x (by simp [hx]))
    rw [List.cons_append]
    unfold Lib.indexByte
    rw [n, e]
    have : (((l.length : Int)) == -1) = false := by first | (simp; done) | (simp; omega)
    rw [this]; simp
theorem cut_none {l : List UInt8} (h : ∀ c ∈ l, c ≠ 46) : cutW l = l ∧ cutF l = [] ∧ cutP l = false := by
  unfold cutW cutF cutP
  rw [idx_none h]
  exact ⟨rfl, rfl, rfl⟩
theorem cut_some {V : List UInt8} (F : List UInt8) (h : ∀ c ∈ V, c ≠ 46) : cutW (V ++ 46 :: F) = V ∧ cutF (V ++ 46 :: F) = F ∧ cutP (V ++ 46 :: F) = true := by
  unfold cutW cutF cutP
  rw [idx_some F h]
  have n : ¬ (V.length : Int) = -1 := by omega
  rw [if_neg n, if_neg n, decide_eq_false n]
  refine ⟨by simp, ?_, rfl⟩
  rw [Int.toNat_natCast, show V.length + 1 = (V ++ [46]).length by simp, show V ++ 46 :: F = (V ++ [46]) ++ F by simp, List.drop_left]
theorem isD_ne {c : UInt8} (h : Dc.isD c = true) : c ≠ 46 ∧ c ≠ 45 := by
  refine ⟨?_, ?_⟩
  all_goals (rintro rfl; revert h; decide)
theorem take_rep (l : List UInt8) (c : UInt8) : l.takeWhile (· == c) = List.replicate (l.takeWhile (· == c)).length c := by
  rw [List.eq_replicate_iff]
  exact ⟨rfl, fun b hb => by have := List.all_eq_true.1 (List.all_takeWhile (p := (· == c)) (l := l)) b hb; simpa using this⟩
theorem trimR_split (l : List UInt8) (c : UInt8) : Lib.trimRightB l c ++ List.replicate (l.length - (Lib.trimRightB l c).length) c = l := by
  unfold Lib.trimRightB
  have h := List.takeWhile_append_dropWhile (p := (· == c)) (l := l.reverse)
  have hl := congrArg List.length h
  rw [List.length_append, List.length_reverse] at hl
  have e := congrArg List.reverse h
  rw [List.reverse_append, List.reverse_reverse, take_rep, List.reverse_replicate] at e
  rw [List.length_reverse]
  rw [show l.length - (List.dropWhile (fun x => x == c) l.reverse).length = (List.takeWhile (fun x => x == c) l.reverse).length by omega]
  exact e
theorem pad_all (n : Nat) : ∀ c ∈ pad7 (Dc.dec n), Dc.isD c = true := by
  intro c hc
  unfold pad7 at hc
  rcases List.mem_append.1 hc with h | h
  · rw [List.eq_of_mem_replicate h]; decide
  · exact dec_digits n c h
theorem whole_all (n : Nat) : ∀ c ∈ whole n, Dc.isD c = true := fun c hc => pad_all n c (List.mem_of_mem_take hc)
theorem behind_sub (n : Nat) : ∀ c ∈ behind n, c ∈ pad7 (Dc.dec n) := by
  intro c hc
  unfold behind at hc
  have := trimR_split ((pad7 (Dc.dec n)).drop ((pad7 (Dc.dec n)).length - 6)) 48
  have m : c ∈ (pad7 (Dc.dec n)).drop ((pad7 (Dc.dec n)).length - 6) := by rw [← this]; exact List.mem_append_left _ hc
  exact List.mem_of_mem_drop m
theorem whole_len (n : Nat) : (whole n).length = (pad7 (Dc.dec n)).length - 6 ∧ 1 ≤ (whole n).length := by
  have := pad7_len (Dc.dec n)
  unfold whole
  rw [List.length_take]; omega
theorem behind_len (n : Nat) : (behind n).length ≤ 6 := by
  have := trimR_len ((pad7 (Dc.dec n)).drop ((pad7 (Dc.dec n)).length - 6)) 48
  unfold behind
  simp at this
  have := pad7_len (Dc.dec n)
  omega
theorem worth_rep (k : Nat) (l : List UInt8) : Dc.worth (List.replicate k 48 ++ l) = Dc.worth l := by
  induction k with
  | zero => rfl
  | succ k ih => rw [List.replicate_succ, List.cons_append, worth_lead, ih]
theorem worth_show (n : Nat) : worthOf (whole n) (behind n) = n := by
  have h := trimR_split ((pad7 (Dc.dec n)).drop ((pad7 (Dc.dec n)).length - 6)) 48
  have pl := pad7_len (Dc.dec n)
  rw [show ((pad7 (Dc.dec n)).drop ((pad7 (Dc.dec n)).length - 6)).length = 6 by simp; omega] at h
  unfold worthOf
  rw [List.append_assoc]
  show Dc.worth (whole n ++ (behind n ++ List.replicate (6 - (behind n).length) 48)) = n
  unfold behind
  rw [h]
  unfold whole
  rw [List.take_append_drop]
  unfold pad7
  rw [worth_rep, dec_worth]
theorem digB_of {l : List UInt8} (h : ∀ c ∈ l, Dc.isD c = true) (n : l ≠ []) : digB l = true := by
  unfold digB
  rw [List.all_eq_true.2 h]
  simpa using n
theorem whole_ne (n : Nat) : whole n ≠ [] := fun e => by have := (whole_len n).2; rw [e] at this; simp at this
theorem showA_cut (n : Nat) : cutW (showA n) = whole n ∧ cutF (showA n) = behind n ∧ (digB (cutW (showA n)) && (!cutP (showA n) || digB (cutF (showA n)))) = true := by
  have wd := whole_all n
  have nd : ∀ c ∈ whole n, c ≠ 46 := fun c hc => (isD_ne (wd c hc)).1
  unfold showA
  by_cases h : behind n = []
  · rw [if_pos h]
    obtain ⟨a, b, c⟩ := cut_none nd
    rw [a, b, c, h, digB_of wd (whole_ne n)]
    exact ⟨rfl, rfl, rfl⟩
  · rw [if_neg h]
    obtain ⟨a, b, c⟩ := cut_some (behind n) nd
    rw [a, b, c, digB_of wd (whole_ne n), digB_of (fun c hc => pad_all n c (behind_sub n c hc)) h]
    exact ⟨rfl, rfl, rfl⟩
theorem showA_head (n : Nat) : ∃ c r, showA n = c :: r ∧ c ≠ 45 := by
  have wd := whole_all n
  obtain ⟨c, r, e⟩ : ∃ c r, whole n = c :: r := by
    rcases h : whole n with _ | ⟨c, r⟩
    · exact absurd h (whole_ne n)
    · exact ⟨c, r, rfl⟩
  have hc := (isD_ne (wd c (by rw [e]; simp))).2
  unfold showA
  split
  · exact ⟨c, r, e, hc⟩
  · exact ⟨c, r ++ 46 :: behind n, by rw [e]; rfl, hc⟩
theorem show_sign (v : Int) : sgnB (showT v) = decide (v < 0) ∧ amt (showT v) = showA v.natAbs := by
  obtain ⟨c, r, e, n1⟩ := showA_head v.natAbs
  unfold sgnB amt
  by_cases h : v < 0
  · have t : showT v = 45 :: showA v.natAbs := by unfold showT; rw [if_pos h]
    rw [t]
    have p : Lib.hasPrefix (45 :: showA v.natAbs) [45] = true := by simp [Lib.hasPrefix]
    exact ⟨by rw [p, decide_eq_true h], by unfold Lib.trimPrefix; rw [p]; rfl⟩
  · have t : showT v = showA v.natAbs := by unfold showT; rw [if_neg h]
    rw [t]
    have p : Lib.hasPrefix (showA v.natAbs) [45] = false := by rw [e]; show ([45].isPrefixOf (c :: r)) = false; simp [List.isPrefixOf]; exact fun h => n1 h.symm
    exact ⟨by rw [p, decide_eq_false h], by unfold Lib.trimPrefix; rw [p]; rfl⟩
theorem sg_abs (v : Int) : sg (decide (v < 0)) ((v.natAbs : Nat) : Int) = v := by
  by_cases h : v < 0
  · rw [decide_eq_true h, sg_t]; omega
  · rw [decide_eq_false h, sg_f]; omega
theorem read_show (v : Int) : readE (showT v) = sumRes v := by
  obtain ⟨a, b⟩ := show_sign v
  obtain ⟨c, d, e⟩ := showA_cut v.natAbs
  unfold readE
  rw [a, b]
  unfold readQ
  rw [if_pos e, c, d, if_neg (by have := behind_len v.natAbs; omega), worth_show, sg_abs]
theorem showT_len {v : Int} (f : Fits v) : (showT v).length ≤ 100 ∧ 1 ≤ (showT v).length := by
  have nb : v.natAbs < 10 ^ 39 := by obtain ⟨_, _⟩ := f; omega
  have dl := dec_len nb
  have pl := pad7_len (Dc.dec v.natAbs)
  have wl := whole_len v.natAbs
  have bl := behind_len v.natAbs
  have al : (showA v.natAbs).length ≤ 50 ∧ 1 ≤ (showA v.natAbs).length := by
    unfold showA; split
    · omega
    · rw [List.length_append, List.length_cons]; omega
  unfold showT; split
  · rw [List.length_cons]; omega
  · omega
end Go.Proofs.YtdjehbagnkfkpaaDoor
