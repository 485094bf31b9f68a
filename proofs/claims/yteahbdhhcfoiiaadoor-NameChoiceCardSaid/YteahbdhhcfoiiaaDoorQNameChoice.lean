/- Texts that belong together: Nbk Nbl Nbm Nbn Nbo Nbp Lawnj Nsf Ncp Neg Lawnb Lawnch. -/
import Derived.Test.YteahbdhhcfoiiaaDoorG02
import Derived.Test.YteahbdhhcfoiiaaDoorG06
import Derived.Test.YteahbdhhcfoiiaaDoorG05
import Derived.Test.YteahbdhhcfoiiaaDoorG01
import Derived.BigRegion
import Derived.Deep.CutRange
set_option linter.unusedSimpArgs false
set_option linter.unusedVariables false
/- name: a pattern's text is read as the pattern, plain. -/
namespace Go.Proofs.YteahbdhhcfoiiaaDoor
set_option linter.unusedVariables false
set_option linter.unusedSimpArgs false
theorem lst_cut (t : ByteArray) (i p : Nat) : lst (t.extract i p) = ((lst t).drop i).take (p - i) := by
  unfold lst
  rw [ByteArray.data_extract, Array.toList_extract, List.extract_eq_take_drop]
/-- From a place on, this stands in a text. -/
structure At (s : ByteArray) (i : Nat) (x : List UInt8) : Prop where
  h : (lst s).drop i = x
  le : i ≤ s.size
theorem At.len {s : ByteArray} {i : Nat} {x : List UInt8} (a : At s i x) : i + x.length = s.size := by
  have h1 := congrArg List.length a.h
  have h2 := a.le
  rw [List.length_drop, lst_len] at h1; omega
theorem At.nx {s : ByteArray} {i : Nat} {c : UInt8} {r : List UInt8} (a : At s i (c :: r)) : nx s i = c := by
  have h1 := a.len
  have hi : i < s.size := by simp at h1; omega
  have h2 := a.h
  rw [List.drop_eq_getElem_cons (by rw [lst_len]; exact hi)] at h2
  rw [nx_lt hi]
  have := (List.cons.inj h2).1
  rw [← this]; simp [lst]; rfl
theorem At.next {s : ByteArray} {i : Nat} {c : UInt8} {r : List UInt8} (a : At s i (c :: r)) : At s (i + 1) r := by
  have h1 := a.len
  refine ⟨?_, by simp at h1; omega⟩
  have h2 := congrArg (List.drop 1) a.h
  rw [List.drop_drop] at h2
  simpa [Nat.add_comm] using h2
theorem At.app {s : ByteArray} {i : Nat} {x r : List UInt8} (a : At s i (x ++ r)) : At s (i + x.length) r := by
  have h1 := a.len
  refine ⟨?_, by simp at h1; omega⟩
  have h2 := congrArg (List.drop x.length) a.h
  rw [List.drop_drop, List.drop_left] at h2
  exact h2
theorem At.ext {s : ByteArray} {i : Nat} {x r : List UInt8} (a : At s i (x ++ r)) : s.extract i (i + x.length) = ⟨x.toArray⟩ := by
  have h := a.h
  have e : lst (s.extract i (i + x.length)) = lst (⟨x.toArray⟩ : ByteArray) := by rw [lst_mk x, lst_cut, h, Nat.add_sub_cancel_left, List.take_left]
  exact lst_inj e
theorem At.end_ {s : ByteArray} {i : Nat} (a : At s i []) : i = s.size := by have := a.len; simpa using this
theorem at_start (s : ByteArray) : At s 0 (lst s) := ⟨by simp, Nat.zero_le _⟩
/-- Is it, at its head, no name byte? -/
def stops (r : List UInt8) : Prop := ∀ c l, r = c :: l → nB c = false
theorem textE_at {s : ByteArray} {r : List UInt8} (hr : stops r) : ∀ (x : List UInt8) (f i : Nat), At s i (x ++ r) → (∀ c ∈ x, nB c = true) → s.size < f + i → textE s f i = i + x.length
  | [], f, i, a, _, hf => by
    rw [List.nil_append] at a
    cases r with
    | nil =>
      have := a.end_
      cases f with
      | zero => rfl
      | succ f => rw [textE, nx_ge (by omega), nB0]; rfl
    | cons c l => rw [textE_stop (by rw [a.nx]; exact hr c l rfl)]; rfl
  | c :: x, f, i, a, hx, hf => by
    have a' : At s i (c :: (x ++ r)) := a
    have hc := hx c List.mem_cons_self
    have ih := textE_at hr x f (i + 1) a'.next (fun d hd => hx d (List.mem_cons_of_mem _ hd)) (by omega)
    rw [textE_step hf (by rw [a'.nx]; exact hc)] at ih
    rw [ih, List.length_cons]; omega
theorem bytes_all {a : ByteArray} (h : bytesB a = true) : ∀ c ∈ lst a, nB c = true := List.all_eq_true.1 h
theorem stops_cons {c : UInt8} (h : nB c = false) (r : List UInt8) : stops (c :: r) := fun d l e => by cases e; exact h
/-- A choice. -/
theorem choice_at {s : ByteArray} {r : List UInt8} : ∀ (al : List ByteArray) (f i : Nat) (acc : List ByteArray), al ≠ [] → At s i (altsT al ++ 125 :: r) → (∀ a ∈ al, bytesB a = true) → acc.length + al.length ≤ 16 → s.size < f + i → choiceA s f i acc = (i + (altsT al).length + 1, .ok (acc ++ al))
  | [], _, _, _, h, _, _, _, _ => absurd rfl h
  | [a], f, i, acc, _, at', hb, hl, hf => by
    have A : At s i (lst a ++ 125 :: r) := at'
    have e := textE_at (stops_cons (by decide) r) (lst a) (s.size + 1) i A (bytes_all (hb a List.mem_cons_self)) (by omega)
    have n := A.app.nx
    have hi := A.le
    have x := A.ext
    rw [choice_end hf hi (by rw [e]; exact n), e, x, mk_lst']
    rfl
  | a :: b :: l, f, i, acc, _, at', hb, hl, hf => by
    have A : At s i (lst a ++ 44 :: (altsT (b :: l) ++ 125 :: r)) := by
      have : altsT (a :: b :: l) ++ 125 :: r = lst a ++ 44 :: (altsT (b :: l) ++ 125 :: r) := by simp [altsT]
      rw [← this]; exact at'
    have e := textE_at (stops_cons (by decide) _) (lst a) (s.size + 1) i A (bytes_all (hb a List.mem_cons_self)) (by omega)
    have n := A.app.nx
    have hi := A.le
    have x := A.ext
    simp only [List.length_cons] at hl
    obtain ⟨_, g, hg, h⟩ := choice_step (acc := acc) hf hi (by rw [e]; exact n) (by omega)
    rw [h, e, x, mk_lst']
    have ih := choice_at (b :: l) g (i + (lst a).length + 1) (acc ++ [a]) (by simp) A.app.next (fun q hq => hb q (List.mem_cons_of_mem _ hq)) (by simp only [List.length_append, List.length_cons, List.length_nil]; omega) (by rw [e] at hg; exact hg)
    rw [ih]
    simp only [altsT, List.length_append, List.length_cons, List.append_assoc, List.singleton_append]
    congr 1
    omega
where mk_lst' {t : ByteArray} : (⟨(lst t).toArray⟩ : ByteArray) = t := lst_inj (lst_mk _)
end Go.Proofs.YteahbdhhcfoiiaaDoor
/- name: a class's text is read as the class, plain. -/
namespace Go.Proofs.YteahbdhhcfoiiaaDoor
set_option linter.unusedVariables false
set_option linter.unusedSimpArgs false
/-- An item's text. -/
def itT (r : UInt8 × UInt8) : List UInt8 := if r.1 = r.2 then [r.1] else [r.1, 45, r.2]
structure ItOk (r : UInt8 × UInt8) : Prop where
  c : cB r.1 = true
  r : r.1 = r.2 ∨ (fB r.1 ≠ 0 ∧ fB r.2 = fB r.1 ∧ r.1 ≤ r.2)
theorem cB_ne {c : UInt8} (h : cB c = true) : c ≠ 45 ∧ c ≠ 93 := by
  constructor
  · intro e; rw [e] at h; revert h; decide
  · intro e; rw [e] at h; revert h; decide
theorem item_at {s : ByteArray} {i : Nat} {r : UInt8 × UInt8} {d : UInt8} {x : List UInt8} (hr : ItOk r) (a : At s i (itT r ++ d :: x)) (hd : d ≠ 45) : itemA s i = (i + (itT r).length, some r) := by
  obtain ⟨u, v⟩ := r
  obtain ⟨hc, hv⟩ := hr
  simp only at hc hv
  unfold itT at a ⊢
  by_cases e : u = v
  · subst e
    rw [if_pos rfl] at a ⊢
    have A : At s i (u :: d :: x) := a
    unfold itemA
    simp only
    rw [A.nx, hc, if_pos rfl, A.next.nx, if_neg hd]
    rfl
  · rw [if_neg e] at a ⊢
    have A : At s i (u :: 45 :: v :: d :: x) := a
    obtain ⟨h1, h2, h3⟩ := hv.resolve_left e
    unfold itemA
    simp only
    rw [A.nx, hc, if_pos rfl, A.next.nx, if_pos rfl, if_neg h1, A.next.next.nx, if_pos ⟨h2, h3⟩]
    rfl
theorem itT_head (r : UInt8 × UInt8) : ∃ t, itT r = r.1 :: t := by unfold itT; split <;> exact ⟨_, rfl⟩
theorem class_text {s : ByteArray} {r : List UInt8} : ∀ (rs : List (UInt8 × UInt8)) (f i : Nat) (acc : List (UInt8 × UInt8)), rs ≠ [] → (∀ q ∈ rs, ItOk q) → At s i (rs.flatMap itT ++ 93 :: r) → s.size < f + i → classA s f i acc = (i + (rs.flatMap itT).length + 1, some (acc ++ rs))
  | [], _, _, _, h, _, _, _ => absurd rfl h
  | [q], f, i, acc, _, hq, a, hf => by
    have A : At s i (itT q ++ 93 :: r) := by simpa using a
    have e := item_at (hq q List.mem_cons_self) A (by decide)
    rw [class_end hf A.le e A.app.nx]
    simp
  | q :: p :: l, f, i, acc, _, hq, a, hf => by
    have A : At s i (itT q ++ ((p :: l).flatMap itT ++ 93 :: r)) := by simpa [List.flatMap_cons] using a
    obtain ⟨t, ht⟩ := itT_head p
    have hp := hq p (by simp)
    have A2 : At s i (itT q ++ p.1 :: (t ++ (l.flatMap itT ++ 93 :: r))) := by
      have : (p :: l).flatMap itT ++ 93 :: r = p.1 :: (t ++ (l.flatMap itT ++ 93 :: r)) := by simp [List.flatMap_cons, ht]
      rw [← this]; exact A
    have e := item_at (hq q List.mem_cons_self) A2 (cB_ne hp.c).1
    obtain ⟨g, hg, h⟩ := class_step (acc := acc) hf A.le e (by rw [A2.app.nx]; exact (cB_ne hp.c).2)
    rw [h, class_text (p :: l) g _ (acc ++ [q]) (by simp) (fun z hz => hq z (List.mem_cons_of_mem _ hz)) A.app hg]
    rw [List.append_assoc, List.singleton_append]
    congr 1
    rw [show List.flatMap itT (q :: p :: l) = itT q ++ List.flatMap itT (p :: l) from List.flatMap_cons .., List.length_append]; omega
/-- A class's items. -/
def pieceR (l : List UInt8) : List (UInt8 × UInt8) := if runL l < 3 then (l.take (runL l)).map fun c => (c, c) else [(l.getD 0 0, l.getD (runL l - 1) 0)]
def rngR : Nat → List UInt8 → List (UInt8 × UInt8)
  | 0, _ => []
  | f + 1, l => if l = [] then [] else pieceR l ++ rngR f (l.drop (runL l))
theorem upto_run : ∀ l : List UInt8, uptoL l (runL l)
  | [] => fun j h => by simp [runL] at h
  | [c] => fun j h => by simp [runL] at h
  | c :: d :: r => fun j h => by
    unfold runL at h
    simp only at h
    split at h
    · rename_i e
      cases j with
      | zero => simpa using e
      | succ j => simpa using upto_run (d :: r) j (by omega)
    · omega
theorem upto_at {l : List UInt8} {n : Nat} (h : uptoL l n) : ∀ j, j < n → (l.getD j 0).toNat = (l.getD 0 0).toNat + j
  | 0, _ => rfl
  | j + 1, hj => by rw [h j hj, upto_at h j (by omega)]; omega
theorem piece_text {l : List UInt8} (h : l ≠ []) : (pieceR l).flatMap itT = pieceL l := by
  unfold pieceR pieceL
  split
  · have aux : ∀ m : List UInt8, (m.map fun c => (c, c)).flatMap itT = m := by
      intro m
      induction m with
      | nil => rfl
      | cons c m ih => simp only [List.map_cons, List.flatMap_cons, ih, itT, if_true]; rfl
    exact aux _
  · rename_i n
    have e := upto_at (upto_run l) (runL l - 1) (by omega)
    have : l.getD 0 0 ≠ l.getD (runL l - 1) 0 := by intro q; rw [← q] at e; omega
    simp only [List.flatMap_cons, List.flatMap_nil, List.append_nil, itT, if_neg this]
theorem rngR_text : ∀ (f : Nat) (l : List UInt8), (rngR f l).flatMap itT = rngF f l
  | 0, l => rfl
  | f + 1, l => by
    unfold rngR rngF
    split
    · rfl
    · rename_i h
      rw [List.flatMap_append, piece_text h, rngR_text f]
theorem fam_run : ∀ c d : UInt8, cB c = true → cB d = true → d.toNat = c.toNat + 1 → fB c ≠ 0 ∧ fB d = fB c := by
  intro c d
  unfold cB fB clsI famI
  simp only [Bool.or_eq_true, decide_eq_true_eq]
  intro h1 h2 h3
  (repeat' split) <;> (repeat' split at h1) <;> (repeat' split at h2) <;> omega
theorem run_fam {l : List UInt8} {n : Nat} (h : uptoL l n) (hn : n ≤ l.length) (hc : ∀ c ∈ l, cB c = true) : ∀ j, j < n → 2 ≤ n → fB (l.getD j 0) = fB (l.getD 0 0) ∧ fB (l.getD 0 0) ≠ 0
  | 0, _, h2 => by
    have m : ∀ k, k < n → l.getD k 0 ∈ l := fun k hk => by rw [List.getD_eq_getElem?_getD, List.getElem?_eq_getElem (by omega)]; exact List.getElem_mem _
    exact ⟨rfl, (fam_run _ _ (hc _ (m 0 (by omega))) (hc _ (m 1 (by omega))) (h 0 (by omega))).1⟩
  | j + 1, hj, h2 => by
    have m : ∀ k, k < n → l.getD k 0 ∈ l := fun k hk => by rw [List.getD_eq_getElem?_getD, List.getElem?_eq_getElem (by omega)]; exact List.getElem_mem _
    obtain ⟨i1, i2⟩ := run_fam h hn hc j (by omega) h2
    exact ⟨(fam_run _ _ (hc _ (m j (by omega))) (hc _ (m (j + 1) hj)) (h j hj)).2.trans i1, i2⟩
theorem piece_ok {l : List UInt8} (h : l ≠ []) (hc : ∀ c ∈ l, cB c = true) : ∀ q ∈ pieceR l, ItOk q := by
  unfold pieceR
  have hl := runL_le l
  split
  · intro q hq
    obtain ⟨c, hm, rfl⟩ := List.mem_map.1 hq
    exact ⟨hc c (List.mem_of_mem_take hm), .inl rfl⟩
  · rename_i n
    intro q hq
    rw [List.mem_singleton] at hq
    subst hq
    obtain ⟨f1, f2⟩ := run_fam (upto_run l) hl hc (runL l - 1) (by omega) (by omega)
    have e := upto_at (upto_run l) (runL l - 1) (by omega)
    refine ⟨hc _ (by rw [List.getD_eq_getElem?_getD, List.getElem?_eq_getElem (by omega)]; exact List.getElem_mem _), .inr ⟨f2, f1, UInt8.le_iff_toNat_le.2 (by show (l.getD 0 0).toNat ≤ (l.getD (runL l - 1) 0).toNat; omega)⟩⟩
theorem rngR_ok : ∀ (f : Nat) (l : List UInt8), (∀ c ∈ l, cB c = true) → ∀ q ∈ rngR f l, ItOk q
  | 0, l, _, q, h => by simp [rngR] at h
  | f + 1, l, hc, q, h => by
    unfold rngR at h
    split at h
    · simp at h
    · rename_i e
      rcases List.mem_append.1 h with h | h
      · exact piece_ok e hc q h
      · exact rngR_ok f _ (fun c hm => hc c (List.mem_of_mem_drop hm)) q h
theorem inB_app (a b : List (UInt8 × UInt8)) (n : Nat) : inB (a ++ b) n = (inB a n || inB b n) := by unfold inB; exact List.any_append
theorem piece_in {l : List UInt8} (h : l ≠ []) (n : Nat) : inB (pieceR l) n = true ↔ ∃ c ∈ l.take (runL l), c.toNat = n := by
  unfold pieceR
  have hl := runL_le l
  split
  · unfold inB
    rw [List.any_eq_true]
    constructor
    · rintro ⟨q, hq, e⟩
      obtain ⟨c, hm, rfl⟩ := List.mem_map.1 hq
      simp only [Bool.and_eq_true, decide_eq_true_eq] at e
      exact ⟨c, hm, by omega⟩
    · rintro ⟨c, hm, e⟩
      exact ⟨(c, c), List.mem_map.2 ⟨c, hm, rfl⟩, by simp; omega⟩
  · rename_i k
    unfold inB
    simp only [List.any_cons, List.any_nil, Bool.or_false, Bool.and_eq_true, decide_eq_true_eq]
    have e := upto_at (upto_run l)
    have e1 := e (runL l - 1) (by omega)
    constructor
    · rintro ⟨a, b⟩
      have e2 := e (n - (l.getD 0 0).toNat) (by omega)
      refine ⟨l.getD (n - (l.getD 0 0).toNat) 0, ?_, by omega⟩
      have hj : n - (l.getD 0 0).toNat < l.length := by omega
      rw [List.getD_eq_getElem?_getD, List.getElem?_eq_getElem hj, Option.getD_some]
      rw [List.mem_take_iff_getElem]
      exact ⟨n - (l.getD 0 0).toNat, by omega, rfl⟩
    · rintro ⟨c, hm, rfl⟩
      obtain ⟨j, hj, rfl⟩ := List.mem_take_iff_getElem.1 hm
      have e2 := e j (by omega)
      rw [List.getD_eq_getElem?_getD, List.getElem?_eq_getElem (by omega), Option.getD_some] at e2
      omega
theorem rngR_in : ∀ (f : Nat) (l : List UInt8), l.length ≤ f → ∀ n, inB (rngR f l) n = true ↔ ∃ c ∈ l, c.toNat = n
  | 0, l, h, n => by
    obtain rfl : l = [] := List.eq_nil_of_length_eq_zero (by omega)
    simp [rngR, inB]
  | f + 1, l, h, n => by
    unfold rngR
    split
    · rename_i e; subst e; simp [inB]
    · rename_i e
      have hp := runL_pos e
      have hl : 0 < l.length := List.length_pos_iff.2 e
      rw [inB_app, Bool.or_eq_true, piece_in e, rngR_in f _ (by rw [List.length_drop]; omega)]
      constructor
      · rintro (⟨c, hm, q⟩ | ⟨c, hm, q⟩)
        · exact ⟨c, List.mem_of_mem_take hm, q⟩
        · exact ⟨c, List.mem_of_mem_drop hm, q⟩
      · rintro ⟨c, hm, q⟩
        rw [← List.take_append_drop (runL l) l] at hm
        rcases List.mem_append.1 hm with hm | hm
        · exact .inl ⟨c, hm, q⟩
        · exact .inr ⟨c, hm, q⟩
/-- Rising lists with the same members are one. -/
theorem rise_one : ∀ (a b : List UInt8), a.Pairwise (fun x y => x.toNat < y.toNat) → b.Pairwise (fun x y => x.toNat < y.toNat) → (∀ c, c ∈ a ↔ c ∈ b) → a = b
  | [], [], _, _, _ => rfl
  | [], c :: b, _, _, h => absurd ((h c).2 List.mem_cons_self) (by simp)
  | c :: a, [], _, _, h => absurd ((h c).1 List.mem_cons_self) (by simp)
  | c :: a, d :: b, ha, hb, h => by
    obtain ⟨a1, a2⟩ := List.pairwise_cons.1 ha
    obtain ⟨b1, b2⟩ := List.pairwise_cons.1 hb
    have e : c = d := by
      rcases List.mem_cons.1 ((h c).1 List.mem_cons_self) with e | e
      · exact e
      · rcases List.mem_cons.1 ((h d).2 List.mem_cons_self) with e2 | e2
        · exact e2.symm
        · have := a1 d e2; have := b1 c e; omega
    subst e
    rw [rise_one a b a2 b2 fun x => ?_]
    constructor
    · intro hx
      rcases List.mem_cons.1 ((h x).1 (List.mem_cons_of_mem _ hx)) with e | e
      · subst e; have := a1 x hx; omega
      · exact e
    · intro hx
      rcases List.mem_cons.1 ((h x).2 (List.mem_cons_of_mem _ hx)) with e | e
      · subst e; have := b1 x hx; omega
      · exact e
theorem clsT_mem (rs : List (UInt8 × UInt8)) (c : UInt8) : c ∈ clsT rs ↔ c.toNat < 128 ∧ inB rs c.toNat = true := by
  unfold clsT
  rw [List.mem_map]
  constructor
  · rintro ⟨n, hn, rfl⟩
    obtain ⟨h1, h2⟩ := List.mem_filter.1 hn
    have h1 := List.mem_range.1 h1
    have e : (UInt8.ofNat n).toNat = n := by rw [UInt8.toNat_ofNat']; omega
    rw [e]; exact ⟨h1, h2⟩
  · rintro ⟨h1, h2⟩
    exact ⟨c.toNat, List.mem_filter.2 ⟨List.mem_range.2 h1, h2⟩, by simp⟩
theorem clsT_rise (rs : List (UInt8 × UInt8)) : (clsT rs).Pairwise (fun x y => x.toNat < y.toNat) := by
  unfold clsT
  rw [List.pairwise_map]
  have h : ((List.range 128).filter (inB rs)).Pairwise (· < ·) := List.Pairwise.sublist List.filter_sublist List.pairwise_lt_range
  refine List.Pairwise.imp_of_mem (fun {a b} ha hb q => ?_) h
  have h1 := List.mem_range.1 (List.mem_filter.1 ha).1
  have h2 := List.mem_range.1 (List.mem_filter.1 hb).1
  rw [UInt8.toNat_ofNat', UInt8.toNat_ofNat']; omega
theorem rise_pair {t : ByteArray} (h : riseB t = true) : (lst t).Pairwise (fun x y => x.toNat < y.toNat) := by
  unfold riseB at h
  simp only [Bool.and_eq_true] at h
  have step : ∀ k, k + 1 < t.size → (nx t k).toNat < (nx t (k + 1)).toNat := fun k hk => by
    have h2 := List.all_eq_true.1 h.1 (k + 1) (List.mem_range.2 hk)
    unfold riseA at h2
    simp only [Bool.and_eq_true, Bool.or_eq_true, decide_eq_true_eq] at h2
    rcases h2.2 with e | e
    · omega
    · simpa using e
  have far : ∀ d k, k + d + 1 < t.size → (nx t k).toNat < (nx t (k + d + 1)).toNat := by
    intro d
    induction d with
    | zero => intro k hk; exact step k hk
    | succ d ih => intro k hk; have h1 := ih k (by omega); have h2 := step (k + d + 1) (by omega); rw [show k + (d + 1) + 1 = k + d + 1 + 1 by omega]; omega
  rw [List.pairwise_iff_getElem]
  intro i j hi hj hij
  rw [lst_len] at hi hj
  have e : ∀ k (hk : k < t.size), nx t k = (lst t)[k]'(by rw [lst_len]; exact hk) := fun k hk => by rw [nx_lt hk]; simp [lst]; rfl
  have := far (j - i - 1) i (by omega)
  rw [show i + (j - i - 1) + 1 = j by omega, e i hi, e j hj] at this
  exact this
theorem clsT_back {t : ByteArray} (h : riseB t = true) : clsT (rngR (lst t).length (lst t)) = lst t := by
  refine rise_one _ _ (clsT_rise _) (rise_pair h) fun c => ?_
  rw [clsT_mem, rngR_in _ _ (Nat.le_refl _)]
  constructor
  · rintro ⟨_, d, hd, e⟩
    have : d = c := UInt8.toNat_inj.1 e
    subst this; exact hd
  · intro hc
    exact ⟨cls_small c (rise_cls h c hc), c, hc, rfl⟩
end Go.Proofs.YteahbdhhcfoiiaaDoor
/- name: a pattern's text is read as the pattern: pieces, nodes, all. -/
namespace Go.Proofs.YteahbdhhcfoiiaaDoor
set_option linter.unusedVariables false
set_option linter.unusedSimpArgs false
theorem size_nil {t : ByteArray} (h : t.size = 0) : t = ByteArray.empty := lst_inj (List.eq_nil_of_length_eq_zero (by rw [lst_len]; exact h))
theorem stand_text {g : Gl} (h : standB g = true) (k : g.k = 1) : g.t.size ≠ 0 ∧ bytesB g.t = true ∧ g.al = [] := by
  unfold standB at h
  rw [if_pos k] at h
  simp only [Bool.and_eq_true, decide_eq_true_eq] at h
  exact ⟨h.1.1, h.1.2, List.eq_nil_of_length_eq_zero h.2⟩
theorem stand_plain {g : Gl} (h : standB g = true) (k : g.k = 2 ∨ g.k = 3) : g.t = ByteArray.empty ∧ g.al = [] := by
  unfold standB at h
  rw [if_neg (by omega), if_pos k] at h
  simp only [Bool.and_eq_true, decide_eq_true_eq] at h
  exact ⟨size_nil h.1, List.eq_nil_of_length_eq_zero h.2⟩
theorem stand_cls {g : Gl} (h : standB g = true) (k : g.k = 4) : riseB g.t = true ∧ g.al = [] := by
  unfold standB at h
  rw [if_neg (by omega), if_neg (by omega), if_pos k] at h
  simp only [Bool.and_eq_true, decide_eq_true_eq] at h
  exact ⟨h.1, List.eq_nil_of_length_eq_zero h.2⟩
theorem stand_cho {g : Gl} (h : standB g = true) (k : g.k = 5) : g.t = ByteArray.empty ∧ (∀ a ∈ g.al, bytesB a = true) ∧ g.al ≠ [] ∧ g.al.length ≤ 16 := by
  unfold standB at h
  rw [if_neg (by omega), if_neg (by omega), if_neg (by omega), if_pos k] at h
  simp only [Bool.and_eq_true, decide_eq_true_eq] at h
  have h2 := h.2
  unfold chooseB at h2
  simp only [Bool.and_eq_true, decide_eq_true_eq] at h2
  exact ⟨size_nil h.1, List.all_eq_true.1 h2.1, by intro e; rw [e] at h2; simp at h2, h2.2.2⟩
theorem nB_heads {c : UInt8} (h : nB c = true) : c ≠ 42 ∧ c ≠ 63 ∧ c ≠ 91 ∧ c ≠ 123 ∧ c ≠ 46 := by
  refine ⟨?_, ?_, ?_, ?_, ?_⟩ <;> (intro e; rw [e] at h; revert h; decide)
/-- A piece's text begins so. -/
theorem glob_head {g : Gl} (h : standB g = true) : ∃ c r, globT g = c :: r ∧ c ≠ 46 ∧ (g.k ≠ 1 → nB c = false) := by
  rcases stand_kind h with k | k | k | k | k
  · obtain ⟨h1, h2, _⟩ := stand_text h k
    rw [globT_1 k]
    cases e : lst g.t with
    | nil => exact absurd (by rw [← lst_len, e]; rfl) h1
    | cons c r => exact ⟨c, r, rfl, (nB_heads (bytes_all h2 c (by rw [e]; exact List.mem_cons_self))).2.2.2.2, fun q => absurd k q⟩
  · rw [globT_2 k]; exact ⟨42, [], rfl, by decide, fun _ => by decide⟩
  · rw [globT_3 k]; exact ⟨63, [], rfl, by decide, fun _ => by decide⟩
  · rw [globT_4 k]; exact ⟨91, _, rfl, by decide, fun _ => by decide⟩
  · rw [globT_5 k]; exact ⟨123, _, rfl, by decide, fun _ => by decide⟩
theorem piece_at2 {s : ByteArray} {i : Nat} {g : Gl} {r : List UInt8} (h : standB g = true) (a : At s i (globT g ++ r)) (hr : g.k = 1 → stops r) : pieceA s i = (i + (globT g).length, .ok g) := by
  obtain ⟨k, t, al⟩ := g
  rcases stand_kind h with e | e | e | e | e
  · obtain ⟨h1, h2, h3⟩ := stand_text h e
    simp only at e h3
    subst e h3
    rw [globT_1 rfl] at a ⊢
    have te := textE_at (hr rfl) (lst t) (s.size + 1) i a (bytes_all h2) (by omega)
    have x := a.ext
    have xe : (⟨(lst t).toArray⟩ : ByteArray) = t := lst_inj (lst_mk _)
    rw [xe] at x
    cases hl : lst t with
    | nil => exact absurd (by rw [← lst_len, hl]; rfl) h1
    | cons c m =>
      have n := nB_heads (bytes_all h2 c (by rw [hl]; exact List.mem_cons_self))
      have hx : nx s i = c := by rw [hl] at a; exact At.nx (r := m ++ r) a
      unfold pieceA
      simp only
      rw [hx, if_neg n.1, if_neg n.2.1, if_neg n.2.2.1, if_neg n.2.2.2.1, te, if_neg (by rw [hl]; simp), x, ← hl]
  · obtain ⟨h1, h2⟩ := stand_plain h (.inl e)
    simp only at e h1 h2
    subst e h1 h2
    rw [globT_2 rfl] at a ⊢
    unfold pieceA
    simp only
    rw [At.nx (r := r) a, if_pos rfl]; rfl
  · obtain ⟨h1, h2⟩ := stand_plain h (.inr e)
    simp only at e h1 h2
    subst e h1 h2
    rw [globT_3 rfl] at a ⊢
    unfold pieceA
    simp only
    rw [At.nx (r := r) a, if_neg (by decide), if_pos rfl]; rfl
  · obtain ⟨h1, h2⟩ := stand_cls h e
    simp only at e h1 h2
    subst e h2
    rw [globT_4 rfl] at a ⊢
    have A : At s i (91 :: (rngT (lst t) ++ 93 :: r)) := by simpa using a
    have hne : lst t ≠ [] := by
      intro q
      have : t.size = 0 := by rw [← lst_len, q]; rfl
      unfold riseB at h1; rw [this] at h1; simp at h1
    have tx : rngT (lst t) = (rngR (lst t).length (lst t)).flatMap itT := (rngR_text _ _).symm
    have rne : rngR (lst t).length (lst t) ≠ [] := by
      intro q
      have := clsT_back h1
      rw [q] at this
      apply hne
      rw [← this]; rfl
    have A2 := A.next
    rw [tx] at A2
    have c := class_text _ (s.size + 1) (i + 1) [] rne (rngR_ok _ _ (rise_cls h1)) A2 (by omega)
    unfold pieceA
    simp only
    rw [A.nx, if_neg (by decide), if_neg (by decide), if_pos rfl, c]
    simp only [List.nil_append]
    rw [clsT_back h1, ← tx, show (⟨(lst t).toArray⟩ : ByteArray) = t from lst_inj (lst_mk _)]
    congr 1
    simp only [List.length_cons, List.length_append, List.length_nil]
    omega
  · obtain ⟨h1, h2, h3, h4⟩ := stand_cho h e
    simp only at e h1 h2 h3 h4
    subst e h1
    rw [globT_5 rfl] at a ⊢
    have A : At s i (123 :: (altsT al ++ 125 :: r)) := by simpa using a
    have c := choice_at al (s.size + 1) (i + 1) [] h3 A.next h2 (by simpa using h4) (by omega)
    unfold pieceA
    simp only
    rw [A.nx, if_neg (by decide), if_neg (by decide), if_neg (by decide), if_pos rfl, c]
    simp only [List.nil_append]
    congr 1
    simp only [List.length_cons, List.length_append, List.length_nil]
    omega
/-- May the pieces stand one behind the other? -/
def chainB : List Gl → Bool
  | [] => true
  | [g] => standB g
  | g :: h :: r => standB g && !(decide (g.k = 1) && decide (h.k = 1)) && chainB (h :: r)
theorem chain_head {g : Gl} {r : List Gl} (h : chainB (g :: r) = true) : standB g = true := by
  cases r with
  | nil => exact h
  | cons x r => unfold chainB at h; simp only [Bool.and_eq_true] at h; exact h.1.1
theorem chain_tail {g : Gl} {r : List Gl} (h : chainB (g :: r) = true) : chainB r = true := by
  cases r with
  | nil => rfl
  | cons x r => unfold chainB at h; simp only [Bool.and_eq_true] at h; exact h.2
theorem chain_place : ∀ gs : List Gl, (List.range gs.length).all (placeB gs) = chainB gs
  | [] => rfl
  | [g] => by simp [placeB, chainB]
  | g :: h :: r => by
    have ih := chain_place (h :: r)
    rw [List.length_cons, List.range_succ_eq_map, List.all_cons, List.all_map]
    have e0 : placeB (g :: h :: r) 0 = standB g := by simp [placeB]
    have e1 : ∀ i, placeB (g :: h :: r) (i + 1) = (placeB (h :: r) i && (decide (i ≠ 0) || !(decide (g.k = 1) && decide (h.k = 1)))) := by
      intro i
      cases i with
      | zero => simp [placeB, Bool.and_comm]
      | succ i =>
        have : (g :: h :: r)[i + 1 + 1 - 1]? = (h :: r)[i + 1 - 1]? := by simp
        simp only [placeB, List.getElem?_cons_succ]
        cases (r[i]?) with
        | none => simp
        | some x => simp
    rw [e0]
    unfold chainB
    rw [← ih]
    have : ((placeB (g :: h :: r)) ∘ Nat.succ) = fun i => (placeB (h :: r) i && (decide (i ≠ 0) || !(decide (g.k = 1) && decide (h.k = 1)))) := funext e1
    rw [this]
    rw [Bool.eq_iff_iff]
    simp only [Bool.and_eq_true, List.all_eq_true, List.mem_range]
    constructor
    · rintro ⟨a, b⟩
      refine ⟨⟨a, ?_⟩, fun i hi => (b i hi).1⟩
      have := (b 0 (by simp)).2
      simpa using this
    · rintro ⟨⟨a, b⟩, c⟩
      exact ⟨a, fun i hi => ⟨c i hi, by rw [b]; simp⟩⟩
theorem node_at2 {s : ByteArray} {r : List UInt8} (hr : r = [] ∨ ∃ x, r = 46 :: x) : ∀ (gs : List Gl) (f i : Nat) (acc : List Gl), chainB gs = true → acc ++ gs ≠ [] → At s i (nodeT gs ++ r) → s.size < f + i → nodeA s f i acc = (i + (nodeT gs).length, .ok (acc ++ gs))
  | [], f, i, acc, _, hne, a, hf => by
    have A : At s i r := a
    rw [node_stop hf A.le (fun hi => by
      rcases hr with e | ⟨x, e⟩
      · subst e; have := A.end_; omega
      · subst e; exact A.nx), if_neg (by simpa using hne)]
    simp [nodeT]
  | g :: gs, f, i, acc, hc, hne, a, hf => by
    have sg := chain_head hc
    have A : At s i (globT g ++ (nodeT gs ++ r)) := by simpa [nodeT, List.flatMap_cons] using a
    obtain ⟨c, m, e, n46, _⟩ := glob_head sg
    have hx : nx s i = c := by rw [e] at A; exact At.nx (r := m ++ (nodeT gs ++ r)) A
    have hi : i < s.size := by have h1 := A.len; rw [e] at h1; simp at h1; omega
    have pe := piece_at2 sg A (fun k1 => by
      cases gs with
      | nil =>
        rcases hr with q | ⟨x, q⟩
        · rw [q]; intro c l z; simp [nodeT] at z
        · rw [q]; exact stops_cons (by decide) _
      | cons h2 gs =>
        unfold chainB at hc
        simp only [Bool.and_eq_true, Bool.not_eq_true', Bool.and_eq_false_iff, decide_eq_false_iff_not] at hc
        obtain ⟨c2, m2, e2, _, nb⟩ := glob_head (chain_head hc.2)
        have : nodeT (h2 :: gs) ++ r = c2 :: (m2 ++ (nodeT gs ++ r)) := by simp [nodeT, List.flatMap_cons, e2]
        rw [this]
        exact stops_cons (nb (hc.1.2.resolve_left (fun z => z k1))) _)
    obtain ⟨f', hf', h⟩ := node_step (acc := acc) hf hi (by rw [hx]; exact n46) pe
    rw [h, node_at2 hr gs f' _ (acc ++ [g]) (chain_tail hc) (by simp) A.app hf']
    rw [List.append_assoc, List.singleton_append, show nodeT (g :: gs) = globT g ++ nodeT gs from List.flatMap_cons .., List.length_append]
    congr 1
    omega
theorem node_chain {gs : List Gl} (h : nodeMay gs = true) : gs ≠ [] ∧ chainB gs = true := by
  unfold nodeMay at h
  simp only [Bool.and_eq_true, decide_eq_true_eq] at h
  exact ⟨fun e => h.1 (by rw [e]; rfl), by rw [← chain_place]; exact h.2⟩
theorem pat_at {s : ByteArray} : ∀ (p : List (List Gl)) (f i : Nat) (acc : List (List Gl)), p ≠ [] → p.all nodeMay = true → acc.length + p.length ≤ 16 → At s i (patT p) → s.size < f + i → patA s f i acc = (0, .ok (acc ++ p))
  | [], _, _, _, h, _, _, _, _ => absurd rfl h
  | [gs], f, i, acc, _, ha, hl, a, hf => by
    obtain ⟨h1, h2⟩ := node_chain (by simpa using ha)
    have A : At s i (nodeT gs ++ []) := by simpa [patT] using a
    have e := node_at2 (.inl rfl) gs (s.size + 1) i [] h2 (by simpa using h1) A (by omega)
    have z := A.app.end_
    rw [z] at e
    rw [pat_end hf A.le e]; rfl
  | gs :: q :: p, f, i, acc, _, ha, hl, a, hf => by
    rw [List.all_cons, Bool.and_eq_true] at ha
    obtain ⟨h1, h2⟩ := node_chain ha.1
    have A : At s i (nodeT gs ++ 46 :: patT (q :: p)) := a
    have e := node_at2 (.inr ⟨_, rfl⟩) gs (s.size + 1) i [] h2 (by simpa using h1) A (by omega)
    have B := A.app
    have lt := B.len
    simp only [List.length_cons] at lt hl
    obtain ⟨g, hg, h⟩ := pat_step (acc := acc) hf A.le e (by omega) (by omega)
    rw [h, List.nil_append, pat_at (q :: p) g _ (acc ++ [gs]) (by simp) ha.2 (by simp; omega) B.next hg]
    simp
/-- P8: what is written is read again. -/
theorem comp_back (p : List (List Gl)) (h : mayB p = true) (hl : (patT p).length ≤ 400) : compA ⟨(patT p).toArray⟩ = (0, .ok p) := by
  have l := lst_mk (patT p)
  obtain ⟨t, ht⟩ : ∃ t, t = (⟨(patT p).toArray⟩ : ByteArray) := ⟨_, rfl⟩
  rw [← ht] at l ⊢
  have sz : t.size = (patT p).length := by rw [← lst_len, l]
  unfold mayB at h
  simp only [Bool.and_eq_true, decide_eq_true_eq] at h
  unfold compA
  rw [if_neg (by omega)]
  have := pat_at p (t.size + 1) 0 [] (by intro e; rw [e] at h; simp at h) h.2 (by simpa using h.1.2) (by rw [← l]; exact at_start t) (by omega)
  rw [this]; rfl
end Go.Proofs.YteahbdhhcfoiiaaDoor
/- name: what a class's text costs, plain. -/
namespace Go.Proofs.YteahbdhhcfoiiaaDoor
set_option linter.unusedVariables false
set_option linter.unusedSimpArgs false
theorem run_max : ∀ l : List UInt8, runL l < l.length → (l.getD (runL l) 0).toNat ≠ (l.getD (runL l - 1) 0).toNat + 1
  | [], h => by simp at h
  | [c], h => by simp [runL] at h
  | c :: d :: r, h => by
    have ih := run_max (d :: r)
    have p := runL_pos (l := d :: r) (by simp)
    unfold runL at h ⊢
    simp only at h ⊢
    split
    · rename_i e
      rw [if_pos e] at h
      have := ih (by simp only [List.length_cons] at h ⊢; omega)
      obtain ⟨m, hm⟩ : ∃ m, runL (d :: r) = m + 1 := ⟨runL (d :: r) - 1, by omega⟩
      rw [hm] at this ⊢
      rw [show 1 + (m + 1) = m + 1 + 1 by omega]
      simpa using this
    · rename_i e
      simpa using e
/-- Is a number among the bytes? -/
def hasN (l : List UInt8) (n : Nat) : Bool := l.any fun d => decide (d.toNat = n)
theorem hasN_mem {l : List UInt8} {n : Nat} : hasN l n = true ↔ ∃ d ∈ l, d.toNat = n := by
  unfold hasN; rw [List.any_eq_true]
  constructor
  · rintro ⟨d, h1, h2⟩; exact ⟨d, h1, of_decide_eq_true h2⟩
  · rintro ⟨d, h1, h2⟩; exact ⟨d, h1, decide_eq_true h2⟩
/-- Do three that follow stand ahead of it? -/
def predsL (l : List UInt8) (n : Nat) : Bool := decide (3 ≤ n) && (hasN l (n - 1) && (hasN l (n - 2) && hasN l (n - 3)))
def cntL (l : List UInt8) : Nat := (l.filter fun c => !predsL l c.toNat).length
theorem filter_le {α : Type} (f g : α → Bool) : ∀ l : List α, (∀ a ∈ l, f a = true → g a = true) → (l.filter f).length ≤ (l.filter g).length
  | [], _ => by simp
  | a :: l, h => by
    have ih := filter_le f g l fun b hb => h b (List.mem_cons_of_mem _ hb)
    simp only [List.filter_cons]
    by_cases e : f a = true
    · rw [if_pos e, if_pos (h a List.mem_cons_self e)]; simp; omega
    · rw [if_neg e]; split <;> (simp; omega)
theorem filter_all {α : Type} (f : α → Bool) (l : List α) (h : ∀ a ∈ l, f a = true) : (l.filter f).length = l.length := by
  rw [List.filter_eq_self.2 h]
theorem cost_le : ∀ (f : Nat) (l : List UInt8), l.length ≤ f → l.Pairwise (fun x y => x.toNat < y.toNat) → (rngF f l).length ≤ cntL l
  | 0, l, h, _ => by simp [rngF]
  | f + 1, l, h, hp => by
    unfold rngF
    split
    · simp
    · rename_i hne
      have p1 := runL_pos hne
      have p2 := runL_le l
      have hl : 0 < l.length := List.length_pos_iff.2 hne
      have ih := cost_le f (l.drop (runL l)) (by rw [List.length_drop]; omega) (hp.drop)
      obtain ⟨n, hn⟩ : ∃ n, n = runL l := ⟨_, rfl⟩
      have up := upto_at (upto_run l)
      have mx := run_max l
      have gd : ∀ j (hj : j < l.length), l.getD j 0 = l[j] := fun j hj => by rw [List.getD_eq_getElem?_getD, List.getElem?_eq_getElem hj]; rfl
      have rise : ∀ i j (hi : i < l.length) (hj : j < l.length), i < j → l[i].toNat < l[j].toNat := fun i j hi hj hij => List.pairwise_iff_getElem.1 hp i j hi hj hij
      rw [← hn] at p1 p2 ih up mx ⊢
      have low : ∀ d ∈ l, (l.getD 0 0).toNat ≤ d.toNat := by
        intro d hd
        obtain ⟨j, hj, rfl⟩ := List.getElem_of_mem hd
        rw [gd 0 hl]
        rcases Nat.eq_zero_or_pos j with e | e
        · subst e; exact Nat.le_refl _
        · exact Nat.le_of_lt (rise 0 j hl hj e)
      -- the rest's elements have their neighbours in the rest
      have nb : ∀ c ∈ l.drop n, ∀ d ∈ l, d.toNat + 1 = c.toNat → d ∈ l.drop n := by
        intro c hc d hd e
        obtain ⟨j, hj, rfl⟩ := List.getElem_of_mem hd
        rcases Nat.lt_or_ge j n with q | q
        · exfalso
          obtain ⟨k, hk, rfl⟩ := List.getElem_of_mem hc
          rw [List.length_drop] at hk
          rw [List.getElem_drop] at e
          have u1 := up j q
          rw [gd j hj] at u1
          have u2 := up (n - 1) (by omega)
          rw [gd (n - 1) (by omega)] at u2
          have r1 := rise (n - 1) (n + k) (by omega) (by omega) (by omega)
          have mm := mx (by omega)
          rw [gd n (by omega), gd (n - 1) (by omega)] at mm
          have r2 := rise (n - 1) n (by omega) (by omega) (by omega)
          have r3 : l[n].toNat ≤ l[n + k].toNat := by
            rcases Nat.eq_zero_or_pos k with z | z
            · subst z; exact Nat.le_refl _
            · exact Nat.le_of_lt (rise n (n + k) (by omega) (by omega) (by omega))
          omega
        · have : l[j] = (l.drop n)[j - n]'(by rw [List.length_drop]; omega) := by rw [List.getElem_drop]; congr 1; omega
          rw [this]; exact List.getElem_mem _
      have pr : ∀ c ∈ l.drop n, predsL l c.toNat = true → predsL (l.drop n) c.toNat = true := by
        intro c hc h
        unfold predsL at h ⊢
        simp only [Bool.and_eq_true, decide_eq_true_eq] at h ⊢
        obtain ⟨h3, a1, a2, a3⟩ := h
        obtain ⟨d1, m1, e1⟩ := hasN_mem.1 a1
        obtain ⟨d2, m2, e2⟩ := hasN_mem.1 a2
        obtain ⟨d3, m3, e3⟩ := hasN_mem.1 a3
        have b1 := nb c hc d1 m1 (by omega)
        have b2 := nb d1 b1 d2 m2 (by omega)
        have b3 := nb d2 b2 d3 m3 (by omega)
        exact ⟨h3, hasN_mem.2 ⟨d1, b1, e1⟩, hasN_mem.2 ⟨d2, b2, e2⟩, hasN_mem.2 ⟨d3, b3, e3⟩⟩
      -- the first of a run are counted
      have fst : ∀ c ∈ l.take (min n 3), (!predsL l c.toNat) = true := by
        intro c hc
        obtain ⟨j, hj, rfl⟩ := List.mem_take_iff_getElem.1 hc
        have u := up j (by omega)
        rw [gd j (by omega)] at u
        rw [Bool.not_eq_true']
        cases e : predsL l l[j].toNat with
        | false => rfl
        | true =>
          unfold predsL at e
          simp only [Bool.and_eq_true, decide_eq_true_eq] at e
          obtain ⟨d, md, ed⟩ := hasN_mem.1 e.2.2.2
          have := low d md
          omega
      have e1 : cntL l = ((l.take n).filter fun c => !predsL l c.toNat).length + ((l.drop n).filter fun c => !predsL l c.toNat).length := by
        unfold cntL
        conv => lhs; rw [← List.take_append_drop n l, List.filter_append]
        simp only [List.take_append_drop, List.length_append]
      have e2 : min n 3 ≤ ((l.take n).filter fun c => !predsL l c.toNat).length := by
        have h1 : l.take n = l.take (min n 3) ++ (l.take n).drop (min n 3) := by
          conv => lhs; rw [← List.take_append_drop (min n 3) (l.take n)]
          rw [List.take_take]
          congr 2
          omega
        rw [h1, List.filter_append, List.length_append, filter_all _ _ fst, List.length_take]
        omega
      have e3 : cntL (l.drop n) ≤ ((l.drop n).filter fun c => !predsL l c.toNat).length := by
        unfold cntL
        refine filter_le _ _ _ fun c hc h => ?_
        simp only [Bool.not_eq_true'] at h ⊢
        cases e : predsL l c.toNat with
        | false => rfl
        | true => rw [pr c hc e] at h; cases h
      have e4 : (pieceL l).length = min n 3 := by
        unfold pieceL
        rw [← hn]
        split
        · rw [List.length_take]; omega
        · simp; omega
      rw [List.length_append, e4, e1]
      omega
/-- What an item costs at least. -/
def cst (r : UInt8 × UInt8) : Nat := min (r.2.toNat + 1 - r.1.toNat) 3
def cntS (S : Nat → Bool) : Nat := ((List.range 128).filter fun b => S b && !(decide (3 ≤ b) && (S (b - 1) && (S (b - 2) && S (b - 3))))).length
theorem count_part (lo m : Nat) : ∀ N, ((List.range N).filter fun b => decide (lo ≤ b) && decide (b < m)).length ≤ min N m - lo
  | 0 => by simp
  | N + 1 => by
    have ih := count_part lo m N
    rw [List.range_succ, List.filter_append, List.length_append]
    simp only [List.filter_cons, List.filter_nil]
    split
    · rename_i e
      simp only [Bool.and_eq_true, decide_eq_true_eq] at e
      simp; omega
    · simp; omega
theorem filter_or {α : Type} (f g : α → Bool) : ∀ l : List α, (l.filter fun a => f a || g a).length ≤ (l.filter f).length + (l.filter g).length
  | [] => by simp
  | a :: l => by
    have ih := filter_or f g l
    simp only [List.filter_cons]
    by_cases e1 : f a = true
    · by_cases e2 : g a = true
      · simp [e1, e2]; omega
      · simp [e1, e2]; omega
    · by_cases e2 : g a = true
      · simp [e1, e2]; omega
      · simp [e1, e2]; omega
theorem cnt_more (r : UInt8 × UInt8) (rs : List (UInt8 × UInt8)) : cntS (inB (r :: rs)) ≤ cst r + cntS (inB rs) := by
  have e : ∀ b, inB (r :: rs) b = ((decide (r.1.toNat ≤ b) && decide (b ≤ r.2.toNat)) || inB rs b) := fun b => by simp [inB]
  unfold cntS
  have h := count_part r.1.toNat (min (r.2.toNat + 1) (r.1.toNat + 3)) 128
  refine Nat.le_trans (filter_le _ (fun b => (decide (r.1.toNat ≤ b) && decide (b < min (r.2.toNat + 1) (r.1.toNat + 3))) || (inB rs b && !(decide (3 ≤ b) && (inB rs (b - 1) && (inB rs (b - 2) && inB rs (b - 3)))))) _ fun b hb hx => ?_) (Nat.le_trans (filter_or _ _ _) ?_)
  · rw [e, e, e, e] at hx
    by_cases z : r.1.toNat ≤ b ∧ b < min (r.2.toNat + 1) (r.1.toNat + 3)
    · rw [decide_eq_true z.1, decide_eq_true z.2]; rfl
    · rw [show (decide (r.1.toNat ≤ b) && decide (b < min (r.2.toNat + 1) (r.1.toNat + 3))) = false by
        rw [Bool.and_eq_false_iff, decide_eq_false_iff_not, decide_eq_false_iff_not]; omega, Bool.false_or]
      simp only [Bool.and_eq_true, Bool.or_eq_true, Bool.not_eq_true', Bool.and_eq_false_iff, Bool.or_eq_false_iff, decide_eq_true_eq, decide_eq_false_iff_not] at hx ⊢
      obtain ⟨h1, h2⟩ := hx
      have h1' : inB rs b = true := by
        rcases h1 with h1 | h1
        · exfalso
          rcases h2 with h2 | h2 | h2 | h2
          · omega
          · rcases h2.1 with q | q <;> omega
          · rcases h2.1 with q | q <;> omega
          · rcases h2.1 with q | q <;> omega
        · exact h1
      refine ⟨h1', ?_⟩
      rcases h2 with h2 | h2 | h2 | h2
      · exact .inl h2
      · exact .inr (.inl h2.2)
      · exact .inr (.inr (.inl h2.2))
      · exact .inr (.inr (.inr h2.2))
  · refine Nat.add_le_add ?_ (Nat.le_refl _)
    refine Nat.le_trans h ?_
    unfold cst
    omega
theorem cnt_all : ∀ rs : List (UInt8 × UInt8), cntS (inB rs) ≤ (rs.map cst).sum
  | [] => by
    have : cntS (inB []) = 0 := by unfold cntS inB; rfl
    rw [this]; simp
  | r :: rs => by
    have h1 := cnt_more r rs
    have h2 := cnt_all rs
    simp only [List.map_cons, List.sum_cons]; omega
theorem hasN_cls (rs : List (UInt8 × UInt8)) (n : Nat) (h : n < 128) : hasN (clsT rs) n = inB rs n := by
  rw [Bool.eq_iff_iff, hasN_mem]
  constructor
  · rintro ⟨d, hd, rfl⟩; exact ((clsT_mem rs d).1 hd).2
  · intro hb
    refine ⟨UInt8.ofNat n, (clsT_mem rs _).2 ?_, by rw [UInt8.toNat_ofNat']; omega⟩
    have : (UInt8.ofNat n).toNat = n := by rw [UInt8.toNat_ofNat']; omega
    rw [this]; exact ⟨h, hb⟩
theorem cntL_cls (rs : List (UInt8 × UInt8)) : cntL (clsT rs) ≤ cntS (inB rs) := by
  unfold cntL cntS
  conv => lhs; arg 1; arg 2; unfold clsT
  rw [List.filter_map, List.length_map, List.filter_filter]
  refine filter_le _ _ _ fun b hb h => ?_
  have hb := List.mem_range.1 hb
  have eb : (UInt8.ofNat b).toNat = b := by rw [UInt8.toNat_ofNat']; omega
  simp only [Function.comp_apply, Bool.and_eq_true, eb] at h ⊢
  refine ⟨h.2, ?_⟩
  have := h.1
  unfold predsL at this
  by_cases h3 : 3 ≤ b
  · rw [hasN_cls rs _ (by omega), hasN_cls rs _ (by omega), hasN_cls rs _ (by omega)] at this
    exact this
  · simp [h3]
/-- A class's text is not longer than what it was read of. -/
theorem class_cost (rs : List (UInt8 × UInt8)) : (rngT (clsT rs)).length ≤ (rs.map cst).sum :=
  Nat.le_trans (cost_le _ _ (Nat.le_refl _) (clsT_rise rs)) (Nat.le_trans (cntL_cls rs) (cnt_all rs))
end Go.Proofs.YteahbdhhcfoiiaaDoor
/- name: what is read may be, and its text is not longer. -/
namespace Go.Proofs.YteahbdhhcfoiiaaDoor
set_option linter.unusedVariables false
set_option linter.unusedSimpArgs false
theorem fam_mid : ∀ (a b c : Nat), famI (a : Int) ≠ 0 → famI (b : Int) = famI (a : Int) → a ≤ c → c ≤ b → famI (c : Int) ≠ 0 := by
  intro a b c; unfold famI
  intro h1 h2 h3 h4
  (repeat' split) <;> (repeat' split at h1) <;> (repeat' split at h2) <;> omega
theorem item_fit2 {s : ByteArray} {i j : Nat} {r : UInt8 × UInt8} (h : itemA s i = (j, some r)) : ItOk r ∧ cst r ≤ j - i := by
  unfold itemA at h
  simp only at h
  split at h
  · rename_i q
    split at h
    · split at h
      · cases h
      · rename_i z
        split at h
        · rename_i y
          obtain ⟨rfl, rfl⟩ := Prod.mk.inj h |>.imp id Option.some.inj
          refine ⟨⟨q, .inr ⟨z, y.1, y.2⟩⟩, ?_⟩
          unfold cst; omega
        · cases h
    · obtain ⟨rfl, rfl⟩ := Prod.mk.inj h |>.imp id Option.some.inj
      refine ⟨⟨q, .inl rfl⟩, ?_⟩
      unfold cst; first | omega | (simp; omega) | simp
  · cases h
theorem class_fit2 {s : ByteArray} {f i j : Nat} {acc rs : List (UInt8 × UInt8)} (h : classA s f i acc = (j, some rs)) :
    ∃ ns, rs = acc ++ ns ∧ ns ≠ [] ∧ (∀ q ∈ ns, ItOk q) ∧ (ns.map cst).sum + 1 + i ≤ j := by
  induction f generalizing i acc with
  | zero => cases h
  | succ f ih =>
    unfold classA at h
    split at h
    · cases h
    · rename_i k r e
      obtain ⟨h1, h2⟩ := item_fit2 e
      have hk := (item_pos e).1
      split at h
      · cases h
        exact ⟨[r], rfl, by simp, by simpa using h1, by simp; omega⟩
      · obtain ⟨ns, e1, _, e3, e4⟩ := ih h
        refine ⟨r :: ns, by rw [e1]; simp, by simp, ?_, by simp only [List.map_cons, List.sum_cons]; omega⟩
        intro q hq
        rcases List.mem_cons.1 hq with rfl | hq
        · exact h1
        · exact e3 q hq
theorem clsT_class {rs : List (UInt8 × UInt8)} (h : ∀ q ∈ rs, ItOk q) : ∀ c ∈ clsT rs, cB c = true := by
  intro c hc
  obtain ⟨h1, h2⟩ := (clsT_mem rs c).1 hc
  unfold inB at h2
  rw [List.any_eq_true] at h2
  obtain ⟨q, hq, e⟩ := h2
  simp only [Bool.and_eq_true, decide_eq_true_eq] at e
  obtain ⟨k1, k2⟩ := h q hq
  rcases k2 with k2 | ⟨f1, f2, _⟩
  · have : c = q.1 := UInt8.toNat_inj.1 (by rw [← k2] at e; omega)
    rw [this]; exact k1
  · have := fam_mid q.1.toNat q.2.toNat c.toNat f1 f2 e.1 e.2
    unfold cB clsI
    simp [this]
theorem rise_of {l : List UInt8} (hne : l ≠ []) (hc : ∀ c ∈ l, cB c = true) (hp : l.Pairwise (fun x y => x.toNat < y.toNat)) : riseB ⟨l.toArray⟩ = true := by
  have sz : (⟨l.toArray⟩ : ByteArray).size = l.length := by rw [← lst_len, lst_mk l]
  have e : ∀ k (hk : k < l.length), nx ⟨l.toArray⟩ k = l[k] := fun k hk => by rw [nx_lt (by omega)]; rfl
  unfold riseB
  rw [sz, Bool.and_eq_true]
  constructor
  · refine all_yes fun k hk => ?_
    unfold riseA
    rw [e k hk, hc _ (List.getElem_mem _), Bool.true_and]
    by_cases z : k = 0
    · simp [z]
    · rw [e (k - 1) (by omega)]
      have := List.pairwise_iff_getElem.1 hp (k - 1) k (by omega) hk (by omega)
      simp [this]
  · have := List.length_pos_iff.2 hne
    exact decide_eq_true (by omega)
theorem stand_mk1 {t : ByteArray} (h1 : t.size ≠ 0) (h2 : bytesB t = true) : standB ⟨1, t, []⟩ = true := by
  unfold standB
  simp only [if_true]
  rw [decide_eq_true h1, h2]; rfl
theorem text_all (s : ByteArray) : ∀ (f i : Nat), s.size < f + i → i ≤ s.size → bytesB (s.extract i (textE s f i)) = true := by
  intro f
  induction f with
  | zero => intro i h1 h2; omega
  | succ f ih =>
    intro i h1 h2
    unfold textE
    split
    · rename_i q
      have hlt := nB_lt q
      have ge := textE_ge s f (i + 1)
      have r := ih (i + 1) (by omega) (by omega)
      have le := textE_le s f (i + 1) (by omega)
      unfold bytesB at r ⊢
      rw [lst_cut] at r ⊢
      rw [List.drop_eq_getElem_cons (by rw [lst_len]; exact hlt), show textE s f (i + 1) - i = (textE s f (i + 1) - (i + 1)) + 1 by omega, List.take_succ_cons, List.all_cons, r, Bool.and_true]
      have e : nx s i = (lst s)[i]'(by rw [lst_len]; exact hlt) := by rw [nx_lt hlt]; simp [lst]; rfl
      rw [← e]; exact q
    · have : s.extract i i = ByteArray.empty := by apply size_nil; simp
      rw [this]; rfl
theorem choice_fit2 {s : ByteArray} {f i j : Nat} {acc l : List ByteArray} (h : choiceA s f i acc = (j, .ok l)) (hi : i ≤ s.size) (hl : acc.length < 16) :
    ∃ ns, l = acc ++ ns ∧ ns ≠ [] ∧ (∀ a ∈ ns, bytesB a = true) ∧ l.length ≤ 16 ∧ (altsT ns).length + 1 + i ≤ j := by
  induction f generalizing i acc with
  | zero => cases h
  | succ f ih =>
    have g := textE_ge s (s.size + 1) i
    have le := textE_le s (s.size + 1) i hi
    have bt : bytesB (s.extract i (textE s (s.size + 1) i)) = true := text_all s (s.size + 1) i (by omega) hi
    have sz : (s.extract i (textE s (s.size + 1) i)).size = textE s (s.size + 1) i - i := by simp; omega
    unfold choiceA at h
    simp only at h
    split at h
    · cases h
      exact ⟨[s.extract i (textE s (s.size + 1) i)], rfl, by simp, by simpa using bt, by simp; omega, by simp [altsT, lst_len, sz]; omega⟩
    · split at h
      · rename_i y
        have l1 : textE s (s.size + 1) i < s.size := lt_of_nx (by rw [y]; decide)
        split at h
        · cases h
        · rename_i z
          obtain ⟨ns, e1, e2, e3, e4, e5⟩ := ih h l1 (by simp at z ⊢; omega)
          refine ⟨s.extract i (textE s (s.size + 1) i) :: ns, by rw [e1]; simp, by simp, ?_, e4, ?_⟩
          · intro q hq
            rcases List.mem_cons.1 hq with rfl | hq
            · exact bt
            · exact e3 q hq
          · cases ns with
            | nil => exact absurd rfl e2
            | cons b ns => simp only [altsT, List.length_append, List.length_cons, lst_len, sz] at e5 ⊢; omega
      · cases h
theorem piece_fit2 {s : ByteArray} {i j : Nat} {g : Gl} (h : pieceA s i = (j, .ok g)) (hi : i < s.size) :
    standB g = true ∧ (globT g).length + i ≤ j ∧ (g.k = 1 → nB (nx s i) = true ∧ nB (nx s j) = false) := by
  unfold pieceA at h
  simp only at h
  split at h
  · cases h; exact ⟨rfl, by rw [globT_2 rfl]; simp; omega, fun q => by simp at q⟩
  split at h
  · cases h; exact ⟨rfl, by rw [globT_3 rfl]; simp; omega, fun q => by simp at q⟩
  split at h
  · split at h
    · cases h
    · rename_i rs e
      obtain ⟨ns, e1, e2, e3, e4⟩ := class_fit2 e
      rw [List.nil_append] at e1
      subst e1
      cases h
      have hne : clsT rs ≠ [] := by
        intro z
        obtain ⟨q, t, hq⟩ : ∃ q t, rs = q :: t := by
          cases rs with
          | nil => exact absurd rfl e2
          | cons q t => exact ⟨q, t, rfl⟩
        have ok := e3 q (by rw [hq]; exact List.mem_cons_self)
        have : q.1 ∈ clsT rs := (clsT_mem rs q.1).2 ⟨by have := cls_small q.1 ok.c; exact this, by
          unfold inB; rw [List.any_eq_true]
          refine ⟨q, by rw [hq]; exact List.mem_cons_self, ?_⟩
          simp only [Bool.and_eq_true, decide_eq_true_eq]
          refine ⟨Nat.le_refl _, ?_⟩
          rcases ok.r with z | z
          · rw [z]; exact Nat.le_refl _
          · exact UInt8.le_iff_toNat_le.1 z.2.2⟩
        rw [z] at this; cases this
      have rb := rise_of hne (clsT_class e3) (clsT_rise rs)
      refine ⟨?_, ?_, fun q => by simp at q⟩
      · unfold standB
        rw [if_neg (by simp), if_neg (by simp), if_pos rfl, rb]; rfl
      · rw [globT_4 rfl]
        have c := class_cost rs
        rw [lst_mk (clsT rs)]
        simp only [List.length_cons, List.length_append, List.length_nil]
        omega
  split at h
  · split at h
    · cases h
    · rename_i l e
      obtain ⟨ns, e1, e2, e3, e4, e5⟩ := choice_fit2 e hi (by simp)
      rw [List.nil_append] at e1
      subst e1
      cases h
      refine ⟨?_, ?_, fun q => by simp at q⟩
      · unfold standB
        rw [if_neg (by simp), if_neg (by simp), if_neg (by simp), if_pos rfl]
        unfold chooseB
        simp only [Bool.and_eq_true, decide_eq_true_eq]
        exact ⟨rfl, List.all_eq_true.2 e3, List.length_pos_iff.2 e2, e4⟩
      · rw [globT_5 rfl]
        simp only [List.length_cons, List.length_append, List.length_nil]
        omega
  split at h
  · cases h
  · rename_i z
    cases h
    have ge := textE_ge s (s.size + 1) i
    have le := textE_le s (s.size + 1) i (by omega)
    have sz : (s.extract i (textE s (s.size + 1) i)).size = textE s (s.size + 1) i - i := by simp; omega
    refine ⟨stand_mk1 (by rw [sz]; omega) (text_all s _ i (by omega) (by omega)), ?_, fun _ => ⟨?_, textE_end s _ i (by omega)⟩⟩
    · rw [globT_1 rfl, lst_len, sz]; omega
    · cases e : nB (nx s i) with
      | true => rfl
      | false => exact absurd (textE_stop e) z
/-- The last piece, if it is a text, is not followed by a name byte. -/
theorem node_fit2 {s : ByteArray} {f i j : Nat} {acc l : List Gl} (h : nodeA s f i acc = (j, .ok l)) :
    ∃ ns, l = acc ++ ns ∧ (nodeT ns).length + i ≤ j ∧ chainB ns = true ∧ (∀ g r, ns = g :: r → g.k = 1 → nB (nx s i) = true) := by
  induction f generalizing i acc with
  | zero => cases h
  | succ f ih =>
    unfold nodeA at h
    split at h
    · rename_i q
      split at h
      · cases h
      · rename_i k g e
        obtain ⟨p1, p2, p3⟩ := piece_fit2 e q.1
        obtain ⟨ns, e1, e2, e3, e4⟩ := ih h
        refine ⟨g :: ns, by rw [e1]; simp, ?_, ?_, ?_⟩
        · rw [show nodeT (g :: ns) = globT g ++ nodeT ns from List.flatMap_cons .., List.length_append]; omega
        · cases ns with
          | nil => exact p1
          | cons g2 ns =>
            unfold chainB
            rw [p1, e3, Bool.true_and, Bool.and_true, Bool.not_eq_true', Bool.and_eq_false_iff, decide_eq_false_iff_not, decide_eq_false_iff_not]
            by_cases k1 : g.k = 1
            · right
              intro k2
              have := e4 g2 ns rfl k2
              rw [(p3 k1).2] at this; cases this
            · exact .inl k1
        · intro g' r' e' k1
          cases e'
          exact (p3 k1).1
    · split at h
      · cases h
      · cases h
        exact ⟨[], by simp, by simp [nodeT], rfl, fun g r e => by cases e⟩
theorem node_may {s : ByteArray} {f i j : Nat} {l : List Gl} (h : nodeA s f i [] = (j, .ok l)) : nodeMay l = true ∧ (nodeT l).length + i ≤ j := by
  obtain ⟨ns, e1, e2, e3, _⟩ := node_fit2 h
  rw [List.nil_append] at e1
  subst e1
  have := node_ne h
  unfold nodeMay
  rw [chain_place, e3, Bool.and_true]
  exact ⟨decide_eq_true (fun z => this (List.eq_nil_of_length_eq_zero z)), e2⟩
theorem pat_may {s : ByteArray} {f i j : Nat} {acc p : List (List Gl)} (h : patA s f i acc = (j, .ok p)) (hi : i ≤ s.size) (hl : acc.length < 16) :
    ∃ ns, p = acc ++ ns ∧ ns ≠ [] ∧ ns.all nodeMay = true ∧ p.length ≤ 16 ∧ (patT ns).length + i ≤ s.size ∧ j = 0 := by
  induction f generalizing i acc with
  | zero => cases h
  | succ f ih =>
    unfold patA at h
    split at h
    · cases h
    · rename_i k nd e
      obtain ⟨m1, m2⟩ := node_may e
      have ke : k ≤ s.size := by have := node_le (s := s) (f := s.size + 1) (acc := []) hi; rw [e] at this; exact this
      split at h
      · cases h
      · rename_i z
        split at h
        · rename_i y
          cases h
          exact ⟨[nd], rfl, by simp, by simpa using m1, by simp; omega, by simp [patT]; omega, rfl⟩
        · rename_i y
          obtain ⟨ns, e1, e2, e3, e4, e5, e6⟩ := ih h (by omega) (by
            rw [List.length_append]; simp
            rcases Nat.lt_or_ge (acc.length + 1) 16 with q | q
            · exact q
            · exact absurd ⟨by omega, by omega⟩ z)
          refine ⟨nd :: ns, by rw [e1]; simp, by simp, by rw [List.all_cons, m1, e3]; rfl, e4, ?_, e6⟩
          cases ns with
          | nil => exact absurd rfl e2
          | cons b ns => simp only [patT, List.length_append, List.length_cons] at e5 ⊢; omega
/-- What is read may be; its text is not longer than what it was read of. -/
theorem comp_may {s : ByteArray} {j : Nat} {p : List (List Gl)} (h : compA s = (j, .ok p)) : mayB p = true ∧ (patT p).length ≤ s.size ∧ s.size ≤ 400 ∧ j = 0 := by
  unfold compA at h
  split at h
  · cases h
  · obtain ⟨ns, e1, e2, e3, e4, e5, e6⟩ := pat_may h (Nat.zero_le _) (by simp)
    rw [List.nil_append] at e1
    subst e1
    refine ⟨?_, by omega, by omega, e6⟩
    unfold mayB
    rw [e3, Bool.and_true, Bool.and_eq_true, decide_eq_true_eq, decide_eq_true_eq]
    exact ⟨List.length_pos_iff.2 e2, e4⟩
end Go.Proofs.YteahbdhhcfoiiaaDoor
/- name: weights of patterns that were read. -/
namespace Go.Proofs.YteahbdhhcfoiiaaDoor
set_option linter.unusedVariables false
set_option linter.unusedSimpArgs false
open Go.RowKit W
theorem globW_text {g : Gl} (h : standB g = true) : globW g ≤ 130 * (globT g).length := by
  unfold globW
  rcases stand_kind h with k | k | k | k | k
  · obtain ⟨h1, _, h3⟩ := stand_text h k
    rw [globT_1 k, lst_len, h3]; simp [altsW]; omega
  · obtain ⟨h1, h3⟩ := stand_plain h (.inl k)
    rw [globT_2 k, h1, h3]; simp [altsW]
  · obtain ⟨h1, h3⟩ := stand_plain h (.inr k)
    rw [globT_3 k, h1, h3]; simp [altsW]
  · obtain ⟨h1, h3⟩ := stand_cls h k
    have sz : g.t.size ≤ 128 := by
      have h2 := clsT_back h1
      have h4 : (clsT (rngR (lst g.t).length (lst g.t))).length ≤ 128 := by
        unfold clsT
        rw [List.length_map]
        exact Nat.le_trans (List.length_filter_le _ _) (by simp)
      rw [h2, lst_len] at h4; exact h4
    rw [globT_4 k, h3]; simp [altsW]; omega
  · obtain ⟨h1, _, h3, _⟩ := stand_cho h k
    have aw : ∀ al : List ByteArray, al ≠ [] → altsW al = (altsT al).length + 1 := by
      intro al
      induction al with
      | nil => intro h; exact absurd rfl h
      | cons a r ih =>
        intro _
        cases r with
        | nil => simp [altsW, altsT, lst_len]
        | cons b r =>
          have := ih (by simp)
          simp only [altsW, altsT, List.map_cons, List.sum_cons, List.length_append, List.length_cons, lst_len] at this ⊢
          omega
    rw [globT_5 k, h1, aw _ h3]; simp; omega
theorem nodeW_text {gs : List Gl} (hne : gs ≠ []) (h : ∀ g ∈ gs, standB g = true) : nodeW gs ≤ 131 * (nodeT gs).length := by
  have h1 : ∀ l : List Gl, (∀ g ∈ l, standB g = true) → (l.map globW).sum ≤ 130 * (nodeT l).length := by
    intro l
    induction l with
    | nil => intro _; simp
    | cons g r ih =>
      intro hl
      have a := globW_text (hl g List.mem_cons_self)
      have b := ih fun x hx => hl x (List.mem_cons_of_mem _ hx)
      rw [show nodeT (g :: r) = globT g ++ nodeT r from List.flatMap_cons .., List.length_append]
      simp only [List.map_cons, List.sum_cons]; omega
  have h2 := h1 gs h
  have h3 : 1 ≤ (nodeT gs).length := by
    cases gs with
    | nil => exact absurd rfl hne
    | cons g r =>
      obtain ⟨c, m, e, _⟩ := glob_head (h g List.mem_cons_self)
      rw [show nodeT (g :: r) = globT g ++ nodeT r from List.flatMap_cons .., e]; simp
  unfold nodeW; omega
theorem patW_text : ∀ p : List (List Gl), (∀ gs ∈ p, gs ≠ [] ∧ ∀ g ∈ gs, standB g = true) → patW p ≤ 131 * (patT p).length
  | [], _ => by simp [patW]
  | [a], h => by
    have := nodeW_text (h a List.mem_cons_self).1 (h a List.mem_cons_self).2
    simp [patW, patT]; omega
  | a :: b :: r, h => by
    have h1 := nodeW_text (h a List.mem_cons_self).1 (h a List.mem_cons_self).2
    have h2 := patW_text (b :: r) fun x hx => h x (List.mem_cons_of_mem _ hx)
    simp only [patW, patT, List.map_cons, List.sum_cons, List.length_append, List.length_cons] at h2 ⊢
    omega
theorem patW_may {p : List (List Gl)} (h : mayB p = true) : patW p ≤ 131 * (patT p).length := by
  refine patW_text p fun gs hgs => ⟨?_, fun g hg => stand_of p h hgs hg⟩
  intro e
  exact may_node p h hgs (by rw [e]; rfl)
theorem ptw_of {p : List (List Gl)} (h : patW p ≤ 140737488351232) : PtW p := by
  have e1 : ∀ l : List (List Gl), l.length ≤ patW l := by
    intro l
    induction l with
    | nil => simp
    | cons x r ih => simp only [patW, List.length_cons, List.map_cons, List.sum_cons] at ih ⊢; unfold nodeW at ih ⊢; omega
  have e2 : ∀ l : List Gl, l.length ≤ nodeW l := by
    intro l
    induction l with
    | nil => simp
    | cons x r ih => simp only [nodeW, List.length_cons, List.map_cons, List.sum_cons] at ih ⊢; unfold globW at ih ⊢; omega
  have e3 : ∀ l : List ByteArray, l.length ≤ altsW l := by
    intro l
    induction l with
    | nil => simp
    | cons x r ih => simp only [List.length_cons, altsW, List.map_cons, List.sum_cons] at ih ⊢; omega
  refine ⟨by have := e1 p; omega, fun gs hgs => ?_, fun gs hgs g hg => ?_⟩
  · have h1 := sum_mem_le nodeW hgs
    have h2 := e2 gs
    unfold patW at h; omega
  · have w := globW_le p gs g hgs hg
    have h3 := e3 g.al
    unfold globW at w
    refine ⟨by omega, by omega, fun a ha => ?_⟩
    have h4 := sum_mem_le (fun a : ByteArray => a.size + 1) ha
    unfold altsW at w
    omega
end Go.Proofs.YteahbdhhcfoiiaaDoor
/- NameJoins: the law's walk. -/
namespace Go.Proofs.YteahbdhhcfoiiaaDoor
set_option linter.unusedVariables false
set_option linter.unusedSimpArgs false
open Go.RowKit W
/-- Texts joined by points, the first k of them. -/
def joinN (l : List ByteArray) : Nat → ByteArray
  | 0 => ⟨#[]⟩
  | k + 1 => (if k = 0 then ⟨#[]⟩ else joinN l k ++ ⟨#[46]⟩) ++ l.getD k ⟨#[]⟩
theorem lst_app (a b : ByteArray) : lst (a ++ b) = lst a ++ lst b := by simp [lst]
theorem cutL_snoc (c : UInt8) (a b acc : List UInt8) : cutL c acc (a ++ c :: b) = cutL c acc a ++ cutL c [] b := by
  induction a generalizing acc with
  | nil => simp [cutL]
  | cons x r ih =>
    show (if x = c then acc :: cutL c [] (r ++ c :: b) else cutL c (acc ++ [x]) (r ++ c :: b)) = _
    rw [cutL]
    split
    · rw [ih]; rfl
    · rw [ih]
theorem join_cut (l : List ByteArray) (hp : ∀ x ∈ l, (46 : UInt8) ∉ lst x) : ∀ k, 0 < k → k ≤ l.length → cutL 46 [] (lst (joinN l k)) = (l.take k).map lst := by
  intro k
  induction k with
  | zero => intro h; omega
  | succ k ih =>
    intro _ hk
    have hg : l.getD k ⟨#[]⟩ = l[k] := by simp [List.getD_eq_getElem?_getD, show k < l.length by omega]
    have hn := hp l[k] (List.getElem_mem _)
    rw [List.take_succ_eq_append_getElem (by omega), List.map_append]
    unfold joinN
    by_cases z : k = 0
    · subst z
      rw [if_pos rfl, lst_app, hg]
      show cutL 46 [] ([] ++ lst l[0]) = _
      rw [List.nil_append, cutL_none 46 _ _ hn]; rfl
    · rw [if_neg z, lst_app, lst_app, hg]
      show cutL 46 [] (lst (joinN l k) ++ [46] ++ lst l[k]) = _
      rw [List.append_assoc]
      show cutL 46 [] (lst (joinN l k) ++ 46 :: lst l[k]) = _
      rw [cutL_snoc, ih (by omega) (by omega), cutL_none 46 _ _ hn]; rfl
/-- May the texts be nodes? -/
def fineN (l : List ByteArray) : Bool := (decide (1 ≤ l.length) && decide (l.length ≤ 16)) && l.all fun x => nodeB (lst x)
theorem nodeB_eq (x : ByteArray) : nodeB (lst x) = (decide (x.size ≠ 0) && bytesB x) := by
  unfold nodeB bytesB
  congr 1
  rw [← lst_len x]
  cases lst x with
  | nil => rfl
  | cons a r => simp
theorem join_valid (l : List ByteArray) (hp : ∀ x ∈ l, (46 : UInt8) ∉ lst x) : validN (lst (joinN l l.length)) = (fineN l && decide ((joinN l l.length).size ≤ 200)) := by
  rw [valid_cut, lst_len]
  by_cases z : l.length = 0
  · have : l = [] := List.length_eq_zero_iff.1 z
    subst this; decide
  · rw [join_cut l hp _ (by omega) (Nat.le_refl _), List.take_length]
    unfold fineN
    rw [List.all_map, List.length_map, decide_eq_true (show 1 ≤ l.length by omega), Bool.true_and, Bool.and_comm]
    congr 1
    rw [Bool.and_comm]; rfl
theorem join_nodes (l : List ByteArray) (hp : ∀ x ∈ l, (46 : UInt8) ∉ lst x) (h : validN (lst (joinN l l.length)) = true) : nodesL (joinN l l.length) = l := by
  refine map_lst_inj ?_
  rw [nodesL_yes h]
  by_cases z : l.length = 0
  · have : l = [] := List.length_eq_zero_iff.1 z
    subst this; exact absurd h (by decide)
  · rw [join_cut l hp _ (by omega) (Nat.le_refl _), List.take_length]
theorem join_size (l : List ByteArray) (k : Nat) (h : ∀ j (q : j < l.length), j < k → l[j].size ≤ 200) (hk : k ≤ l.length) : (joinN l k).size ≤ k * 201 := by
  induction k with
  | zero => exact Nat.zero_le _
  | succ k ih =>
    have hg : l.getD k ⟨#[]⟩ = l[k] := by simp [List.getD_eq_getElem?_getD, show k < l.length by omega]
    have h1 := h k (by omega) (by omega)
    have h2 := ih (fun j q hj => h j q (by omega)) (by omega)
    unfold joinN
    rw [ByteArray.size_append, hg]
    split
    · have : (⟨#[]⟩ : ByteArray).size = 0 := rfl
      omega
    · rw [ByteArray.size_append]
      have : (⟨#[46]⟩ : ByteArray).size = 1 := rfl
      omega
theorem long_not {x : ByteArray} (h : 200 < x.size) : validN x.data.toList = false := by
  unfold validN
  rw [decide_eq_false (by have : x.data.toList.length = x.size := Array.length_toList; omega)]; rfl
/-- So far. -/
def fineK (l : List ByteArray) (k : Nat) : Bool := (decide (1 ≤ l.length) && decide (l.length ≤ 16)) && (l.take k).all fun x => nodeB (lst x)
theorem fineK_step (l : List ByteArray) (k : Nat) (h : k < l.length) : fineK l (k + 1) = (fineK l k && nodeB (lst l[k])) := by
  unfold fineK
  rw [List.take_succ_eq_append_getElem h, List.all_append]
  simp [Bool.and_assoc]
theorem fineK_all (l : List ByteArray) : fineK l l.length = fineN l := by unfold fineK fineN; rw [List.take_length]
/-- Is there a point in the first k texts? -/
def ptsK (l : List ByteArray) (k : Nat) : Bool := (l.take k).any fun x => (lst x).contains 46
theorem ptsK_step (l : List ByteArray) (k : Nat) (h : k < l.length) : ptsK l (k + 1) = (ptsK l k || (lst l[k]).contains 46) := by
  unfold ptsK
  rw [List.take_succ_eq_append_getElem h, List.any_append]
  simp
theorem ptsK_no (l : List ByteArray) (h : ptsK l l.length = false) : ∀ x ∈ l, (46 : UInt8) ∉ lst x := by
  intro x hx q
  unfold ptsK at h
  rw [List.take_length, List.any_eq_false] at h
  exact h x hx (by simpa using q)
theorem has_step (x : ByteArray) (k : Nat) (h : k < x.size) : ((lst x).take (k + 1)).contains 46 = (((lst x).take k).contains 46 || (x[k] == 46)) := by
  have hl : k < (lst x).length := by rw [lst_len]; exact h
  rw [List.take_succ_eq_append_getElem hl]
  have e : (lst x)[k] = x[k] := rfl
  rw [Bool.eq_iff_iff]
  simp only [List.contains_iff_mem, List.mem_append, Bool.or_eq_true, List.mem_singleton, beq_iff_eq]
  rw [e]
  constructor
  · rintro (h | h); exact .inl h; exact .inr h.symm
  · rintro (h | h); exact .inl h; exact .inr h.symm
end Go.Proofs.YteahbdhhcfoiiaaDoor
/- name: names as patterns, stars, choices: plain. -/
namespace Go.Proofs.YteahbdhhcfoiiaaDoor
set_option linter.unusedVariables false
set_option linter.unusedSimpArgs false
/-- Texts with points between. -/
def jn : List (List UInt8) → List UInt8
  | [] => []
  | [a] => a
  | a :: b :: r => a ++ 46 :: jn (b :: r)
theorem jn_cut : ∀ (l acc : List UInt8), jn (cutL 46 acc l) = acc ++ l
  | [], acc => by simp [cutL, jn]
  | x :: r, acc => by
    unfold cutL
    split
    · rename_i e
      have h := cutL_pos 46 r []
      have ih := jn_cut r []
      cases hc : cutL 46 [] r with
      | nil => rw [hc] at h; simp at h
      | cons b m =>
        rw [hc] at ih
        simp only [jn, ih, e, List.nil_append]
    · rw [jn_cut r (acc ++ [x])]; simp
def oneP (ts : List ByteArray) : List (List Gl) := ts.map fun t => [⟨1, t, []⟩]
theorem oneP_text : ∀ ts : List ByteArray, patT (oneP ts) = jn (ts.map lst)
  | [] => rfl
  | [a] => by simp [oneP, patT, nodeT, globT_1, jn]
  | a :: b :: r => by
    have ih := oneP_text (b :: r)
    simp only [oneP, List.map_cons, patT, jn] at ih ⊢
    rw [ih]; simp [nodeT, globT_1]
theorem nodeMay_one (t : ByteArray) : nodeMay [⟨1, t, []⟩] = nodeB (lst t) := by
  rw [nodeB_eq]
  unfold nodeMay
  rw [chain_place]
  simp [chainB, standB]
theorem oneP_may {s : ByteArray} (h : validN (lst s) = true) : mayB (oneP (nodesL s)) = true := by
  have hc := nodesL_yes h
  rw [valid_cut] at h
  simp only [Bool.and_eq_true, decide_eq_true_eq] at h
  obtain ⟨_, h1, h2⟩ := h
  rw [← hc] at h1 h2
  have hl := cutL_pos 46 (lst s) []
  rw [← hc] at hl
  simp only [List.length_map] at h2 hl
  unfold mayB oneP
  simp only [List.length_map, Bool.and_eq_true, decide_eq_true_eq]
  refine ⟨⟨hl, h2⟩, ?_⟩
  rw [List.all_eq_true]
  intro gs hgs
  obtain ⟨t, ht, rfl⟩ := List.mem_map.1 hgs
  rw [nodeMay_one]
  exact List.all_eq_true.1 h1 _ (List.mem_map_of_mem ht)
theorem oneP_is {s : ByteArray} (h : validN (lst s) = true) : patT (oneP (nodesL s)) = lst s := by
  rw [oneP_text, nodesL_yes h, jn_cut, List.nil_append]
/-- P3.3: a name is read as its nodes. -/
theorem comp_name {s : ByteArray} (h : validN (lst s) = true) : compA s = (0, .ok (oneP (nodesL s))) := by
  have h1 := comp_back _ (oneP_may h) (by rw [oneP_is h, lst_len]; have := valid_size h; omega)
  have e : (⟨(lst s).toArray⟩ : ByteArray) = s := lst_inj (lst_mk (lst s))
  rw [oneP_is h, e] at h1
  exact h1
theorem plain_name {s : ByteArray} (h : validN (lst s) = true) : plainA (oneP (nodesL s)) = (s, true) := by
  have e : (⟨(lst s).toArray⟩ : ByteArray) = s := lst_inj (lst_mk (lst s))
  unfold plainA
  rw [oneP_is h, if_pos, e]
  refine ⟨oneP_may h, ?_, h⟩
  unfold oneP
  rw [List.all_eq_true]
  intro gs hgs
  obtain ⟨t, _, rfl⟩ := List.mem_map.1 hgs
  rfl
/-- A way through a node's pieces. -/
def Path (s : ByteArray) : List Gl → Nat → Nat → Prop
  | [], i, j => i = j
  | g :: gs, i, j => ∃ k, k ≤ s.size ∧ goB g s i k = true ∧ Path s gs k j
theorem fold_path (s : ByteArray) : ∀ (gs : List Gl) (R : List Bool) (j : Nat), j ≤ s.size → R.length = s.size + 1 →
    ((gs.foldl (fun R g => stepR g s R) R).getD j false = true ↔ ∃ i, i ≤ s.size ∧ R.getD i false = true ∧ Path s gs i j)
  | [], R, j, hj, hl => by
    constructor
    · intro h; exact ⟨j, hj, h, rfl⟩
    · rintro ⟨i, _, h, rfl⟩; exact h
  | g :: gs, R, j, hj, hl => by
    rw [List.foldl_cons, fold_path s gs _ j hj (stepR_len _ _ _)]
    constructor
    · rintro ⟨k, hk, h, p⟩
      rw [List.getD_eq_getElem?_getD, stepR_at _ _ _ _ (by omega), Option.getD_some, List.any_eq_true] at h
      obtain ⟨i, hi, h2⟩ := h
      rw [Bool.and_eq_true] at h2
      have := List.mem_range.1 hi
      exact ⟨i, by omega, h2.1, k, hk, h2.2, p⟩
    · rintro ⟨i, hi, h, k, hk, h2, p⟩
      refine ⟨k, hk, ?_, p⟩
      rw [List.getD_eq_getElem?_getD, stepR_at _ _ _ _ (by omega), Option.getD_some, List.any_eq_true]
      exact ⟨i, List.mem_range.2 (by omega), by rw [h, h2]; rfl⟩
theorem mNode_path (gs : List Gl) (s : ByteArray) : mNode gs s = true ↔ Path s gs 0 s.size := by
  unfold mNode
  rw [fold_path s gs _ _ (Nat.le_refl _) (startR_len s)]
  constructor
  · rintro ⟨i, hi, h, p⟩
    have : i = 0 := by
      cases i with
      | zero => rfl
      | succ i => unfold startR at h; rw [List.getD_cons_succ, List.getD_eq_getElem?_getD] at h; simp [List.getElem?_replicate] at h; split at h <;> simp at h
    rw [← this]; exact p
  · intro p; exact ⟨0, Nat.zero_le _, rfl, p⟩
theorem pre_iff (a s : ByteArray) (i : Nat) : preB a s i = true ↔ ∃ r, (lst s).drop i = lst a ++ r := by
  unfold preB
  rw [List.isPrefixOf_iff_prefix]
  exact ⟨fun ⟨r, h⟩ => ⟨r, h.symm⟩, fun ⟨r, h⟩ => ⟨r, h.symm⟩⟩
/-- A text's way. -/
theorem go_text {t s : ByteArray} {i k : Nat} (hi : i ≤ s.size) : goB ⟨1, t, []⟩ s i k = true ↔ k = i + t.size ∧ ∃ r, (lst s).drop i = lst t ++ r := by
  unfold goB
  simp only [show ¬ ((1 : Int) = 2) by decide, show ¬ ((1 : Int) = 3) by decide, show ¬ ((1 : Int) = 4) by decide, show ¬ ((1 : Int) = 5) by decide, if_false, Bool.and_eq_true, pre_iff, decide_eq_true_eq]
  exact ⟨fun ⟨a, b⟩ => ⟨b, a⟩, fun ⟨a, b⟩ => ⟨b, a⟩⟩
theorem go_alts {al : List ByteArray} {s : ByteArray} {i k : Nat} : goB ⟨5, ByteArray.empty, al⟩ s i k = true ↔ ∃ a ∈ al, k = i + a.size ∧ ∃ r, (lst s).drop i = lst a ++ r := by
  unfold goB
  simp only [show ¬ ((5 : Int) = 2) by decide, show ¬ ((5 : Int) = 3) by decide, show ¬ ((5 : Int) = 4) by decide, if_false, if_true, List.any_eq_true, Bool.and_eq_true, pre_iff, decide_eq_true_eq]
  exact ⟨fun ⟨a, h, b, c⟩ => ⟨a, h, c, b⟩, fun ⟨a, h, b, c⟩ => ⟨a, h, c, b⟩⟩
theorem path_texts {s : ByteArray} (ts : List ByteArray) : ∀ i, i ≤ s.size → (Path s (ts.map fun t => ⟨1, t, []⟩) i s.size ↔ (lst s).drop i = (ts.map lst).flatten) := by
  induction ts with
  | nil =>
    intro i hi
    simp only [List.map_nil, List.flatten_nil, Path]
    constructor
    · intro h; rw [h]; exact List.drop_eq_nil_of_le (by rw [lst_len]; exact Nat.le_refl _)
    · intro h; have := congrArg List.length h; rw [List.length_drop, lst_len] at this; simp at this; omega
  | cons t ts ih =>
    intro i hi
    simp only [List.map_cons, List.flatten_cons, Path]
    constructor
    · rintro ⟨k, hk, h, p⟩
      obtain ⟨rfl, r, e⟩ := (go_text hi).1 h
      have h2 := (ih _ hk).1 p
      rw [← List.drop_drop, e, ← lst_len, List.drop_left] at h2
      rw [e, h2]
    · intro h
      have hl := congrArg List.length h
      rw [List.length_drop, lst_len, List.length_append, lst_len] at hl
      have hk : i + t.size ≤ s.size := by omega
      refine ⟨i + t.size, hk, (go_text hi).2 ⟨rfl, _, h⟩, (ih _ hk).2 ?_⟩
      rw [← List.drop_drop, h, ← lst_len, List.drop_left]
theorem mNode_one (t s : ByteArray) : mNode [⟨1, t, []⟩] s = decide (s = t) := by
  rw [Bool.eq_iff_iff, mNode_path, decide_eq_true_eq]
  have := path_texts (s := s) [t] 0 (Nat.zero_le _)
  simp only [List.map_cons, List.map_nil, List.flatten_cons, List.flatten_nil, List.append_nil, List.drop_zero] at this
  rw [this]
  exact ⟨fun h => lst_inj h, fun h => by rw [h]⟩
theorem mNode_any (t s : ByteArray) : mNode [⟨2, t, []⟩] s = true := by
  rw [mNode_path]
  exact ⟨s.size, Nat.le_refl _, by simp [goB], rfl⟩
theorem nodes_pos {s : ByteArray} (h : validN (lst s) = true) : 0 < (nodesL s).length := by
  have hc := congrArg List.length (nodesL_yes h)
  have hl := cutL_pos 46 (lst s) []
  rw [List.length_map] at hc; omega
theorem nodes_inj {s o : ByteArray} (h : validN (lst s) = true) (e : nodesL o = nodesL s) : o = s := by
  have hp := nodes_pos h
  cases ho : validN (lst o) with
  | false => rw [← e, nodesL_no ho] at hp; simp at hp
  | true =>
    have h1 := nodesL_yes h
    have h2 := nodesL_yes ho
    rw [e, h1] at h2
    have := congrArg jn h2
    rw [jn_cut, jn_cut] at this
    exact lst_inj (by simpa using this.symm)
/-- P3.5: it has just this name. -/
theorem mat_name {s : ByteArray} (h : validN (lst s) = true) (o : ByteArray) : matB (oneP (nodesL s)) o = decide (s = o) := by
  unfold matB
  rw [oneP_may h, Bool.true_and, Bool.eq_iff_iff, Bool.and_eq_true, decide_eq_true_eq, decide_eq_true_eq, List.all_eq_true]
  have hlen : (oneP (nodesL s)).length = (nodesL s).length := by simp [oneP]
  rw [hlen]
  constructor
  · rintro ⟨h1, h2⟩
    refine (nodes_inj h (List.ext_getElem h1 fun i hi hi2 => ?_)).symm
    have := h2 i (List.mem_range.2 hi2)
    have e1 : (oneP (nodesL s)).getD i [] = [⟨1, (nodesL s)[i], []⟩] := by
      rw [List.getD_eq_getElem?_getD, List.getElem?_eq_getElem (by rw [hlen]; exact hi2)]; simp [oneP]
    have e2 : (nodesL o).getD i ⟨#[]⟩ = (nodesL o)[i] := by rw [List.getD_eq_getElem?_getD, List.getElem?_eq_getElem hi]; rfl
    rw [e1, e2, mNode_one] at this
    exact of_decide_eq_true this
  · rintro rfl
    refine ⟨rfl, fun i hi => ?_⟩
    have hi2 := List.mem_range.1 hi
    have e1 : (oneP (nodesL s)).getD i [] = [⟨1, (nodesL s)[i], []⟩] := by
      rw [List.getD_eq_getElem?_getD, List.getElem?_eq_getElem (by rw [hlen]; exact hi2)]; simp [oneP]
    have e2 : (nodesL s).getD i ⟨#[]⟩ = (nodesL s)[i] := by rw [List.getD_eq_getElem?_getD, List.getElem?_eq_getElem hi2]; rfl
    rw [e1, e2, mNode_one]
    exact decide_eq_true rfl
/-- As many stars. -/
def starP (n : Nat) : List (List Gl) := List.replicate n [⟨2, ByteArray.empty, []⟩]
theorem starP_text (n : Nat) (h : 0 < n) : patT (starP (n + 1)) = patT (starP n) ++ [46, 42] := by
  unfold starP
  rw [List.replicate_succ', patT_more _ _ (by intro e; have := congrArg List.length e; simp at this; omega)]
  simp [nodeT, globT_2]
theorem starP_one : patT (starP 1) = [42] := by simp [starP, patT, nodeT, globT_2]
theorem starP_len (n : Nat) (h : 0 < n) : (patT (starP n)).length = 2 * n - 1 := by
  induction n with
  | zero => omega
  | succ n ih =>
    by_cases z : n = 0
    · subst z; rw [starP_one]; rfl
    · rw [starP_text n (by omega), List.length_append, ih (by omega)]; simp; omega
theorem starP_may (n : Nat) (h1 : 1 ≤ n) (h2 : n ≤ 16) : mayB (starP n) = true := by
  unfold mayB starP
  simp only [List.length_replicate, Bool.and_eq_true, decide_eq_true_eq]
  refine ⟨⟨h1, h2⟩, ?_⟩
  rw [List.all_eq_true]
  intro gs hgs
  rw [(List.mem_replicate.1 hgs).2]
  rfl
theorem mat_stars (n : Nat) (h1 : 1 ≤ n) (h2 : n ≤ 16) (o : ByteArray) : matB (starP n) o = decide ((nodesL o).length = n) := by
  unfold matB
  rw [starP_may n h1 h2, Bool.true_and]
  have : (List.range (starP n).length).all (fun i => mNode ((starP n).getD i []) ((nodesL o).getD i ⟨#[]⟩)) = true := by
    rw [List.all_eq_true]
    intro i hi
    have hi := List.mem_range.1 hi
    have hl : (starP n).length = n := by simp [starP]
    have e : (starP n).getD i [] = [⟨2, ByteArray.empty, []⟩] := by
      rw [List.getD_eq_getElem?_getD, List.getElem?_eq_getElem hi]; simp [starP]
    rw [e]; exact mNode_any _ _
  rw [this, Bool.and_true]
  simp [starP]
end Go.Proofs.YteahbdhhcfoiiaaDoor
/- name: a choice, plain. -/
namespace Go.Proofs.YteahbdhhcfoiiaaDoor
set_option linter.unusedVariables false
set_option linter.unusedSimpArgs false
theorem lst_app3 (a b : ByteArray) : lst (a ++ b) = lst a ++ lst b := by simp [lst]
def txG (b : ByteArray) : List Gl := if b.size = 0 then [] else [⟨1, b, []⟩]
def chG (b : ByteArray) (al : List ByteArray) (e : ByteArray) : List Gl := txG b ++ ⟨5, ByteArray.empty, al⟩ :: txG e
theorem txG_text (b : ByteArray) : nodeT (txG b) = lst b := by
  unfold txG
  split
  · rename_i h
    rw [show lst b = [] from List.eq_nil_of_length_eq_zero (by rw [lst_len]; exact h)]; rfl
  · simp [nodeT, globT_1]
theorem chG_text (b : ByteArray) (al : List ByteArray) (e : ByteArray) : patT [chG b al e] = lst b ++ 123 :: (altsT al ++ 125 :: lst e) := by
  have h1 := txG_text b
  have h2 := txG_text e
  simp only [patT, chG]
  unfold nodeT at h1 h2 ⊢
  rw [List.flatMap_append, h1, List.flatMap_cons, h2, globT_5 rfl]
  simp
theorem bytes_nil {b : ByteArray} (h : b.size = 0) : bytesB b = true := by
  unfold bytesB
  rw [show lst b = [] from List.eq_nil_of_length_eq_zero (by rw [lst_len]; exact h)]; rfl
theorem stand_tx {b : ByteArray} (h : bytesB b = true) (h0 : b.size ≠ 0) : standB ⟨1, b, []⟩ = true := stand_mk1 h0 h
theorem stand_ch {al : List ByteArray} (ha : ∀ a ∈ al, bytesB a = true) (h1 : al ≠ []) (h2 : al.length ≤ 16) : standB ⟨5, ByteArray.empty, al⟩ = true := by
  unfold standB
  rw [if_neg (by simp), if_neg (by simp), if_neg (by simp), if_pos rfl]
  unfold chooseB
  simp only [Bool.and_eq_true, decide_eq_true_eq]
  exact ⟨rfl, List.all_eq_true.2 ha, List.length_pos_iff.2 h1, h2⟩
theorem chG_may {b e : ByteArray} {al : List ByteArray} (hb : bytesB b = true) (he : bytesB e = true) (ha : ∀ a ∈ al, bytesB a = true) (h1 : al ≠ []) (h2 : al.length ≤ 16) : mayB [chG b al e] = true := by
  have sc := stand_ch ha h1 h2
  have ch : chainB (chG b al e) = true := by
    unfold chG txG
    split
    · split
      · exact sc
      · rename_i e0
        simp only [List.nil_append, chainB, sc, stand_tx he e0]; rfl
    · rename_i b0
      split
      · simp only [List.singleton_append, chainB, sc, stand_tx hb b0]; rfl
      · rename_i e0
        simp only [List.singleton_append, chainB, sc, stand_tx hb b0, stand_tx he e0]; rfl
  unfold mayB
  simp only [List.length_cons, List.length_nil, List.all_cons, List.all_nil, Bool.and_true]
  unfold nodeMay
  rw [chain_place, ch]
  simp [chG]
/-- A text that stands at a place, or none. -/
theorem path_tx {s b : ByteArray} {r : List Gl} {i j : Nat} (hi : i ≤ s.size) :
    Path s (txG b ++ r) i j ↔ (∃ m, (lst s).drop i = lst b ++ m) ∧ Path s r (i + b.size) j := by
  unfold txG
  split
  · rename_i h
    rw [List.nil_append, h, Nat.add_zero]
    refine ⟨fun p => ⟨⟨_, by rw [show lst b = [] from List.eq_nil_of_length_eq_zero (by rw [lst_len]; exact h)]; rfl⟩, p⟩, fun p => p.2⟩
  · simp only [List.singleton_append, Path]
    constructor
    · rintro ⟨k, hk, g, p⟩
      obtain ⟨rfl, m, e⟩ := (go_text hi).1 g
      exact ⟨⟨m, e⟩, p⟩
    · rintro ⟨⟨m, e⟩, p⟩
      have hl := congrArg List.length e
      rw [List.length_drop, lst_len, List.length_append, lst_len] at hl
      exact ⟨i + b.size, by omega, (go_text hi).2 ⟨rfl, m, e⟩, p⟩
theorem drop_app {s b : ByteArray} {i : Nat} {m : List UInt8} (e : (lst s).drop i = lst b ++ m) : (lst s).drop (i + b.size) = m := by
  rw [← List.drop_drop, e, ← lst_len, List.drop_left]
theorem chG_path (b : ByteArray) (al : List ByteArray) (e s : ByteArray) : mNode (chG b al e) s = true ↔ ∃ a ∈ al, s = b ++ a ++ e := by
  rw [mNode_path]
  unfold chG
  rw [path_tx (Nat.zero_le _)]
  simp only [List.drop_zero, Nat.zero_add, Path]
  constructor
  · rintro ⟨⟨m, hm⟩, k, hk, g, p⟩
    obtain ⟨a, ha, rfl, r, hr⟩ := go_alts.1 g
    have d1 : (lst s).drop b.size = m := by have := drop_app (i := 0) (by simpa using hm); simpa using this
    have d2 := drop_app hr
    have p2 : Path s (txG e ++ []) (b.size + a.size) s.size := by simpa using p
    rw [path_tx hk] at p2
    obtain ⟨⟨q, hq⟩, fin⟩ := p2
    simp only [Path] at fin
    have hl := congrArg List.length hq
    rw [List.length_drop, lst_len, List.length_append, lst_len] at hl
    have : q = [] := List.eq_nil_of_length_eq_zero (by omega)
    subst this
    have e1 : m = lst a ++ r := d1.symm.trans hr
    have e2 : r = lst e ++ [] := d2.symm.trans hq
    have e3 : lst s = lst (b ++ a ++ e) := by rw [lst_app3, lst_app3, hm, e1, e2]; simp
    exact ⟨a, ha, lst_inj e3⟩
  · rintro ⟨a, ha, rfl⟩
    have sz : (b ++ a ++ e).size = b.size + a.size + e.size := by simp only [ByteArray.size_append]
    have l : lst (b ++ a ++ e) = lst b ++ (lst a ++ lst e) := by rw [lst_app3, lst_app3, List.append_assoc]
    have d1 : (lst (b ++ a ++ e)).drop b.size = lst a ++ lst e := by rw [l, ← lst_len, List.drop_left]
    have d2 := drop_app d1
    refine ⟨⟨_, l⟩, b.size + a.size, by omega, go_alts.2 ⟨a, ha, rfl, _, d1⟩, ?_⟩
    have p2 : Path (b ++ a ++ e) (txG e ++ []) (b.size + a.size) (b ++ a ++ e).size := by
      rw [path_tx (by omega)]
      exact ⟨⟨[], by rw [d2]; simp⟩, by simp only [Path]; omega⟩
    simpa using p2
/-- One node: the name is it. -/
theorem mat_one (gs : List Gl) (o : ByteArray) : matB [gs] o = (decide ((nodesL o).length = 1) && (mayB [gs] && mNode gs o)) := by
  unfold matB
  by_cases h : (nodesL o).length = 1
  · have e : nodesL o = [o] := by
      cases ho : validN (lst o) with
      | false => rw [nodesL_no ho] at h; simp at h
      | true =>
        have h2 := nodesL_yes ho
        obtain ⟨x, hx⟩ : ∃ x, nodesL o = [x] := by
          match nodesL o, h with
          | [x], _ => exact ⟨x, rfl⟩
        have := congrArg jn h2
        rw [jn_cut, hx] at this
        have e4 : x = o := lst_inj (by simpa [jn] using this)
        rw [hx, e4]
    rw [e]
    simp
  · simp [h]
/-- What a text alone matches. -/
def compOne (x o : ByteArray) : Bool := match (compA x).2 with
  | .error _ => false
  | .ok p => matB p o
theorem comp_text {x : ByteArray} (h : bytesB x = true) (h0 : x.size ≠ 0) (hl : x.size ≤ 400) : compA x = (0, .ok [[⟨1, x, []⟩]]) := by
  have may : mayB [[⟨1, x, []⟩]] = true := by
    unfold mayB
    simp only [List.length_cons, List.length_nil, List.all_cons, List.all_nil, Bool.and_true]
    rw [nodeMay_one, nodeB_eq, h, decide_eq_true h0]; rfl
  have tx : patT [[⟨1, x, []⟩]] = lst x := by simp [patT, nodeT, globT_1]
  have := comp_back _ may (by rw [tx, lst_len]; exact hl)
  rw [tx, show (⟨(lst x).toArray⟩ : ByteArray) = x from lst_inj (lst_mk (lst x))] at this
  exact this
theorem compOne_text {x : ByteArray} (h : bytesB x = true) (hl : x.size ≤ 400) (o : ByteArray) : compOne x o = (decide ((nodesL o).length = 1) && decide (o = x)) := by
  by_cases h0 : x.size = 0
  · have e : x = ByteArray.empty := size_nil h0
    subst e
    have c : compOne ByteArray.empty o = false := rfl
    rw [c, eq_comm, Bool.and_eq_false_iff, decide_eq_false_iff_not, decide_eq_false_iff_not]
    by_cases q : o = ByteArray.empty
    · left
      subst q
      intro z
      have : nodesL ByteArray.empty = [] := nodesL_no (by rfl)
      rw [this] at z; simp at z
    · exact .inr q
  · unfold compOne
    rw [comp_text h h0 hl]
    simp only
    rw [mat_one]
    have may : mayB [[⟨1, x, []⟩]] = true := by
      unfold mayB
      simp only [List.length_cons, List.length_nil, List.all_cons, List.all_nil, Bool.and_true]
      rw [nodeMay_one, nodeB_eq, h, decide_eq_true h0]; rfl
    rw [may, mNode_one, Bool.true_and]
theorem alts_mem : ∀ (al : List ByteArray) (a : ByteArray), a ∈ al → a.size ≤ (altsT al).length
  | [x], a, h => by rw [List.mem_singleton.1 h]; simp [altsT, lst_len]
  | x :: y :: r, a, h => by
    rcases List.mem_cons.1 h with rfl | h
    · simp [altsT, lst_len]
    · have := alts_mem (y :: r) a h
      simp only [altsT, List.length_append, List.length_cons]; omega
/-- P3.5: a choice matches just where one of its texts in its place does. -/
theorem choice_law {b e : ByteArray} {al : List ByteArray} (hb : bytesB b = true) (he : bytesB e = true) (ha : ∀ a ∈ al, bytesB a = true) (h1 : al ≠ []) (h2 : al.length ≤ 16) (hl : (patT [chG b al e]).length ≤ 400) (o : ByteArray) :
    matB [chG b al e] o = al.any fun a => compOne (b ++ a ++ e) o := by
  rw [mat_one, chG_may hb he ha h1 h2, Bool.true_and]
  have each : ∀ a ∈ al, compOne (b ++ a ++ e) o = (decide ((nodesL o).length = 1) && decide (o = b ++ a ++ e)) := fun a h => by
    refine compOne_text ?_ ?_ o
    · unfold bytesB at hb he ⊢
      have := ha a h
      unfold bytesB at this
      rw [lst_app3, lst_app3, List.all_append, List.all_append, hb, he, this]; rfl
    · rw [chG_text] at hl
      have := alts_mem al a h
      simp only [List.length_append, List.length_cons, lst_len] at hl
      simp only [ByteArray.size_append]; omega
  rw [Bool.eq_iff_iff, Bool.and_eq_true, chG_path, decide_eq_true_eq, List.any_eq_true]
  constructor
  · rintro ⟨n1, a, h, q⟩
    exact ⟨a, h, by rw [each a h, decide_eq_true n1, decide_eq_true q]; rfl⟩
  · rintro ⟨a, h, q⟩
    rw [each a h, Bool.and_eq_true, decide_eq_true_eq, decide_eq_true_eq] at q
    exact ⟨q.1, a, h, q.2⟩
theorem comp_choice {b e : ByteArray} {al : List ByteArray} (hb : bytesB b = true) (he : bytesB e = true) (ha : ∀ a ∈ al, bytesB a = true) (h1 : al ≠ []) (h2 : al.length ≤ 16) (x : ByteArray) (hx : lst x = lst b ++ 123 :: (altsT al ++ 125 :: lst e)) :
    compA x = if 400 < x.size then (400, .error 2) else (0, .ok [chG b al e]) := by
  split
  · rename_i h; unfold compA; rw [if_pos h]
  · rename_i h
    have tx := chG_text b al e
    have := comp_back _ (chG_may hb he ha h1 h2) (by rw [tx, ← hx, lst_len]; omega)
    rw [tx, ← hx, show (⟨(lst x).toArray⟩ : ByteArray) = x from lst_inj (lst_mk (lst x))] at this
    exact this
theorem compOne_code {x : ByteArray} {j : Nat} {r : Except Int (List (List Gl))} (h : compA x = (j, r)) (o : ByteArray) : compOne x o = match (generalizing := false) r with | .error _ => false | .ok p => matB p o := by
  unfold compOne; rw [h]
end Go.Proofs.YteahbdhhcfoiiaaDoor
/- name: how long what is read can be; the reference's Same for equal patterns. -/
namespace Go.Proofs.YteahbdhhcfoiiaaDoor
set_option linter.unusedVariables false
set_option linter.unusedSimpArgs false
open Go.RowKit W
theorem choice_fit {s : ByteArray} {f i j : Nat} {acc l : List ByteArray} (h : choiceA s f i acc = (j, .ok l)) (ha : acc.length ≤ 15) : l.length ≤ 16 := by
  induction f generalizing i acc with
  | zero => cases h
  | succ f ih =>
    unfold choiceA at h
    simp only at h
    split at h
    · cases h; simp; omega
    · split at h
      · split at h
        · cases h
        · rename_i q; exact ih h (by simp at q ⊢; omega)
      · cases h
theorem piece_fit {s : ByteArray} {i j : Nat} {g : Gl} (h : pieceA s i = (j, .ok g)) : g.al.length ≤ 16 := by
  unfold pieceA at h
  simp only at h
  split at h
  · cases h; simp
  split at h
  · cases h; simp
  split at h
  · split at h
    · cases h
    · cases h; simp
  split at h
  · split at h
    · cases h
    · rename_i e; cases h; exact choice_fit e (by simp)
  split at h
  · cases h
  · cases h; simp
theorem node_fit {s : ByteArray} {f i j : Nat} {acc l : List Gl} (h : nodeA s f i acc = (j, .ok l)) (ha : ∀ g ∈ acc, g.al.length ≤ 16) : l.length + i ≤ acc.length + j ∧ ∀ g ∈ l, g.al.length ≤ 16 := by
  induction f generalizing i acc with
  | zero => cases h
  | succ f ih =>
    unfold nodeA at h
    split at h
    · split at h
      · cases h
      · rename_i k g e
        have gt := piece_gt e
        have := ih h (by
          intro x hx
          rcases List.mem_append.1 hx with hx | hx
          · exact ha x hx
          · rw [List.mem_singleton] at hx; subst hx; exact piece_fit e)
        refine ⟨?_, this.2⟩
        have := this.1
        simp at this
        omega
    · split at h
      · cases h
      · cases h; exact ⟨Nat.le_refl _, ha⟩
structure PtF (p : List (List Gl)) : Prop where
  n : p.length ≤ 16
  m : ∀ l ∈ p, l.length ≤ 400
  a : ∀ l ∈ p, ∀ g ∈ l, g.al.length ≤ 16
theorem pat_fit {s : ByteArray} (hs : s.size ≤ 400) {f i j : Nat} {acc p : List (List Gl)} (h : patA s f i acc = (j, .ok p)) (hi : i ≤ s.size) (hn : acc.length ≤ 15) (ha : PtF acc) : PtF p := by
  induction f generalizing i acc with
  | zero => cases h
  | succ f ih =>
    unfold patA at h
    split at h
    · cases h
    · rename_i k nd e
      have le := node_le (s := s) (f := s.size + 1) (acc := []) hi
      rw [e] at le
      have nf := node_fit e (by simp)
      have A : PtF (acc ++ [nd]) := ⟨by simp; omega, fun l hl => by
        rcases List.mem_append.1 hl with hl | hl
        · exact ha.m l hl
        · rw [List.mem_singleton] at hl; subst hl; have := nf.1; simp at this; simp at le; omega, fun l hl => by
        rcases List.mem_append.1 hl with hl | hl
        · exact ha.a l hl
        · rw [List.mem_singleton] at hl; subst hl; exact nf.2⟩
      split at h
      · cases h
      · rename_i q
        split at h
        · cases h; exact A
        · rename_i z
          simp at le
          exact ih h (by omega) (by simp; simp at q; have := q (by omega); omega) A
theorem comp_fit {s : ByteArray} {j : Nat} {p : List (List Gl)} (h : compA s = (j, .ok p)) : PtF p := by
  unfold compA at h
  split at h
  · cases h
  · exact pat_fit (by omega) h (by omega) (by simp) ⟨by simp, by simp, by simp⟩
/-- Two patterns' boxes, and the world behind them. -/
structure Kq (w : World) (a b : Option Addr) (n c d : Nat) (w' : World) : Prop where
  c0 : w'.cell? ⟨w.heap.size, 0, none⟩ = some (.slice a n c)
  c1 : w'.cell? ⟨w.heap.size + 1, 0, none⟩ = some (.slice b n d)
  below : Below w.heap.size w w'
  lt : w.heap.size + 1 < w'.heap.size
theorem Kq.later {w : World} {a b : Option Addr} {n c d : Nat} {X Y : World} (h : Kq w a b n c d X) (u : Below X.heap.size X Y) : Kq w a b n c d Y :=
  ⟨(u.cell (p := ⟨w.heap.size, 0, none⟩) (by have := h.lt; show w.heap.size < _; omega)).trans h.c0, (u.cell (p := ⟨w.heap.size + 1, 0, none⟩) h.lt).trans h.c1, h.below.trans (u.mono h.below.size), Nat.lt_of_lt_of_le h.lt u.size⟩
set_option maxRecDepth 100000 in
set_option maxHeartbeats 16000000 in
theorem rsame_spec (p : List (List Gl)) (pf : PtF p) (a b : Option Addr) (c d : Nat) (w : World) (ha : IsPt w a p) (hb : IsPt w b p) :
    Calls Tryd.prog 27 #[.agg #[.slice a p.length c], .agg #[.slice b p.length d]] w fun e w' => e = .returned (.bool true) ∧ Below w.heap.size w w' := by
  have HA := hide ha
  have HB := hide hb
  have PF := hide pf
  have pn := pf.n
  obtain ⟨n, hn⟩ : ∃ n, n = p.length := ⟨_, rfl⟩
  have HN := hide hn
  rw [← hn] at pn ⊢
  clear ha hb pf hn
  go_enter Tryd.func27, Tryd.ntmps27
  go_wp2_with fail
  go_loopw [5] (fun i wr => ∃ k : Nat, k ≤ n ∧ i = .int .i64 (k : Int) ∧ Hid (Kq w a b n c d wr)) (fun i _ => n - (intOf i).toNat)
  case atStart => exact ⟨0, by omega, rfl, hide ⟨by simp [go_sem], by simp [go_sem], by go_grown, by simp⟩⟩
  case round =>
    obtain ⟨k, hk, rfl, K⟩ := hrel
    have k0 := K.out.c0
    have k1 := K.out.c1
    by_cases hlt : k < n
    · have kp : k < p.length := by have := HN.out; omega
      obtain ⟨g1, o1, rfl, L1⟩ := HA.out.resolve_left (by intro e; rw [e] at kp; simp at kp)
      obtain ⟨g2, o2, rfl, L2⟩ := HB.out.resolve_left (by intro e; rw [e] at kp; simp at kp)
      obtain ⟨b1, c1, n1, i1, _⟩ := (L1.later K.out.below).cell k kp
      obtain ⟨b2, c2, n2, i2, _⟩ := (L2.later K.out.below).cell k kp
      have I1 := hide i1
      have I2 := hide i2
      have gm := PF.out.m p[k] (List.getElem_mem _)
      have GA := hide (PF.out.a p[k] (List.getElem_mem _))
      have L1H := hide (L1.later K.out.below)
      have L2H := hide (L2.later K.out.below)
      obtain ⟨gs, hgs⟩ : ∃ gs, gs = p[k] := ⟨_, rfl⟩
      rw [← hgs] at n1 n2 gm GA I1 I2
      obtain ⟨m, hm⟩ : ∃ m, m = gs.length := ⟨_, rfl⟩
      have HM := hide hm
      rw [← hm] at n1 n2 gm
      have N1 := hide n1
      have N2 := hide n2
      have lt1 := L1H.out.lt
      have lt2 := L2H.out.lt
      obtain ⟨wo, rfl⟩ : ∃ wo, wo = wr := ⟨_, rfl⟩
      clear hgs hm i1 i2 L1 L2
      go_wp2_with fail
      go_quiet (fail)
      go_wp2_with fail
      clear n1 n2 k0 k1
      go_loopw [6] (fun i w2 => ∃ q : Nat, q ≤ m ∧ i = .int .i64 (q : Int) ∧ Hid (Below wo.heap.size wo w2)) (fun i _ => m - (intOf i).toNat)
      case atStart => exact ⟨0, by omega, rfl, hide (below_drewN (Below.refl _ _) _)⟩
      case round =>
        obtain ⟨q, hq, rfl, B⟩ := hrel
        have K2 := hide (K.out.later B.out)
        have k0 := K2.out.c0
        have k1 := K2.out.c1
        have n1 := (B.out.cell (p := ⟨g1, o1 + k, none⟩) lt1).trans N1.out
        have n2 := (B.out.cell (p := ⟨g2, o2 + k, none⟩) lt2).trans N2.out
        have zb := B.out.size
        by_cases hql : q < m
        · have qg : q < gs.length := by have := HM.out; omega
          obtain ⟨h1, r1, rfl, J1⟩ := I1.out.resolve_left (by intro e; rw [e] at qg; simp at qg)
          obtain ⟨h2, r2, rfl, J2⟩ := I2.out.resolve_left (by intro e; rw [e] at qg; simp at qg)
          obtain ⟨x0, x1, bx, cx, x2, tx, _⟩ := (J1.later B.out).cell q qg
          obtain ⟨y0, y1, by_, cy, y2, ty, _⟩ := (J2.later B.out).cell q qg
          have TX := hide tx
          have TY := hide ty
          have al := GA.out gs[q] (List.getElem_mem _)
          obtain ⟨x, hx⟩ : ∃ x, x = gs[q] := ⟨_, rfl⟩
          rw [← hx] at x0 x1 x2 y0 y1 y2 TX TY al
          have kl := K2.out.lt
          have kl0 : w.heap.size < wr.heap.size := by omega
          have g1l : g1 < wr.heap.size := by omega
          have g2l : g2 < wr.heap.size := by omega
          have h1l := (J1.later B.out).lt
          have h2l := (J2.later B.out).lt
          have kst := fun W (u : Below wr.heap.size wr W) => same_texts x.al bx by_ cx cy W (TX.out.later u) (TY.out.later u) (by omega)
          have sn := str_neq_same x.t
          clear hx tx ty J1 J2
          go_upto_region 11 with (fail)
          go_cut [7, 8] from 46 to 81 (fun s7 s8 wx => ∃ X Y : Nat, s7 = .pointer (some ⟨X, 0, none⟩) ∧ s8 = .pointer (some ⟨Y, 0, none⟩) ∧ wx.cell? ⟨X, 0, none⟩ = some (.int .i64 x.k) ∧ wx.cell? ⟨X, 1, none⟩ = some (.string x.t) ∧ wx.cell? ⟨X, 2, none⟩ = some (.slice bx x.al.length cx) ∧ wx.cell? ⟨Y, 0, none⟩ = some (.int .i64 x.k) ∧ wx.cell? ⟨Y, 1, none⟩ = some (.string x.t) ∧ wx.cell? ⟨Y, 2, none⟩ = some (.slice by_ x.al.length cy) ∧ Hid (Below wr.heap.size wr wx))
          case first =>
            go_region
            all_goals
              go_wp2_with fail
              go_meet
              case rel => exact ⟨_, _, rfl, rfl, by simp [go_sem], by simp [go_sem], by simp [go_sem], by simp [go_sem], by simp [go_sem], by simp [go_sem], hide (by go_grown)⟩
          case rest =>
            obtain ⟨X, Y, rfl, rfl, u0, u1, u2, v0, v1, v2, B5⟩ := hcut
            have ks5 := kst _ B5.out
            clear x0 x1 x2 y0 y1 y2 n1 n2 k0 k1 kst
            go_wp2_with (go_at_call 19; refine Calls.mono ks5 ?_; rintro e w5 ⟨rfl, n5, rfl⟩)
            go_roundw
            case rel => exact ⟨q + 1, by omega, by go_num, hide (below_drewN (B.out.trans (B5.out.mono zb)) _)⟩
            case measure => simp [intOf]; omega
        · obtain rfl : q = m := by omega
          go_wp2_with fail
          go_roundw
          case rel => exact ⟨k + 1, by omega, by go_num, K2⟩
          case measure => simp [intOf]; omega
    · obtain rfl : k = n := by omega
      go_wp2_with fail
      go_returns
      exact ⟨rfl, K.out.below⟩
end Go.Proofs.YteahbdhhcfoiiaaDoor
/- NameBack: the law's walk. -/
namespace Go.Proofs.YteahbdhhcfoiiaaDoor
set_option linter.unusedVariables false
set_option linter.unusedSimpArgs false
open Go.RowKit W
theorem comp_codes {s : ByteArray} {j : Nat} {c : Int} (h : compA s = (j, .error c)) : c = 31 ∨ c = 3 ∨ c = 2 := by
  unfold compA at h
  split at h
  · cases h; exact .inr (.inr rfl)
  · have aux : ∀ f i acc, patA s f i acc = (j, .error c) → c = 31 ∨ c = 3 := by
      intro f
      induction f with
      | zero => intro i acc h; cases h; exact .inl rfl
      | succ f ih =>
        intro i acc h
        unfold patA at h
        split at h
        · rename_i e; cases h; exact node_err e
        · split at h
          · cases h; exact .inr rfl
          · split at h
            · cases h
            · exact ih _ _ h
    rcases aux _ _ _ h with e | e
    · exact .inl e
    · exact .inr (.inl e)
structure Two (w0 : World) (b1 : Nat) (v1 : Value) (b2 : Nat) (v2 : Value) (w' : World) : Prop where
  c1 : w'.cell? ⟨b1, 0, none⟩ = some v1
  c2 : w'.cell? ⟨b2, 0, none⟩ = some v2
  below : Below w0.heap.size w0 w'
  l1 : b1 < w0.heap.size
  l2 : b2 < w0.heap.size
theorem Two.call {w0 X Y : World} {b1 b2 : Nat} {v1 v2 : Value} (h : Two w0 b1 v1 b2 v2 X) (b : Below X.heap.size X Y) : Two w0 b1 v1 b2 v2 Y :=
  ⟨(b.cell (p := ⟨b1, 0, none⟩) (Nat.lt_of_lt_of_le h.l1 h.below.size)).trans h.c1, (b.cell (p := ⟨b2, 0, none⟩) (Nat.lt_of_lt_of_le h.l2 h.below.size)).trans h.c2, h.below.trans (b.mono h.below.size), h.l1, h.l2⟩
theorem Two.drew {w0 X : World} {b1 b2 : Nat} {v1 v2 : Value} (h : Two w0 b1 v1 b2 v2 X) : Two w0 b1 v1 b2 v2 X.drew := ⟨h.c1, h.c2, h.below.drew, h.l1, h.l2⟩
set_option maxRecDepth 100000 in
set_option maxHeartbeats 8000000 in
theorem law_NameBack (s n : ByteArray) (hs : s.size ≤ 140737488351232) (hn : n.size ≤ 140737488351232) (W : World) (hsh : W.ShapedOpen Tryd.prog) :
    Calls Tryd.prog 9 #[.string s, .string n] W fun e w' => e = .returned (.bool true) ∧ Below W.heap.size W w' := by
  obtain ⟨mx, gm⟩ := gm_at hsh
  have GMH := hide gm
  have kal := alive_spec mx W gm
  have kc := fun w => comp_spec s w
  obtain ⟨⟨j, r⟩, hr⟩ : ∃ q, compA s = q := ⟨_, rfl⟩
  rw [hr] at kc
  have HR := hide hr
  unfold CompRes at kc
  clear hsh gm hr
  cases r with
  | error c =>
    have cc := comp_codes HR.out
    have c0 : (c != 0) = true := by rw [bne_iff_ne]; omega
    simp only at kc
    have pw0 : PtW [] := ⟨by simp, by simp, by simp⟩
    have kt := fun w => ptext_spec [] pw0 (by simp [patW]) none 0 w (.inl rfl)
    have tA : textA [] = (⟨#[]⟩, 31) := rfl
    rw [tA] at kt
    have km := fun w g => match_spec [] pw0 n mx none 0 w (.inl rfl) g
    have mA : matB [] n = false := by unfold matB; simp [mayB]
    rw [mA] at km
    simp only [List.length_nil] at kt km
    clear cc tA mA
    go_enter Tryd.func9, Tryd.ntmps9
    go_wp2_with fail
    refine Calls.mono kal ?_
    rintro e w1 ⟨rfl, b1⟩
    have B1 := hide b1
    clear b1 kal
    go_wp2_with fail
    refine Calls.mono (kc _) ?_
    rintro e w2 ⟨b2, rfl⟩
    have B2 := hide (B1.out.trans (b2.mono B1.out.size))
    clear b2 kc
    go_wp2_with fail
    have B3 : Hid (Below W.heap.size W (w2.alloc (.cells #[.slice none 0 0] 33))) := B2.out.alloc B2.out.size _
    refine Calls.mono (kt _) ?_
    rintro e w4 ⟨rfl, b4⟩
    have c4 : w4.cell? ⟨w2.heap.size, 0, none⟩ = some (.slice none 0 0) := (b4.cell (p := ⟨w2.heap.size, 0, none⟩) (by simp)).trans (by simp [go_sem])
    have B4 := hide (B3.out.trans (b4.mono B3.out.size))
    clear b4 kt
    go_wp2_with fail
    refine Calls.mono (km _ (GMH.out.later B4.out)) ?_
    rintro e w5 ⟨rfl, b5⟩
    have B5 := hide (B4.out.trans (b5.mono B4.out.size))
    clear b5 km
    go_wp2_with fail
    go_returns
    exact ⟨rfl, B5.out⟩
  | ok p =>
    obtain ⟨may, pl, sl, _⟩ := comp_may HR.out
    have pwt : patW p ≤ 52400 := by have := patW_may may; omega
    have pw := ptw_of (p := p) (by omega)
    have pf := comp_fit HR.out
    have bk := comp_back p may (by omega)
    have tA : textA p = (⟨(patT p).toArray⟩, 0) := by unfold textA; rw [may, if_pos rfl, if_pos (by omega)]
    have kt := fun a c w ha => ptext_spec p pw (by omega) a c w ha
    have kc2 := fun w => comp_spec ⟨(patT p).toArray⟩ w
    rw [bk] at kc2
    unfold CompRes at kc2
    rw [tA] at kt
    obtain ⟨t, ht⟩ : ∃ t, t = (⟨(patT p).toArray⟩ : ByteArray) := ⟨_, rfl⟩
    have ts : t.size ≤ s.size := by rw [ht]; show (patT p).toArray.size ≤ _; simpa using pl
    have tz : ((t.size : Int) ≤ (s.size : Int)) := by omega
    have dz : decide ((t.size : Int) ≤ (s.size : Int)) = true := decide_eq_true tz
    have dz2 : decide (t.size ≤ s.size) = true := decide_eq_true ts
    rw [← ht] at kt kc2
    simp only at kt kc kc2
    have km := fun a c w ha g => match_spec p pw n mx a c w ha g
    have ks := fun a b c d w ha hb => rsame_spec p pf a b c d w ha hb
    obtain ⟨v, hv⟩ : ∃ v, matB p n = v := ⟨_, rfl⟩
    rw [hv] at km
    have pn := pw.n
    obtain ⟨m, hm⟩ : ∃ m, m = p.length := ⟨_, rfl⟩
    rw [← hm] at kt kc kc2 km ks pn
    clear may pl pwt pf bk tA ht hv hm pw
    go_enter Tryd.func9, Tryd.ntmps9
    go_wp2_with fail
    refine Calls.mono kal ?_
    rintro e w1 ⟨rfl, b1⟩
    have B1 := hide b1
    clear b1 kal
    go_wp2_with fail
    refine Calls.mono (kc _) ?_
    rintro e w2 ⟨b2, a, c, rfl, ty, lc⟩
    have B2 := hide (B1.out.trans (b2.mono B1.out.size))
    have I2 := hide ty.is
    clear b2 kc ty
    go_wp2_with fail
    have U3 : Below w2.heap.size w2 (w2.alloc (.cells #[.slice a m c] 33)) := (Below.refl _ _).alloc (Nat.le_refl _) _
    have I3 := hide (I2.out.later U3)
    have B3 : Hid (Below W.heap.size W (w2.alloc (.cells #[.slice a m c] 33))) := B2.out.alloc B2.out.size _
    refine Calls.mono (kt a c _ I3.out) ?_
    rintro e w4 ⟨rfl, b4⟩
    have c4 : w4.cell? ⟨w2.heap.size, 0, none⟩ = some (.slice a m c) := (b4.cell (p := ⟨w2.heap.size, 0, none⟩) (by simp)).trans (by simp [go_sem])
    have l4 : w2.heap.size < w4.heap.size := Nat.lt_of_lt_of_le (by simp) b4.size
    have B4 := hide (B3.out.trans (b4.mono B3.out.size))
    have I4 := hide (I3.out.later b4)
    clear b4 U3
    go_wp2_with fail
    refine Calls.mono (kc2 _) ?_
    rintro e w5 ⟨b5, a2, c2, rfl, ty2, lc2⟩
    have c5 := (b5.cell (p := ⟨w2.heap.size, 0, none⟩) l4).trans c4
    have l5 : w2.heap.size < w5.heap.size := Nat.lt_of_lt_of_le l4 b5.size
    have B5 := hide (B4.out.trans (b5.mono B4.out.size))
    have I5 := hide (I4.out.later b5)
    have J5 := hide ty2.is
    clear b5 kc2 ty2 c4
    go_wp2_with fail
    have U6 : Below w5.heap.size w5 (w5.alloc (.cells #[.slice a2 m c2] 33)) := (Below.refl _ _).alloc (Nat.le_refl _) _
    have J6 := hide (J5.out.later U6)
    have I6 := hide (I5.out.later U6)
    have B6 : Hid (Below W.heap.size W (w5.alloc (.cells #[.slice a2 m c2] 33))) := B5.out.alloc B5.out.size _
    refine Calls.mono (kt a2 c2 _ J6.out) ?_
    rintro e w7 ⟨rfl, b7⟩
    have c7 : w7.cell? ⟨w5.heap.size, 0, none⟩ = some (.slice a2 m c2) := (b7.cell (p := ⟨w5.heap.size, 0, none⟩) (by simp)).trans (by simp [go_sem])
    have c6 : w7.cell? ⟨w2.heap.size, 0, none⟩ = some (.slice a m c) := (b7.cell (p := ⟨w2.heap.size, 0, none⟩) (by simp; omega)).trans ((U6.cell (p := ⟨w2.heap.size, 0, none⟩) l5).trans c5)
    have B7 := hide (B6.out.trans (b7.mono B6.out.size))
    have I7 := I6.out.later b7
    have J7 := J6.out.later b7
    have T0 : Two w7 w2.heap.size (.slice a m c) w5.heap.size (.slice a2 m c2) w7 := ⟨c6, c7, Below.refl _ _, Nat.lt_of_lt_of_le l5 (Nat.le_trans (by simp) b7.size), Nat.lt_of_lt_of_le (by simp) b7.size⟩
    have k1 := fun w' (h : Two w7 w2.heap.size (.slice a m c) w5.heap.size (.slice a2 m c2) w') => km a c w' (I7.later h.below) (GMH.out.later (B7.out.trans (h.below.mono B7.out.size)))
    have k2 := fun w' (h : Two w7 w2.heap.size (.slice a m c) w5.heap.size (.slice a2 m c2) w') => km a2 c2 w' (J7.later h.below) (GMH.out.later (B7.out.trans (h.below.mono B7.out.size)))
    have k3 := fun w' (h : Two w7 w2.heap.size (.slice a m c) w5.heap.size (.slice a2 m c2) w') => ks a a2 c c2 w' (I7.later h.below) (J7.later h.below)
    clear b7 kt km ks U6 c5 l4 l5 I7 J7 lc lc2
    go_wp2_with fail
    cases v
    all_goals
      go_region_held3 (fun w' => w'.cell? ⟨w2.heap.size, 0, none⟩ = some (.slice a m c) ∧ w'.cell? ⟨w5.heap.size, 0, none⟩ = some (.slice a2 m c2) ∧ Two w7 w2.heap.size (.slice a m c) w5.heap.size (.slice a2 m c2) w')
        ((refine (fun K => ⟨Two.c1 K, Two.c2 K, K⟩) (?_ : Two w7 w2.heap.size (.slice a m c) w5.heap.size (.slice a2 m c2) _); (first | assumption | exact T0.drew)))
        (first
        | (go_at_call 27; (with_reducible refine Calls.mono (k3 _ (by first | assumption | exact T0.drew)) ?_); rintro e w8 ⟨rfl, b8⟩; have T8 := Two.call (by first | assumption | exact T0.drew) b8; clear b8)
        | (go_at_call 30; (with_reducible refine Calls.mono (k1 _ (by first | assumption | exact T0.drew)) ?_); rintro e w9 ⟨rfl, b9⟩; have T9 := Two.call (by first | assumption | exact T0.drew) b9; clear b9)
        | (go_at_call 30; (with_reducible refine Calls.mono (k2 _ (by first | assumption | exact T0.drew)) ?_); rintro e w9 ⟨rfl, b9⟩; have T10 := Two.call (by first | assumption | exact T0.drew) b9; clear b9))
      all_goals
        go_wp2_with fail
        go_returns
        exact ⟨rfl, by first | exact B7.out.trans (T10.below.mono B7.out.size) | exact B7.out.trans (T9.below.mono B7.out.size)⟩
end Go.Proofs.YteahbdhhcfoiiaaDoor
/- NameChoice: the law's walk. -/
namespace Go.Proofs.YteahbdhhcfoiiaaDoor
set_option linter.unusedVariables false
set_option linter.unusedSimpArgs false
open Go.RowKit W
theorem any_snoc (l : List ByteArray) (f : ByteArray → Bool) (k : Nat) (h : k < l.length) : (l.take (k + 1)).any f = ((l.take k).any f || f l[k]) := by
  rw [List.take_succ_eq_append_getElem h, List.any_append]; simp
theorem altsT_one0 (l : List ByteArray) (k : Nat) (h : k < l.length) (h0 : k = 0) : altsT (l.take (k + 1)) = altsT (l.take k) ++ lst l[k] := by
  subst h0
  have := altsT_one l h
  rw [this]; simp [altsT]
set_option maxRecDepth 100000 in
set_option maxHeartbeats 8000000 in
theorem law_NameChoice (b : ByteArray) (a : Option Addr) (c : Nat) (l : List ByteArray) (e o : ByteArray) (hb0 : b.size ≤ 140737488351232) (hz : ∀ q ∈ l, q.size ≤ 140737488351232) (hn : l.length ≤ 8796093022208) (he0 : e.size ≤ 140737488351232) (ho0 : o.size ≤ 140737488351232) (W : World) (hsh : W.ShapedOpen Tryd.prog) (ha : IsTxts W a l) :
    Calls Tryd.prog 13 #[.string b, .slice a l.length c, .string e, .string o] W fun e w' => e = .returned (.bool true) ∧ Below W.heap.size W w' := by
  obtain ⟨mx, gm⟩ := gm_at hsh
  have GMH := hide gm
  have HA := hide ha
  have HZ := hide hz
  have kal := fun w (h : GM mx w) => alive_spec mx w h
  obtain ⟨n, hnn⟩ : ∃ n, n = l.length := ⟨_, rfl⟩
  have HN := hide hnn
  rw [← hnn] at hn ⊢
  clear gm ha hsh hz hnn
  by_cases nb : n = 0 ∨ 16 < n
  · have d1 : ((n : Int) == 0) = decide (n = 0) := by rw [Bool.eq_iff_iff, beq_iff_eq, decide_eq_true_eq]; omega
    have NB := hide nb
    rcases nb with n0 | n16
    · subst n0
      go_enter Tryd.func13, Tryd.ntmps13
      go_wp2_with fail
      refine Calls.mono (kal _ GMH.out) ?_
      rintro e w1 ⟨rfl, b1⟩
      have B1 := hide b1
      clear b1
      go_wp2_with fail
      refine Calls.mono (kal _ (GMH.out.later B1.out)) ?_
      rintro e w2 ⟨rfl, b2⟩
      have B2 := hide (B1.out.trans (b2.mono B1.out.size))
      clear b2
      go_wp2_with fail
      go_returns
      exact ⟨rfl, B2.out⟩
    · have z0 : ((n : Int) == 0) = false := by rw [beq_eq_false_iff_ne]; omega
      have z1 : (n == 0) = false := by rw [beq_eq_false_iff_ne]; omega
      have z2 : decide ((16 : Int) < (n : Int)) = true := by rw [decide_eq_true_eq]; omega
      have z3 : decide (16 < n) = true := by rw [decide_eq_true_eq]; omega
      clear d1
      go_enter Tryd.func13, Tryd.ntmps13
      go_wp2_with fail
      refine Calls.mono (kal _ GMH.out) ?_
      rintro e w1 ⟨rfl, b1⟩
      have B1 := hide b1
      clear b1
      go_wp2_with fail
      refine Calls.mono (kal _ (GMH.out.later B1.out)) ?_
      rintro e w2 ⟨rfl, b2⟩
      have B2 := hide (B1.out.trans (b2.mono B1.out.size))
      clear b2
      go_wp2_with fail
      go_returns
      exact ⟨rfl, B2.out⟩
  · have n1 : 1 ≤ n := by omega
    have n2 : n ≤ 16 := by omega
    have z0 : ((n : Int) == 0) = false := by rw [beq_eq_false_iff_ne]; omega
    have z1 : (n == 0) = false := by rw [beq_eq_false_iff_ne]; omega
    have z2 : decide ((16 : Int) < (n : Int)) = false := by rw [decide_eq_false_iff_not]; omega
    have z3 : decide (16 < n) = false := by rw [decide_eq_false_iff_not]; omega
    clear nb
    go_enter Tryd.func13, Tryd.ntmps13
    go_wp2_with fail
    refine Calls.mono (kal _ GMH.out) ?_
    rintro e w1 ⟨rfl, b1⟩
    have B1 := hide b1
    clear b1 kal
    have s123 : (⟨#[123]⟩ : ByteArray).size = 1 := rfl
    go_wp2_with fail
    go_loopw [9, 10, 11] (fun tv ov iv wr => ∃ (t : ByteArray) (i : Nat) (one : Bool), i ≤ n ∧ tv = .string t ∧ ov = .bool one ∧ iv = .int .i64 (i : Int) ∧ Hid (lst t = lst b ++ 123 :: altsT (l.take i)) ∧ t.size ≤ 140737488351233 + i * 140737488351233 ∧ Hid (∀ q ∈ l.take i, bytesB q = true) ∧ Hid (one = (l.take i).any fun q => compOne (b ++ q ++ e) o) ∧ Hid (Below W.heap.size W wr)) (fun _ _ iv _ => n - (intOf iv).toNat)
    case atStart => exact ⟨b ++ ⟨#[123]⟩, 0, false, by omega, rfl, rfl, rfl, hide (by rw [lst_app2]; rfl), by rw [ByteArray.size_append, s123]; omega, hide (fun q h => by simp at h), hide rfl, B1⟩
    case round =>
      obtain ⟨t, i, one, hi, rfl, rfl, rfl, TX, ts, AB, ON, B⟩ := hrel
      clear s123
      by_cases hlt : i < n
      · have il : i < l.length := by have := HN.out; omega
        obtain ⟨tb, tof, rfl, TL⟩ := HA.out.resolve_left (by intro q; rw [q] at il; simp at il)
        have c0 := (B.out.cell (p := ⟨tb, tof + i, none⟩) TL.lt).trans (TL.cell i il)
        have xz := HZ.out l[i] (List.getElem_mem _)
        have ANY := hide (any_snoc l (fun q => compOne (b ++ q ++ e) o) i il)
        have ABS : Hid (bytesB l[i] = true → ∀ q ∈ l.take (i + 1), bytesB q = true) := hide (fun h q hq => by
          rw [List.take_succ_eq_append_getElem il] at hq
          rcases List.mem_append.1 hq with hq | hq
          · exact AB.out q hq
          · rw [List.mem_singleton.1 hq]; exact h)
        have T0 := hide (altsT_one0 l i il)
        have T1 := hide (altsT_take l i il)
        obtain ⟨x, hx⟩ : ∃ x, x = l[i] := ⟨_, rfl⟩
        rw [← hx] at c0 xz ANY ABS T0 T1
        have kb := fun w => rbytes_spec x (by omega) w
        rw [show (lst x).all nB = bytesB x from rfl] at kb
        obtain ⟨u, hu⟩ : ∃ u, bytesB x = u := ⟨_, rfl⟩
        rw [hu] at kb ABS
        clear hx hu
        cases u
        · go_wp2_with (go_at_call 34; refine (kb _).mono ?_; rintro e w1 ⟨rfl, rfl⟩)
          go_returns
          exact ⟨rfl, B.out⟩
        · have AB2 := hide (ABS.out rfl)
          have kc := fun w => comp_spec (b ++ x ++ e) w
          obtain ⟨⟨j, r⟩, hr⟩ : ∃ q, compA (b ++ x ++ e) = q := ⟨_, rfl⟩
          rw [hr] at kc
          have HR := hide hr
          unfold CompRes at kc
          simp only at kc
          clear hr ABS
          by_cases i0 : i = 0
          · have TX2 : Hid (lst (t ++ x) = lst b ++ 123 :: altsT (l.take (i + 1))) := by show _ = _; rw [lst_app2, TX.out, T0.out i0]; simp
            have TS2 : (t ++ x).size ≤ 140737488351233 + (i + 1) * 140737488351233 := by rw [ByteArray.size_append]; omega
            have d0 : decide ((0 : Int) < (i : Int)) = false := by rw [decide_eq_false_iff_not]; omega
            have d1 : decide (0 < i) = false := by rw [decide_eq_false_iff_not]; omega
            have sz1 : ¬ 9223372036854775807 < t.size + x.size := by omega
            clear i0
            go_wp2_with (go_at_call 34; refine (kb _).mono ?_; rintro e w1 ⟨rfl, rfl⟩)
            refine Calls.mono (kc _) ?_
            rintro e5 w5 he5
            clear kc
            cases r with
            | error cd =>
              obtain ⟨b5, rfl⟩ := he5
              have B5 := hide (B.out.trans (b5.mono B.out.size))
              have cz := comp_codes HR.out
              have c0 : (cd == 0) = false := by rw [beq_eq_false_iff_ne]; omega
              have CO : Hid (compOne (b ++ x ++ e) o = false) := hide (compOne_code HR.out o)
              clear b5 cz
              cases one
              all_goals
                go_wp2_with fail
                have B6 := hide (B5.out.alloc B5.out.size (.cells #[.slice none 0 0] 33))
                go_roundw
                case rel => exact ⟨t ++ x, i + 1, _, by omega, rfl, rfl, by go_num, TX2, TS2, AB2, hide (by rw [ANY.out, ← ON.out, CO.out]; rfl), B6⟩
                case measure => simp [intOf]; omega
            | ok p =>
              obtain ⟨b5, a5, c5, rfl, ty, lc⟩ := he5
              have B5 := hide (B.out.trans (b5.mono B.out.size))
              have I5 := hide ty.is
              have CO : Hid (compOne (b ++ x ++ e) o = matB p o) := hide (compOne_code HR.out o)
              obtain ⟨may, pl, sl, _⟩ := comp_may HR.out
              have pwt := patW_may may
              have pw := ptw_of (p := p) (by omega)
              have pn := pw.n
              clear b5 ty may pl sl pwt
              cases one
              · have km := fun w ha g => match_spec p pw o mx a5 c5 w ha g
                obtain ⟨v, hv⟩ : ∃ v, matB p o = v := ⟨_, rfl⟩
                rw [hv] at km CO
                obtain ⟨m, hm⟩ : ∃ m, m = p.length := ⟨_, rfl⟩
                rw [← hm] at km pn lc ⊢
                clear hv hm pw
                go_wp2_with fail
                have U6 : Below w5.heap.size w5 (w5.alloc (.cells #[.slice a5 m c5] 33)) := (Below.refl _ _).alloc (Nat.le_refl _) _
                have B6 := hide (B5.out.alloc B5.out.size (.cells #[.slice a5 m c5] 33))
                refine Calls.mono (km _ (I5.out.later U6) (GMH.out.later B6.out)) ?_
                rintro e w7 ⟨rfl, b7⟩
                have B7 := hide (B6.out.trans (b7.mono B6.out.size))
                clear b7 km U6
                go_wp2_with fail
                go_roundw
                case rel => exact ⟨t ++ x, i + 1, _, by omega, rfl, rfl, by go_num, TX2, TS2, AB2, hide (by rw [ANY.out, ← ON.out, CO.out]; rfl), B7⟩
                case measure => simp [intOf]; omega
              · obtain ⟨m, hm⟩ : ∃ m, m = p.length := ⟨_, rfl⟩
                rw [← hm] at pn lc ⊢
                clear hm pw
                go_wp2_with fail
                have B6 := hide (B5.out.alloc B5.out.size (.cells #[.slice a5 m c5] 33))
                go_roundw
                case rel => exact ⟨t ++ x, i + 1, _, by omega, rfl, rfl, by go_num, TX2, TS2, AB2, hide (by rw [ANY.out, ← ON.out]; rfl), B6⟩
                case measure => simp [intOf]; omega
          · have TX2 : Hid (lst (t ++ ⟨#[44]⟩ ++ x) = lst b ++ 123 :: altsT (l.take (i + 1))) := by show _ = _; rw [lst_app2, lst_app2, TX.out, T1.out i0]; simp [lst]
            have s44 : (⟨#[44]⟩ : ByteArray).size = 1 := rfl
            have TS2 : (t ++ ⟨#[44]⟩ ++ x).size ≤ 140737488351233 + (i + 1) * 140737488351233 := by rw [ByteArray.size_append, ByteArray.size_append, s44]; omega
            have d0 : decide ((0 : Int) < (i : Int)) = true := by rw [decide_eq_true_eq]; omega
            have d1 : decide (0 < i) = true := by rw [decide_eq_true_eq]; omega
            clear i0
            go_wp2_with (go_at_call 34; refine (kb _).mono ?_; rintro e w1 ⟨rfl, rfl⟩)
            refine Calls.mono (kc _) ?_
            rintro e5 w5 he5
            clear kc
            cases r with
            | error cd =>
              obtain ⟨b5, rfl⟩ := he5
              have B5 := hide (B.out.trans (b5.mono B.out.size))
              have cz := comp_codes HR.out
              have c0 : (cd == 0) = false := by rw [beq_eq_false_iff_ne]; omega
              have CO : Hid (compOne (b ++ x ++ e) o = false) := hide (compOne_code HR.out o)
              clear b5 cz
              cases one
              all_goals
                go_wp2_with fail
                have B6 := hide (B5.out.alloc B5.out.size (.cells #[.slice none 0 0] 33))
                go_roundw
                case rel => exact ⟨t ++ ⟨#[44]⟩ ++ x, i + 1, _, by omega, rfl, rfl, by go_num, TX2, TS2, AB2, hide (by rw [ANY.out, ← ON.out, CO.out]; rfl), B6⟩
                case measure => simp [intOf]; omega
            | ok p =>
              obtain ⟨b5, a5, c5, rfl, ty, lc⟩ := he5
              have B5 := hide (B.out.trans (b5.mono B.out.size))
              have I5 := hide ty.is
              have CO : Hid (compOne (b ++ x ++ e) o = matB p o) := hide (compOne_code HR.out o)
              obtain ⟨may, pl, sl, _⟩ := comp_may HR.out
              have pwt := patW_may may
              have pw := ptw_of (p := p) (by omega)
              have pn := pw.n
              clear b5 ty may pl sl pwt
              cases one
              · have km := fun w ha g => match_spec p pw o mx a5 c5 w ha g
                obtain ⟨v, hv⟩ : ∃ v, matB p o = v := ⟨_, rfl⟩
                rw [hv] at km CO
                obtain ⟨m, hm⟩ : ∃ m, m = p.length := ⟨_, rfl⟩
                rw [← hm] at km pn lc ⊢
                clear hv hm pw
                go_wp2_with fail
                have U6 : Below w5.heap.size w5 (w5.alloc (.cells #[.slice a5 m c5] 33)) := (Below.refl _ _).alloc (Nat.le_refl _) _
                have B6 := hide (B5.out.alloc B5.out.size (.cells #[.slice a5 m c5] 33))
                refine Calls.mono (km _ (I5.out.later U6) (GMH.out.later B6.out)) ?_
                rintro e w7 ⟨rfl, b7⟩
                have B7 := hide (B6.out.trans (b7.mono B6.out.size))
                clear b7 km U6
                go_wp2_with fail
                go_roundw
                case rel => exact ⟨t ++ ⟨#[44]⟩ ++ x, i + 1, _, by omega, rfl, rfl, by go_num, TX2, TS2, AB2, hide (by rw [ANY.out, ← ON.out, CO.out]; rfl), B7⟩
                case measure => simp [intOf]; omega
              · obtain ⟨m, hm⟩ : ∃ m, m = p.length := ⟨_, rfl⟩
                rw [← hm] at pn lc ⊢
                clear hm pw
                go_wp2_with fail
                have B6 := hide (B5.out.alloc B5.out.size (.cells #[.slice a5 m c5] 33))
                go_roundw
                case rel => exact ⟨t ++ ⟨#[44]⟩ ++ x, i + 1, _, by omega, rfl, rfl, by go_num, TX2, TS2, AB2, hide (by rw [ANY.out, ← ON.out]; rfl), B6⟩
                case measure => simp [intOf]; omega
      · obtain rfl : i = n := by omega
        have kb1 := fun w => rbytes_spec b (by omega) w
        have kb2 := fun w => rbytes_spec e (by omega) w
        rw [show (lst b).all nB = bytesB b from rfl] at kb1
        rw [show (lst e).all nB = bytesB e from rfl] at kb2
        obtain ⟨u1, hu1⟩ : ∃ u, bytesB b = u := ⟨_, rfl⟩
        obtain ⟨u2, hu2⟩ : ∃ u, bytesB e = u := ⟨_, rfl⟩
        rw [hu1] at kb1
        rw [hu2] at kb2
        cases u1
        · clear hu1 hu2
          go_wp2_with (go_at_call 34; refine (kb1 _).mono ?_; rintro e w1 ⟨rfl, rfl⟩)
          go_returns
          exact ⟨rfl, B.out⟩
        · cases u2
          · clear hu1 hu2
            go_wp2_with fail
            refine Calls.mono (kb1 _) ?_
            rintro e w1 ⟨rfl, rfl⟩
            go_wp2_with fail
            refine Calls.mono (kb2 _) ?_
            rintro e w1 ⟨rfl, rfl⟩
            go_wp2_with fail
            go_returns
            exact ⟨rfl, B.out⟩
          · have AL : ∀ q ∈ l, bytesB q = true := by have := AB.out; rw [HN.out, List.take_length] at this; exact this
            have lne : l ≠ [] := by intro q; have := HN.out; rw [q] at this; simp at this; omega
            have l16 : l.length ≤ 16 := by have := HN.out; omega
            have lx : lst (t ++ ⟨#[125]⟩ ++ e) = lst b ++ 123 :: (altsT l ++ 125 :: lst e) := by
              rw [lst_app2, lst_app2, TX.out, HN.out, List.take_length]; simp [lst]
            have cx := comp_choice hu1 hu2 AL lne l16 (t ++ ⟨#[125]⟩ ++ e) lx
            have CL := hide (choice_law hu1 hu2 AL lne l16)
            have may := chG_may hu1 hu2 AL lne l16
            have tx := chG_text b l e
            have s125 : (⟨#[125]⟩ : ByteArray).size = 1 := rfl
            have xsz := congrArg List.length lx
            rw [← tx, lst_len] at xsz
            have kc := fun w => comp_spec (t ++ ⟨#[125]⟩ ++ e) w
            have pwt := patW_may may
            have O2 : Hid (one = l.any fun q => compOne (b ++ q ++ e) o) := by show _ = _; rw [ON.out, HN.out, List.take_length]
            have xs2 : (t ++ ⟨#[125]⟩ ++ e).size = t.size + 1 + e.size := by rw [ByteArray.size_append, ByteArray.size_append, s125]
            by_cases big : 400 < (t ++ ⟨#[125]⟩ ++ e).size
            · rw [cx, if_pos big] at kc
              unfold CompRes at kc
              simp only at kc
              clear big may pwt xsz xs2 tx cx lx AL lne l16 hu1 hu2
              go_wp2_with fail
              refine Calls.mono (kb1 _) ?_
              rintro e w1 ⟨rfl, rfl⟩
              go_wp2_with fail
              refine Calls.mono (kb2 _) ?_
              rintro e w1 ⟨rfl, rfl⟩
              go_wp2_with fail
              refine Calls.mono (kc _) ?_
              rintro e w5 ⟨b5, rfl⟩
              have B5 := hide (B.out.trans (b5.mono B.out.size))
              clear b5 kc
              go_wp2_with fail
              have B6 := hide (B5.out.alloc B5.out.size (.cells #[.slice none 0 0] 33))
              go_returns
              exact ⟨rfl, B6.out⟩
            · rw [cx, if_neg big] at kc
              unfold CompRes at kc
              simp only at kc
              have pw := ptw_of (p := [chG b l e]) (by omega)
              have km := fun a c w ha g => match_spec [chG b l e] pw o mx a c w ha g
              rw [CL.out (by omega) o, ← O2.out] at km
              simp only [List.length_cons, List.length_nil, Nat.zero_add] at km kc
              clear big may pwt xsz xs2 tx cx lx AL lne l16 hu1 hu2 pw
              go_wp2_with fail
              refine Calls.mono (kb1 _) ?_
              rintro e w1 ⟨rfl, rfl⟩
              go_wp2_with fail
              refine Calls.mono (kb2 _) ?_
              rintro e w1 ⟨rfl, rfl⟩
              go_wp2_with fail
              refine Calls.mono (kc _) ?_
              rintro e w5 ⟨b5, a5, c5, rfl, ty, lc⟩
              have B5 := hide (B.out.trans (b5.mono B.out.size))
              have I5 := hide ty.is
              clear b5 kc ty
              go_wp2_with fail
              have U6 : Below w5.heap.size w5 (w5.alloc (.cells #[.slice a5 1 c5] 33)) := (Below.refl _ _).alloc (Nat.le_refl _) _
              have B6 := hide (B5.out.alloc B5.out.size (.cells #[.slice a5 1 c5] 33))
              refine Calls.mono (km a5 c5 _ (I5.out.later U6) (GMH.out.later B6.out)) ?_
              rintro e w7 ⟨rfl, b7⟩
              have B7 := hide (B6.out.trans (b7.mono B6.out.size))
              clear b7 km U6
              cases one
              all_goals
                go_wp2_with fail
                go_returns
                exact ⟨rfl, B7.out⟩
end Go.Proofs.YteahbdhhcfoiiaaDoor
