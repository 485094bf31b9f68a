/- Texts that belong together: Nbk Nbl Nbm Nbn Nbo Nbp Lawnj Nsf Nda Ndd Nde Ndb Ndf Ndc Lawnt Lawncl. -/
import Derived.Test.YteahbdhhcfoiiaaDoorG02
import Derived.Test.YteahbdhhcfoiiaaDoorG06
import Derived.Test.YteahbdhhcfoiiaaDoorG05
import Derived.Laws.RangeAny
import Derived.Test.YteahbdhhcfoiiaaDoorG01
import Derived.Lib.Bits
import Derived.Test.YteahbdhhcfoiiaaDoorG03
import Derived.Test.YteahbdhhcfoiiaaDoorG04
set_option linter.unusedSimpArgs false
set_option linter.unusedVariables false
/- name: a pattern's text is read as the pattern, plain. -/
namespace Go.Proofs.YteahbdhhcfoiiaaDoor
set_option linter.unusedVariables false
set_option linter.unusedSimpArgs false
theorem lst_cut (t : ByteArray) (i p : Nat) : lst (t.extract i p) = ((lst t).drop i).take (p - i) := by
  unfold lst
  rw [ByteArray.data_extract, Array.toList_extract, List.extract_eq_take_drop]
/-- From a place on, this stands in a text. -/
structure At (s : ByteArray) (i : Nat) (x : List UInt8) : Prop where
  h : (lst s).drop i = x
  le : i ≤ s.size
theorem At.len {s : ByteArray} {i : Nat} {x : List UInt8} (a : At s i x) : i + x.length = s.size := by
  have h1 := congrArg List.length a.h
  have h2 := a.le
  rw [List.length_drop, lst_len] at h1; omega
theorem At.nx {s : ByteArray} {i : Nat} {c : UInt8} {r : List UInt8} (a : At s i (c :: r)) : nx s i = c := by
  have h1 := a.len
  have hi : i < s.size := by simp at h1; omega
  have h2 := a.h
  rw [List.drop_eq_getElem_cons (by rw [lst_len]; exact hi)] at h2
  rw [nx_lt hi]
  have := (List.cons.inj h2).1
  rw [← this]; simp [lst]; rfl
theorem At.next {s : ByteArray} {i : Nat} {c : UInt8} {r : List UInt8} (a : At s i (c :: r)) : At s (i + 1) r := by
  have h1 := a.len
  refine ⟨?_, by simp at h1; omega⟩
  have h2 := congrArg (List.drop 1) a.h
  rw [List.drop_drop] at h2
  simpa [Nat.add_comm] using h2
theorem At.app {s : ByteArray} {i : Nat} {x r : List UInt8} (a : At s i (x ++ r)) : At s (i + x.length) r := by
  have h1 := a.len
  refine ⟨?_, by simp at h1; omega⟩
  have h2 := congrArg (List.drop x.length) a.h
  rw [List.drop_drop, List.drop_left] at h2
  exact h2
theorem At.ext {s : ByteArray} {i : Nat} {x r : List UInt8} (a : At s i (x ++ r)) : s.extract i (i + x.length) = ⟨x.toArray⟩ := by
  have h := a.h
  have e : lst (s.extract i (i + x.length)) = lst (⟨x.toArray⟩ : ByteArray) := by rw [lst_mk x, lst_cut, h, Nat.add_sub_cancel_left, List.take_left]
  exact lst_inj e
theorem At.end_ {s : ByteArray} {i : Nat} (a : At s i []) : i = s.size := by have := a.len; simpa using this
theorem at_start (s : ByteArray) : At s 0 (lst s) := ⟨by simp, Nat.zero_le _⟩
/-- Is it, at its head, no name byte? -/
def stops (r : List UInt8) : Prop := ∀ c l, r = c :: l → nB c = false
theorem textE_at {s : ByteArray} {r : List UInt8} (hr : stops r) : ∀ (x : List UInt8) (f i : Nat), At s i (x ++ r) → (∀ c ∈ x, nB c = true) → s.size < f + i → textE s f i = i + x.length
  | [], f, i, a, _, hf => by
    rw [List.nil_append] at a
    cases r with
    | nil =>
      have := a.end_
      cases f with
      | zero => rfl
      | succ f => rw [textE, nx_ge (by omega), nB0]; rfl
    | cons c l => rw [textE_stop (by rw [a.nx]; exact hr c l rfl)]; rfl
  | c :: x, f, i, a, hx, hf => by
    have a' : At s i (c :: (x ++ r)) := a
    have hc := hx c List.mem_cons_self
    have ih := textE_at hr x f (i + 1) a'.next (fun d hd => hx d (List.mem_cons_of_mem _ hd)) (by omega)
    rw [textE_step hf (by rw [a'.nx]; exact hc)] at ih
    rw [ih, List.length_cons]; omega
theorem bytes_all {a : ByteArray} (h : bytesB a = true) : ∀ c ∈ lst a, nB c = true := List.all_eq_true.1 h
theorem stops_cons {c : UInt8} (h : nB c = false) (r : List UInt8) : stops (c :: r) := fun d l e => by cases e; exact h
/-- A choice. -/
theorem choice_at {s : ByteArray} {r : List UInt8} : ∀ (al : List ByteArray) (f i : Nat) (acc : List ByteArray), al ≠ [] → At s i (altsT al ++ 125 :: r) → (∀ a ∈ al, bytesB a = true) → acc.length + al.length ≤ 16 → s.size < f + i → choiceA s f i acc = (i + (altsT al).length + 1, .ok (acc ++ al))
  | [], _, _, _, h, _, _, _, _ => absurd rfl h
  | [a], f, i, acc, _, at', hb, hl, hf => by
    have A : At s i (lst a ++ 125 :: r) := at'
    have e := textE_at (stops_cons (by decide) r) (lst a) (s.size + 1) i A (bytes_all (hb a List.mem_cons_self)) (by omega)
    have n := A.app.nx
    have hi := A.le
    have x := A.ext
    rw [choice_end hf hi (by rw [e]; exact n), e, x, mk_lst']
    rfl
  | a :: b :: l, f, i, acc, _, at', hb, hl, hf => by
    have A : At s i (lst a ++ 44 :: (altsT (b :: l) ++ 125 :: r)) := by
      have : altsT (a :: b :: l) ++ 125 :: r = lst a ++ 44 :: (altsT (b :: l) ++ 125 :: r) := by simp [altsT]
      rw [← this]; exact at'
    have e := textE_at (stops_cons (by decide) _) (lst a) (s.size + 1) i A (bytes_all (hb a List.mem_cons_self)) (by omega)
    have n := A.app.nx
    have hi := A.le
    have x := A.ext
    simp only [List.length_cons] at hl
    obtain ⟨_, g, hg, h⟩ := choice_step (acc := acc) hf hi (by rw [e]; exact n) (by omega)
    rw [h, e, x, mk_lst']
    have ih := choice_at (b :: l) g (i + (lst a).length + 1) (acc ++ [a]) (by simp) A.app.next (fun q hq => hb q (List.mem_cons_of_mem _ hq)) (by simp only [List.length_append, List.length_cons, List.length_nil]; omega) (by rw [e] at hg; exact hg)
    rw [ih]
    simp only [altsT, List.length_append, List.length_cons, List.append_assoc, List.singleton_append]
    congr 1
    omega
where mk_lst' {t : ByteArray} : (⟨(lst t).toArray⟩ : ByteArray) = t := lst_inj (lst_mk _)
end Go.Proofs.YteahbdhhcfoiiaaDoor
/- name: a class's text is read as the class, plain. -/
namespace Go.Proofs.YteahbdhhcfoiiaaDoor
set_option linter.unusedVariables false
set_option linter.unusedSimpArgs false
/-- An item's text. -/
def itT (r : UInt8 × UInt8) : List UInt8 := if r.1 = r.2 then [r.1] else [r.1, 45, r.2]
structure ItOk (r : UInt8 × UInt8) : Prop where
  c : cB r.1 = true
  r : r.1 = r.2 ∨ (fB r.1 ≠ 0 ∧ fB r.2 = fB r.1 ∧ r.1 ≤ r.2)
theorem cB_ne {c : UInt8} (h : cB c = true) : c ≠ 45 ∧ c ≠ 93 := by
  constructor
  · intro e; rw [e] at h; revert h; decide
  · intro e; rw [e] at h; revert h; decide
theorem item_at {s : ByteArray} {i : Nat} {r : UInt8 × UInt8} {d : UInt8} {x : List UInt8} (hr : ItOk r) (a : At s i (itT r ++ d :: x)) (hd : d ≠ 45) : itemA s i = (i + (itT r).length, some r) := by
  obtain ⟨u, v⟩ := r
  obtain ⟨hc, hv⟩ := hr
  simp only at hc hv
  unfold itT at a ⊢
  by_cases e : u = v
  · subst e
    rw [if_pos rfl] at a ⊢
    have A : At s i (u :: d :: x) := a
    unfold itemA
    simp only
    rw [A.nx, hc, if_pos rfl, A.next.nx, if_neg hd]
    rfl
  · rw [if_neg e] at a ⊢
    have A : At s i (u :: 45 :: v :: d :: x) := a
    obtain ⟨h1, h2, h3⟩ := hv.resolve_left e
    unfold itemA
    simp only
    rw [A.nx, hc, if_pos rfl, A.next.nx, if_pos rfl, if_neg h1, A.next.next.nx, if_pos ⟨h2, h3⟩]
    rfl
theorem itT_head (r : UInt8 × UInt8) : ∃ t, itT r = r.1 :: t := by unfold itT; split <;> exact ⟨_, rfl⟩
theorem class_text {s : ByteArray} {r : List UInt8} : ∀ (rs : List (UInt8 × UInt8)) (f i : Nat) (acc : List (UInt8 × UInt8)), rs ≠ [] → (∀ q ∈ rs, ItOk q) → At s i (rs.flatMap itT ++ 93 :: r) → s.size < f + i → classA s f i acc = (i + (rs.flatMap itT).length + 1, some (acc ++ rs))
  | [], _, _, _, h, _, _, _ => absurd rfl h
  | [q], f, i, acc, _, hq, a, hf => by
    have A : At s i (itT q ++ 93 :: r) := by simpa using a
    have e := item_at (hq q List.mem_cons_self) A (by decide)
    rw [class_end hf A.le e A.app.nx]
    simp
  | q :: p :: l, f, i, acc, _, hq, a, hf => by
    have A : At s i (itT q ++ ((p :: l).flatMap itT ++ 93 :: r)) := by simpa [List.flatMap_cons] using a
    obtain ⟨t, ht⟩ := itT_head p
    have hp := hq p (by simp)
    have A2 : At s i (itT q ++ p.1 :: (t ++ (l.flatMap itT ++ 93 :: r))) := by
      have : (p :: l).flatMap itT ++ 93 :: r = p.1 :: (t ++ (l.flatMap itT ++ 93 :: r)) := by simp [List.flatMap_cons, ht]
      rw [← this]; exact A
    have e := item_at (hq q List.mem_cons_self) A2 (cB_ne hp.c).1
    obtain ⟨g, hg, h⟩ := class_step (acc := acc) hf A.le e (by rw [A2.app.nx]; exact (cB_ne hp.c).2)
    rw [h, class_text (p :: l) g _ (acc ++ [q]) (by simp) (fun z hz => hq z (List.mem_cons_of_mem _ hz)) A.app hg]
    rw [List.append_assoc, List.singleton_append]
    congr 1
    rw [show List.flatMap itT (q :: p :: l) = itT q ++ List.flatMap itT (p :: l) from List.flatMap_cons .., List.length_append]; omega
/-- A class's items. -/
def pieceR (l : List UInt8) : List (UInt8 × UInt8) := if runL l < 3 then (l.take (runL l)).map fun c => (c, c) else [(l.getD 0 0, l.getD (runL l - 1) 0)]
def rngR : Nat → List UInt8 → List (UInt8 × UInt8)
  | 0, _ => []
  | f + 1, l => if l = [] then [] else pieceR l ++ rngR f (l.drop (runL l))
theorem upto_run : ∀ l : List UInt8, uptoL l (runL l)
  | [] => fun j h => by simp [runL] at h
  | [c] => fun j h => by simp [runL] at h
  | c :: d :: r => fun j h => by
    unfold runL at h
    simp only at h
    split at h
    · rename_i e
      cases j with
      | zero => simpa using e
      | succ j => simpa using upto_run (d :: r) j (by omega)
    · omega
theorem upto_at {l : List UInt8} {n : Nat} (h : uptoL l n) : ∀ j, j < n → (l.getD j 0).toNat = (l.getD 0 0).toNat + j
  | 0, _ => rfl
  | j + 1, hj => by rw [h j hj, upto_at h j (by omega)]; omega
theorem piece_text {l : List UInt8} (h : l ≠ []) : (pieceR l).flatMap itT = pieceL l := by
  unfold pieceR pieceL
  split
  · have aux : ∀ m : List UInt8, (m.map fun c => (c, c)).flatMap itT = m := by
      intro m
      induction m with
      | nil => rfl
      | cons c m ih => simp only [List.map_cons, List.flatMap_cons, ih, itT, if_true]; rfl
    exact aux _
  · rename_i n
    have e := upto_at (upto_run l) (runL l - 1) (by omega)
    have : l.getD 0 0 ≠ l.getD (runL l - 1) 0 := by intro q; rw [← q] at e; omega
    simp only [List.flatMap_cons, List.flatMap_nil, List.append_nil, itT, if_neg this]
theorem rngR_text : ∀ (f : Nat) (l : List UInt8), (rngR f l).flatMap itT = rngF f l
  | 0, l => rfl
  | f + 1, l => by
    unfold rngR rngF
    split
    · rfl
    · rename_i h
      rw [List.flatMap_append, piece_text h, rngR_text f]
theorem fam_run : ∀ c d : UInt8, cB c = true → cB d = true → d.toNat = c.toNat + 1 → fB c ≠ 0 ∧ fB d = fB c := by
  intro c d
  unfold cB fB clsI famI
  simp only [Bool.or_eq_true, decide_eq_true_eq]
  intro h1 h2 h3
  (repeat' split) <;> (repeat' split at h1) <;> (repeat' split at h2) <;> omega
theorem run_fam {l : List UInt8} {n : Nat} (h : uptoL l n) (hn : n ≤ l.length) (hc : ∀ c ∈ l, cB c = true) : ∀ j, j < n → 2 ≤ n → fB (l.getD j 0) = fB (l.getD 0 0) ∧ fB (l.getD 0 0) ≠ 0
  | 0, _, h2 => by
    have m : ∀ k, k < n → l.getD k 0 ∈ l := fun k hk => by rw [List.getD_eq_getElem?_getD, List.getElem?_eq_getElem (by omega)]; exact List.getElem_mem _
    exact ⟨rfl, (fam_run _ _ (hc _ (m 0 (by omega))) (hc _ (m 1 (by omega))) (h 0 (by omega))).1⟩
  | j + 1, hj, h2 => by
    have m : ∀ k, k < n → l.getD k 0 ∈ l := fun k hk => by rw [List.getD_eq_getElem?_getD, List.getElem?_eq_getElem (by omega)]; exact List.getElem_mem _
    obtain ⟨i1, i2⟩ := run_fam h hn hc j (by omega) h2
    exact ⟨(fam_run _ _ (hc _ (m j (by omega))) (hc _ (m (j + 1) hj)) (h j hj)).2.trans i1, i2⟩
theorem piece_ok {l : List UInt8} (h : l ≠ []) (hc : ∀ c ∈ l, cB c = true) : ∀ q ∈ pieceR l, ItOk q := by
  unfold pieceR
  have hl := runL_le l
  split
  · intro q hq
    obtain ⟨c, hm, rfl⟩ := List.mem_map.1 hq
    exact ⟨hc c (List.mem_of_mem_take hm), .inl rfl⟩
  · rename_i n
    intro q hq
    rw [List.mem_singleton] at hq
    subst hq
    obtain ⟨f1, f2⟩ := run_fam (upto_run l) hl hc (runL l - 1) (by omega) (by omega)
    have e := upto_at (upto_run l) (runL l - 1) (by omega)
    refine ⟨hc _ (by rw [List.getD_eq_getElem?_getD, List.getElem?_eq_getElem (by omega)]; exact List.getElem_mem _), .inr ⟨f2, f1, UInt8.le_iff_toNat_le.2 (by show (l.getD 0 0).toNat ≤ (l.getD (runL l - 1) 0).toNat; omega)⟩⟩
theorem rngR_ok : ∀ (f : Nat) (l : List UInt8), (∀ c ∈ l, cB c = true) → ∀ q ∈ rngR f l, ItOk q
  | 0, l, _, q, h => by simp [rngR] at h
  | f + 1, l, hc, q, h => by
    unfold rngR at h
    split at h
    · simp at h
    · rename_i e
      rcases List.mem_append.1 h with h | h
      · exact piece_ok e hc q h
      · exact rngR_ok f _ (fun c hm => hc c (List.mem_of_mem_drop hm)) q h
theorem inB_app (a b : List (UInt8 × UInt8)) (n : Nat) : inB (a ++ b) n = (inB a n || inB b n) := by unfold inB; exact List.any_append
theorem piece_in {l : List UInt8} (h : l ≠ []) (n : Nat) : inB (pieceR l) n = true ↔ ∃ c ∈ l.take (runL l), c.toNat = n := by
  unfold pieceR
  have hl := runL_le l
  split
  · unfold inB
    rw [List.any_eq_true]
    constructor
    · rintro ⟨q, hq, e⟩
      obtain ⟨c, hm, rfl⟩ := List.mem_map.1 hq
      simp only [Bool.and_eq_true, decide_eq_true_eq] at e
      exact ⟨c, hm, by omega⟩
    · rintro ⟨c, hm, e⟩
      exact ⟨(c, c), List.mem_map.2 ⟨c, hm, rfl⟩, by simp; omega⟩
  · rename_i k
    unfold inB
    simp only [List.any_cons, List.any_nil, Bool.or_false, Bool.and_eq_true, decide_eq_true_eq]
    have e := upto_at (upto_run l)
    have e1 := e (runL l - 1) (by omega)
    constructor
    · rintro ⟨a, b⟩
      have e2 := e (n - (l.getD 0 0).toNat) (by omega)
      refine ⟨l.getD (n - (l.getD 0 0).toNat) 0, ?_, by omega⟩
      have hj : n - (l.getD 0 0).toNat < l.length := by omega
      rw [List.getD_eq_getElem?_getD, List.getElem?_eq_getElem hj, Option.getD_some]
      rw [List.mem_take_iff_getElem]
      exact ⟨n - (l.getD 0 0).toNat, by omega, rfl⟩
    · rintro ⟨c, hm, rfl⟩
      obtain ⟨j, hj, rfl⟩ := List.mem_take_iff_getElem.1 hm
      have e2 := e j (by omega)
      rw [List.getD_eq_getElem?_getD, List.getElem?_eq_getElem (by omega), Option.getD_some] at e2
      omega
theorem rngR_in : ∀ (f : Nat) (l : List UInt8), l.length ≤ f → ∀ n, inB (rngR f l) n = true ↔ ∃ c ∈ l, c.toNat = n
  | 0, l, h, n => by
    obtain rfl : l = [] := List.eq_nil_of_length_eq_zero (by omega)
    simp [rngR, inB]
  | f + 1, l, h, n => by
    unfold rngR
    split
    · rename_i e; subst e; simp [inB]
    · rename_i e
      have hp := runL_pos e
      have hl : 0 < l.length := List.length_pos_iff.2 e
      rw [inB_app, Bool.or_eq_true, piece_in e, rngR_in f _ (by rw [List.length_drop]; omega)]
      constructor
      · rintro (⟨c, hm, q⟩ | ⟨c, hm, q⟩)
        · exact ⟨c, List.mem_of_mem_take hm, q⟩
        · exact ⟨c, List.mem_of_mem_drop hm, q⟩
      · rintro ⟨c, hm, q⟩
        rw [← List.take_append_drop (runL l) l] at hm
        rcases List.mem_append.1 hm with hm | hm
        · exact .inl ⟨c, hm, q⟩
        · exact .inr ⟨c, hm, q⟩
/-- Rising lists with the same members are one. -/
theorem rise_one : ∀ (a b : List UInt8), a.Pairwise (fun x y => x.toNat < y.toNat) → b.Pairwise (fun x y => x.toNat < y.toNat) → (∀ c, c ∈ a ↔ c ∈ b) → a = b
  | [], [], _, _, _ => rfl
  | [], c :: b, _, _, h => absurd ((h c).2 List.mem_cons_self) (by simp)
  | c :: a, [], _, _, h => absurd ((h c).1 List.mem_cons_self) (by simp)
  | c :: a, d :: b, ha, hb, h => by
    obtain ⟨a1, a2⟩ := List.pairwise_cons.1 ha
    obtain ⟨b1, b2⟩ := List.pairwise_cons.1 hb
    have e : c = d := by
      rcases List.mem_cons.1 ((h c).1 List.mem_cons_self) with e | e
      · exact e
      · rcases List.mem_cons.1 ((h d).2 List.mem_cons_self) with e2 | e2
        · exact e2.symm
        · have := a1 d e2; have := b1 c e; omega
    subst e
    rw [rise_one a b a2 b2 fun x => ?_]
    constructor
    · intro hx
      rcases List.mem_cons.1 ((h x).1 (List.mem_cons_of_mem _ hx)) with e | e
      · subst e; have := a1 x hx; omega
      · exact e
    · intro hx
      rcases List.mem_cons.1 ((h x).2 (List.mem_cons_of_mem _ hx)) with e | e
      · subst e; have := b1 x hx; omega
      · exact e
theorem clsT_mem (rs : List (UInt8 × UInt8)) (c : UInt8) : c ∈ clsT rs ↔ c.toNat < 128 ∧ inB rs c.toNat = true := by
  unfold clsT
  rw [List.mem_map]
  constructor
  · rintro ⟨n, hn, rfl⟩
    obtain ⟨h1, h2⟩ := List.mem_filter.1 hn
    have h1 := List.mem_range.1 h1
    have e : (UInt8.ofNat n).toNat = n := by rw [UInt8.toNat_ofNat']; omega
    rw [e]; exact ⟨h1, h2⟩
  · rintro ⟨h1, h2⟩
    exact ⟨c.toNat, List.mem_filter.2 ⟨List.mem_range.2 h1, h2⟩, by simp⟩
theorem clsT_rise (rs : List (UInt8 × UInt8)) : (clsT rs).Pairwise (fun x y => x.toNat < y.toNat) := by
  unfold clsT
  rw [List.pairwise_map]
  have h : ((List.range 128).filter (inB rs)).Pairwise (· < ·) := List.Pairwise.sublist List.filter_sublist List.pairwise_lt_range
  refine List.Pairwise.imp_of_mem (fun {a b} ha hb q => ?_) h
  have h1 := List.mem_range.1 (List.mem_filter.1 ha).1
  have h2 := List.mem_range.1 (List.mem_filter.1 hb).1
  rw [UInt8.toNat_ofNat', UInt8.toNat_ofNat']; omega
theorem rise_pair {t : ByteArray} (h : riseB t = true) : (lst t).Pairwise (fun x y => x.toNat < y.toNat) := by
  unfold riseB at h
  simp only [Bool.and_eq_true] at h
  have step : ∀ k, k + 1 < t.size → (nx t k).toNat < (nx t (k + 1)).toNat := fun k hk => by
    have h2 := List.all_eq_true.1 h.1 (k + 1) (List.mem_range.2 hk)
    unfold riseA at h2
    simp only [Bool.and_eq_true, Bool.or_eq_true, decide_eq_true_eq] at h2
    rcases h2.2 with e | e
    · omega
    · simpa using e
  have far : ∀ d k, k + d + 1 < t.size → (nx t k).toNat < (nx t (k + d + 1)).toNat := by
    intro d
    induction d with
    | zero => intro k hk; exact step k hk
    | succ d ih => intro k hk; have h1 := ih k (by omega); have h2 := step (k + d + 1) (by omega); rw [show k + (d + 1) + 1 = k + d + 1 + 1 by omega]; omega
  rw [List.pairwise_iff_getElem]
  intro i j hi hj hij
  rw [lst_len] at hi hj
  have e : ∀ k (hk : k < t.size), nx t k = (lst t)[k]'(by rw [lst_len]; exact hk) := fun k hk => by rw [nx_lt hk]; simp [lst]; rfl
  have := far (j - i - 1) i (by omega)
  rw [show i + (j - i - 1) + 1 = j by omega, e i hi, e j hj] at this
  exact this
theorem clsT_back {t : ByteArray} (h : riseB t = true) : clsT (rngR (lst t).length (lst t)) = lst t := by
  refine rise_one _ _ (clsT_rise _) (rise_pair h) fun c => ?_
  rw [clsT_mem, rngR_in _ _ (Nat.le_refl _)]
  constructor
  · rintro ⟨_, d, hd, e⟩
    have : d = c := UInt8.toNat_inj.1 e
    subst this; exact hd
  · intro hc
    exact ⟨cls_small c (rise_cls h c hc), c, hc, rfl⟩
end Go.Proofs.YteahbdhhcfoiiaaDoor
/- name: a pattern's text is read as the pattern: pieces, nodes, all. -/
namespace Go.Proofs.YteahbdhhcfoiiaaDoor
set_option linter.unusedVariables false
set_option linter.unusedSimpArgs false
theorem size_nil {t : ByteArray} (h : t.size = 0) : t = ByteArray.empty := lst_inj (List.eq_nil_of_length_eq_zero (by rw [lst_len]; exact h))
theorem stand_text {g : Gl} (h : standB g = true) (k : g.k = 1) : g.t.size ≠ 0 ∧ bytesB g.t = true ∧ g.al = [] := by
  unfold standB at h
  rw [if_pos k] at h
  simp only [Bool.and_eq_true, decide_eq_true_eq] at h
  exact ⟨h.1.1, h.1.2, List.eq_nil_of_length_eq_zero h.2⟩
theorem stand_plain {g : Gl} (h : standB g = true) (k : g.k = 2 ∨ g.k = 3) : g.t = ByteArray.empty ∧ g.al = [] := by
  unfold standB at h
  rw [if_neg (by omega), if_pos k] at h
  simp only [Bool.and_eq_true, decide_eq_true_eq] at h
  exact ⟨size_nil h.1, List.eq_nil_of_length_eq_zero h.2⟩
theorem stand_cls {g : Gl} (h : standB g = true) (k : g.k = 4) : riseB g.t = true ∧ g.al = [] := by
  unfold standB at h
  rw [if_neg (by omega), if_neg (by omega), if_pos k] at h
  simp only [Bool.and_eq_true, decide_eq_true_eq] at h
  exact ⟨h.1, List.eq_nil_of_length_eq_zero h.2⟩
theorem stand_cho {g : Gl} (h : standB g = true) (k : g.k = 5) : g.t = ByteArray.empty ∧ (∀ a ∈ g.al, bytesB a = true) ∧ g.al ≠ [] ∧ g.al.length ≤ 16 := by
  unfold standB at h
  rw [if_neg (by omega), if_neg (by omega), if_neg (by omega), if_pos k] at h
  simp only [Bool.and_eq_true, decide_eq_true_eq] at h
  have h2 := h.2
  unfold chooseB at h2
  simp only [Bool.and_eq_true, decide_eq_true_eq] at h2
  exact ⟨size_nil h.1, List.all_eq_true.1 h2.1, by intro e; rw [e] at h2; simp at h2, h2.2.2⟩
theorem nB_heads {c : UInt8} (h : nB c = true) : c ≠ 42 ∧ c ≠ 63 ∧ c ≠ 91 ∧ c ≠ 123 ∧ c ≠ 46 := by
  refine ⟨?_, ?_, ?_, ?_, ?_⟩ <;> (intro e; rw [e] at h; revert h; decide)
/-- A piece's text begins so. -/
theorem glob_head {g : Gl} (h : standB g = true) : ∃ c r, globT g = c :: r ∧ c ≠ 46 ∧ (g.k ≠ 1 → nB c = false) := by
  rcases stand_kind h with k | k | k | k | k
  · obtain ⟨h1, h2, _⟩ := stand_text h k
    rw [globT_1 k]
    cases e : lst g.t with
    | nil => exact absurd (by rw [← lst_len, e]; rfl) h1
    | cons c r => exact ⟨c, r, rfl, (nB_heads (bytes_all h2 c (by rw [e]; exact List.mem_cons_self))).2.2.2.2, fun q => absurd k q⟩
  · rw [globT_2 k]; exact ⟨42, [], rfl, by decide, fun _ => by decide⟩
  · rw [globT_3 k]; exact ⟨63, [], rfl, by decide, fun _ => by decide⟩
  · rw [globT_4 k]; exact ⟨91, _, rfl, by decide, fun _ => by decide⟩
  · rw [globT_5 k]; exact ⟨123, _, rfl, by decide, fun _ => by decide⟩
theorem piece_at2 {s : ByteArray} {i : Nat} {g : Gl} {r : List UInt8} (h : standB g = true) (a : At s i (globT g ++ r)) (hr : g.k = 1 → stops r) : pieceA s i = (i + (globT g).length, .ok g) := by
  obtain ⟨k, t, al⟩ := g
  rcases stand_kind h with e | e | e | e | e
  · obtain ⟨h1, h2, h3⟩ := stand_text h e
    simp only at e h3
    subst e h3
    rw [globT_1 rfl] at a ⊢
    have te := textE_at (hr rfl) (lst t) (s.size + 1) i a (bytes_all h2) (by omega)
    have x := a.ext
    have xe : (⟨(lst t).toArray⟩ : ByteArray) = t := lst_inj (lst_mk _)
    rw [xe] at x
    cases hl : lst t with
    | nil => exact absurd (by rw [← lst_len, hl]; rfl) h1
    | cons c m =>
      have n := nB_heads (bytes_all h2 c (by rw [hl]; exact List.mem_cons_self))
      have hx : nx s i = c := by rw [hl] at a; exact At.nx (r := m ++ r) a
      unfold pieceA
      simp only
      rw [hx, if_neg n.1, if_neg n.2.1, if_neg n.2.2.1, if_neg n.2.2.2.1, te, if_neg (by rw [hl]; simp), x, ← hl]
  · obtain ⟨h1, h2⟩ := stand_plain h (.inl e)
    simp only at e h1 h2
    subst e h1 h2
    rw [globT_2 rfl] at a ⊢
    unfold pieceA
    simp only
    rw [At.nx (r := r) a, if_pos rfl]; rfl
  · obtain ⟨h1, h2⟩ := stand_plain h (.inr e)
    simp only at e h1 h2
    subst e h1 h2
    rw [globT_3 rfl] at a ⊢
    unfold pieceA
    simp only
    rw [At.nx (r := r) a, if_neg (by decide), if_pos rfl]; rfl
  · obtain ⟨h1, h2⟩ := stand_cls h e
    simp only at e h1 h2
    subst e h2
    rw [globT_4 rfl] at a ⊢
    have A : At s i (91 :: (rngT (lst t) ++ 93 :: r)) := by simpa using a
    have hne : lst t ≠ [] := by
      intro q
      have : t.size = 0 := by rw [← lst_len, q]; rfl
      unfold riseB at h1; rw [this] at h1; simp at h1
    have tx : rngT (lst t) = (rngR (lst t).length (lst t)).flatMap itT := (rngR_text _ _).symm
    have rne : rngR (lst t).length (lst t) ≠ [] := by
      intro q
      have := clsT_back h1
      rw [q] at this
      apply hne
      rw [← this]; rfl
    have A2 := A.next
    rw [tx] at A2
    have c := class_text _ (s.size + 1) (i + 1) [] rne (rngR_ok _ _ (rise_cls h1)) A2 (by omega)
    unfold pieceA
    simp only
    rw [A.nx, if_neg (by decide), if_neg (by decide), if_pos rfl, c]
    simp only [List.nil_append]
    rw [clsT_back h1, ← tx, show (⟨(lst t).toArray⟩ : ByteArray) = t from lst_inj (lst_mk _)]
    congr 1
    simp only [List.length_cons, List.length_append, List.length_nil]
    omega
  · obtain ⟨h1, h2, h3, h4⟩ := stand_cho h e
    simp only at e h1 h2 h3 h4
    subst e h1
    rw [globT_5 rfl] at a ⊢
    have A : At s i (123 :: (altsT al ++ 125 :: r)) := by simpa using a
    have c := choice_at al (s.size + 1) (i + 1) [] h3 A.next h2 (by simpa using h4) (by omega)
    unfold pieceA
    simp only
    rw [A.nx, if_neg (by decide), if_neg (by decide), if_neg (by decide), if_pos rfl, c]
    simp only [List.nil_append]
    congr 1
    simp only [List.length_cons, List.length_append, List.length_nil]
    omega
/-- May the pieces stand one behind the other? -/
def chainB : List Gl → Bool
  | [] => true
  | [g] => standB g
  | g :: h :: r => standB g && !(decide (g.k = 1) && decide (h.k = 1)) && chainB (h :: r)
theorem chain_head {g : Gl} {r : List Gl} (h : chainB (g :: r) = true) : standB g = true := by
  cases r with
  | nil => exact h
  | cons x r => unfold chainB at h; simp only [Bool.and_eq_true] at h; exact h.1.1
theorem chain_tail {g : Gl} {r : List Gl} (h : chainB (g :: r) = true) : chainB r = true := by
  cases r with
  | nil => rfl
  | cons x r => unfold chainB at h; simp only [Bool.and_eq_true] at h; exact h.2
theorem chain_place : ∀ gs : List Gl, (List.range gs.length).all (placeB gs) = chainB gs
  | [] => rfl
  | [g] => by simp [placeB, chainB]
  | g :: h :: r => by
    have ih := chain_place (h :: r)
    rw [List.length_cons, List.range_succ_eq_map, List.all_cons, List.all_map]
    have e0 : placeB (g :: h :: r) 0 = standB g := by simp [placeB]
    have e1 : ∀ i, placeB (g :: h :: r) (i + 1) = (placeB (h :: r) i && (decide (i ≠ 0) || !(decide (g.k = 1) && decide (h.k = 1)))) := by
      intro i
      cases i with
      | zero => simp [placeB, Bool.and_comm]
      | succ i =>
        have : (g :: h :: r)[i + 1 + 1 - 1]? = (h :: r)[i + 1 - 1]? := by simp
        simp only [placeB, List.getElem?_cons_succ]
        cases (r[i]?) with
        | none => simp
        | some x => simp
    rw [e0]
    unfold chainB
    rw [← ih]
    have : ((placeB (g :: h :: r)) ∘ Nat.succ) = fun i => (placeB (h :: r) i && (decide (i ≠ 0) || !(decide (g.k = 1) && decide (h.k = 1)))) := funext e1
    rw [this]
    rw [Bool.eq_iff_iff]
    simp only [Bool.and_eq_true, List.all_eq_true, List.mem_range]
    constructor
    · rintro ⟨a, b⟩
      refine ⟨⟨a, ?_⟩, fun i hi => (b i hi).1⟩
      have := (b 0 (by simp)).2
      simpa using this
    · rintro ⟨⟨a, b⟩, c⟩
      exact ⟨a, fun i hi => ⟨c i hi, by rw [b]; simp⟩⟩
theorem node_at2 {s : ByteArray} {r : List UInt8} (hr : r = [] ∨ ∃ x, r = 46 :: x) : ∀ (gs : List Gl) (f i : Nat) (acc : List Gl), chainB gs = true → acc ++ gs ≠ [] → At s i (nodeT gs ++ r) → s.size < f + i → nodeA s f i acc = (i + (nodeT gs).length, .ok (acc ++ gs))
  | [], f, i, acc, _, hne, a, hf => by
    have A : At s i r := a
    rw [node_stop hf A.le (fun hi => by
      rcases hr with e | ⟨x, e⟩
      · subst e; have := A.end_; omega
      · subst e; exact A.nx), if_neg (by simpa using hne)]
    simp [nodeT]
  | g :: gs, f, i, acc, hc, hne, a, hf => by
    have sg := chain_head hc
    have A : At s i (globT g ++ (nodeT gs ++ r)) := by simpa [nodeT, List.flatMap_cons] using a
    obtain ⟨c, m, e, n46, _⟩ := glob_head sg
    have hx : nx s i = c := by rw [e] at A; exact At.nx (r := m ++ (nodeT gs ++ r)) A
    have hi : i < s.size := by have h1 := A.len; rw [e] at h1; simp at h1; omega
    have pe := piece_at2 sg A (fun k1 => by
      cases gs with
      | nil =>
        rcases hr with q | ⟨x, q⟩
        · rw [q]; intro c l z; simp [nodeT] at z
        · rw [q]; exact stops_cons (by decide) _
      | cons h2 gs =>
        unfold chainB at hc
        simp only [Bool.and_eq_true, Bool.not_eq_true', Bool.and_eq_false_iff, decide_eq_false_iff_not] at hc
        obtain ⟨c2, m2, e2, _, nb⟩ := glob_head (chain_head hc.2)
        have : nodeT (h2 :: gs) ++ r = c2 :: (m2 ++ (nodeT gs ++ r)) := by simp [nodeT, List.flatMap_cons, e2]
        rw [this]
        exact stops_cons (nb (hc.1.2.resolve_left (fun z => z k1))) _)
    obtain ⟨f', hf', h⟩ := node_step (acc := acc) hf hi (by rw [hx]; exact n46) pe
    rw [h, node_at2 hr gs f' _ (acc ++ [g]) (chain_tail hc) (by simp) A.app hf']
    rw [List.append_assoc, List.singleton_append, show nodeT (g :: gs) = globT g ++ nodeT gs from List.flatMap_cons .., List.length_append]
    congr 1
    omega
theorem node_chain {gs : List Gl} (h : nodeMay gs = true) : gs ≠ [] ∧ chainB gs = true := by
  unfold nodeMay at h
  simp only [Bool.and_eq_true, decide_eq_true_eq] at h
  exact ⟨fun e => h.1 (by rw [e]; rfl), by rw [← chain_place]; exact h.2⟩
theorem pat_at {s : ByteArray} : ∀ (p : List (List Gl)) (f i : Nat) (acc : List (List Gl)), p ≠ [] → p.all nodeMay = true → acc.length + p.length ≤ 16 → At s i (patT p) → s.size < f + i → patA s f i acc = (0, .ok (acc ++ p))
  | [], _, _, _, h, _, _, _, _ => absurd rfl h
  | [gs], f, i, acc, _, ha, hl, a, hf => by
    obtain ⟨h1, h2⟩ := node_chain (by simpa using ha)
    have A : At s i (nodeT gs ++ []) := by simpa [patT] using a
    have e := node_at2 (.inl rfl) gs (s.size + 1) i [] h2 (by simpa using h1) A (by omega)
    have z := A.app.end_
    rw [z] at e
    rw [pat_end hf A.le e]; rfl
  | gs :: q :: p, f, i, acc, _, ha, hl, a, hf => by
    rw [List.all_cons, Bool.and_eq_true] at ha
    obtain ⟨h1, h2⟩ := node_chain ha.1
    have A : At s i (nodeT gs ++ 46 :: patT (q :: p)) := a
    have e := node_at2 (.inr ⟨_, rfl⟩) gs (s.size + 1) i [] h2 (by simpa using h1) A (by omega)
    have B := A.app
    have lt := B.len
    simp only [List.length_cons] at lt hl
    obtain ⟨g, hg, h⟩ := pat_step (acc := acc) hf A.le e (by omega) (by omega)
    rw [h, List.nil_append, pat_at (q :: p) g _ (acc ++ [gs]) (by simp) ha.2 (by simp; omega) B.next hg]
    simp
/-- P8: what is written is read again. -/
theorem comp_back (p : List (List Gl)) (h : mayB p = true) (hl : (patT p).length ≤ 400) : compA ⟨(patT p).toArray⟩ = (0, .ok p) := by
  have l := lst_mk (patT p)
  obtain ⟨t, ht⟩ : ∃ t, t = (⟨(patT p).toArray⟩ : ByteArray) := ⟨_, rfl⟩
  rw [← ht] at l ⊢
  have sz : t.size = (patT p).length := by rw [← lst_len, l]
  unfold mayB at h
  simp only [Bool.and_eq_true, decide_eq_true_eq] at h
  unfold compA
  rw [if_neg (by omega)]
  have := pat_at p (t.size + 1) 0 [] (by intro e; rw [e] at h; simp at h) h.2 (by simpa using h.1.2) (by rw [← l]; exact at_start t) (by omega)
  rw [this]; rfl
end Go.Proofs.YteahbdhhcfoiiaaDoor
/- name: what a class's text costs, plain. -/
namespace Go.Proofs.YteahbdhhcfoiiaaDoor
set_option linter.unusedVariables false
set_option linter.unusedSimpArgs false
theorem run_max : ∀ l : List UInt8, runL l < l.length → (l.getD (runL l) 0).toNat ≠ (l.getD (runL l - 1) 0).toNat + 1
  | [], h => by simp at h
  | [c], h => by simp [runL] at h
  | c :: d :: r, h => by
    have ih := run_max (d :: r)
    have p := runL_pos (l := d :: r) (by simp)
    unfold runL at h ⊢
    simp only at h ⊢
    split
    · rename_i e
      rw [if_pos e] at h
      have := ih (by simp only [List.length_cons] at h ⊢; omega)
      obtain ⟨m, hm⟩ : ∃ m, runL (d :: r) = m + 1 := ⟨runL (d :: r) - 1, by omega⟩
      rw [hm] at this ⊢
      rw [show 1 + (m + 1) = m + 1 + 1 by omega]
      simpa using this
    · rename_i e
      simpa using e
/-- Is a number among the bytes? -/
def hasN (l : List UInt8) (n : Nat) : Bool := l.any fun d => decide (d.toNat = n)
theorem hasN_mem {l : List UInt8} {n : Nat} : hasN l n = true ↔ ∃ d ∈ l, d.toNat = n := by
  unfold hasN; rw [List.any_eq_true]
  constructor
  · rintro ⟨d, h1, h2⟩; exact ⟨d, h1, of_decide_eq_true h2⟩
  · rintro ⟨d, h1, h2⟩; exact ⟨d, h1, decide_eq_true h2⟩
/-- Do three that follow stand ahead of it? -/
def predsL (l : List UInt8) (n : Nat) : Bool := decide (3 ≤ n) && (hasN l (n - 1) && (hasN l (n - 2) && hasN l (n - 3)))
def cntL (l : List UInt8) : Nat := (l.filter fun c => !predsL l c.toNat).length
theorem filter_le {α : Type} (f g : α → Bool) : ∀ l : List α, (∀ a ∈ l, f a = true → g a = true) → (l.filter f).length ≤ (l.filter g).length
  | [], _ => by simp
  | a :: l, h => by
    have ih := filter_le f g l fun b hb => h b (List.mem_cons_of_mem _ hb)
    simp only [List.filter_cons]
    by_cases e : f a = true
    · rw [if_pos e, if_pos (h a List.mem_cons_self e)]; simp; omega
    · rw [if_neg e]; split <;> (simp; omega)
theorem filter_all {α : Type} (f : α → Bool) (l : List α) (h : ∀ a ∈ l, f a = true) : (l.filter f).length = l.length := by
  rw [List.filter_eq_self.2 h]
theorem cost_le : ∀ (f : Nat) (l : List UInt8), l.length ≤ f → l.Pairwise (fun x y => x.toNat < y.toNat) → (rngF f l).length ≤ cntL l
  | 0, l, h, _ => by simp [rngF]
  | f + 1, l, h, hp => by
    unfold rngF
    split
    · simp
    · rename_i hne
      have p1 := runL_pos hne
      have p2 := runL_le l
      have hl : 0 < l.length := List.length_pos_iff.2 hne
      have ih := cost_le f (l.drop (runL l)) (by rw [List.length_drop]; omega) (hp.drop)
      obtain ⟨n, hn⟩ : ∃ n, n = runL l := ⟨_, rfl⟩
      have up := upto_at (upto_run l)
      have mx := run_max l
      have gd : ∀ j (hj : j < l.length), l.getD j 0 = l[j] := fun j hj => by rw [List.getD_eq_getElem?_getD, List.getElem?_eq_getElem hj]; rfl
      have rise : ∀ i j (hi : i < l.length) (hj : j < l.length), i < j → l[i].toNat < l[j].toNat := fun i j hi hj hij => List.pairwise_iff_getElem.1 hp i j hi hj hij
      rw [← hn] at p1 p2 ih up mx ⊢
      have low : ∀ d ∈ l, (l.getD 0 0).toNat ≤ d.toNat := by
        intro d hd
        obtain ⟨j, hj, rfl⟩ := List.getElem_of_mem hd
        rw [gd 0 hl]
        rcases Nat.eq_zero_or_pos j with e | e
        · subst e; exact Nat.le_refl _
        · exact Nat.le_of_lt (rise 0 j hl hj e)
      -- the rest's elements have their neighbours in the rest
      have nb : ∀ c ∈ l.drop n, ∀ d ∈ l, d.toNat + 1 = c.toNat → d ∈ l.drop n := by
        intro c hc d hd e
        obtain ⟨j, hj, rfl⟩ := List.getElem_of_mem hd
        rcases Nat.lt_or_ge j n with q | q
        · exfalso
          obtain ⟨k, hk, rfl⟩ := List.getElem_of_mem hc
          rw [List.length_drop] at hk
          rw [List.getElem_drop] at e
          have u1 := up j q
          rw [gd j hj] at u1
          have u2 := up (n - 1) (by omega)
          rw [gd (n - 1) (by omega)] at u2
          have r1 := rise (n - 1) (n + k) (by omega) (by omega) (by omega)
          have mm := mx (by omega)
          rw [gd n (by omega), gd (n - 1) (by omega)] at mm
          have r2 := rise (n - 1) n (by omega) (by omega) (by omega)
          have r3 : l[n].toNat ≤ l[n + k].toNat := by
            rcases Nat.eq_zero_or_pos k with z | z
            · subst z; exact Nat.le_refl _
            · exact Nat.le_of_lt (rise n (n + k) (by omega) (by omega) (by omega))
          omega
        · have : l[j] = (l.drop n)[j - n]'(by rw [List.length_drop]; omega) := by rw [List.getElem_drop]; congr 1; omega
          rw [this]; exact List.getElem_mem _
      have pr : ∀ c ∈ l.drop n, predsL l c.toNat = true → predsL (l.drop n) c.toNat = true := by
        intro c hc h
        unfold predsL at h ⊢
        simp only [Bool.and_eq_true, decide_eq_true_eq] at h ⊢
        obtain ⟨h3, a1, a2, a3⟩ := h
        obtain ⟨d1, m1, e1⟩ := hasN_mem.1 a1
        obtain ⟨d2, m2, e2⟩ := hasN_mem.1 a2
        obtain ⟨d3, m3, e3⟩ := hasN_mem.1 a3
        have b1 := nb c hc d1 m1 (by omega)
        have b2 := nb d1 b1 d2 m2 (by omega)
        have b3 := nb d2 b2 d3 m3 (by omega)
        exact ⟨h3, hasN_mem.2 ⟨d1, b1, e1⟩, hasN_mem.2 ⟨d2, b2, e2⟩, hasN_mem.2 ⟨d3, b3, e3⟩⟩
      -- the first of a run are counted
      have fst : ∀ c ∈ l.take (min n 3), (!predsL l c.toNat) = true := by
        intro c hc
        obtain ⟨j, hj, rfl⟩ := List.mem_take_iff_getElem.1 hc
        have u := up j (by omega)
        rw [gd j (by omega)] at u
        rw [Bool.not_eq_true']
        cases e : predsL l l[j].toNat with
        | false => rfl
        | true =>
          unfold predsL at e
          simp only [Bool.and_eq_true, decide_eq_true_eq] at e
          obtain ⟨d, md, ed⟩ := hasN_mem.1 e.2.2.2
          have := low d md
          omega
      have e1 : cntL l = ((l.take n).filter fun c => !predsL l c.toNat).length + ((l.drop n).filter fun c => !predsL l c.toNat).length := by
        unfold cntL
        conv => lhs; rw [← List.take_append_drop n l, List.filter_append]
        simp only [List.take_append_drop, List.length_append]
      have e2 : min n 3 ≤ ((l.take n).filter fun c => !predsL l c.toNat).length := by
        have h1 : l.take n = l.take (min n 3) ++ (l.take n).drop (min n 3) := by
          conv => lhs; rw [← List.take_append_drop (min n 3) (l.take n)]
          rw [List.take_take]
          congr 2
          omega
        rw [h1, List.filter_append, List.length_append, filter_all _ _ fst, List.length_take]
        omega
      have e3 : cntL (l.drop n) ≤ ((l.drop n).filter fun c => !predsL l c.toNat).length := by
        unfold cntL
        refine filter_le _ _ _ fun c hc h => ?_
        simp only [Bool.not_eq_true'] at h ⊢
        cases e : predsL l c.toNat with
        | false => rfl
        | true => rw [pr c hc e] at h; cases h
      have e4 : (pieceL l).length = min n 3 := by
        unfold pieceL
        rw [← hn]
        split
        · rw [List.length_take]; omega
        · simp; omega
      rw [List.length_append, e4, e1]
      omega
/-- What an item costs at least. -/
def cst (r : UInt8 × UInt8) : Nat := min (r.2.toNat + 1 - r.1.toNat) 3
def cntS (S : Nat → Bool) : Nat := ((List.range 128).filter fun b => S b && !(decide (3 ≤ b) && (S (b - 1) && (S (b - 2) && S (b - 3))))).length
theorem count_part (lo m : Nat) : ∀ N, ((List.range N).filter fun b => decide (lo ≤ b) && decide (b < m)).length ≤ min N m - lo
  | 0 => by simp
  | N + 1 => by
    have ih := count_part lo m N
    rw [List.range_succ, List.filter_append, List.length_append]
    simp only [List.filter_cons, List.filter_nil]
    split
    · rename_i e
      simp only [Bool.and_eq_true, decide_eq_true_eq] at e
      simp; omega
    · simp; omega
theorem filter_or {α : Type} (f g : α → Bool) : ∀ l : List α, (l.filter fun a => f a || g a).length ≤ (l.filter f).length + (l.filter g).length
  | [] => by simp
  | a :: l => by
    have ih := filter_or f g l
    simp only [List.filter_cons]
    by_cases e1 : f a = true
    · by_cases e2 : g a = true
      · simp [e1, e2]; omega
      · simp [e1, e2]; omega
    · by_cases e2 : g a = true
      · simp [e1, e2]; omega
      · simp [e1, e2]; omega
theorem cnt_more (r : UInt8 × UInt8) (rs : List (UInt8 × UInt8)) : cntS (inB (r :: rs)) ≤ cst r + cntS (inB rs) := by
  have e : ∀ b, inB (r :: rs) b = ((decide (r.1.toNat ≤ b) && decide (b ≤ r.2.toNat)) || inB rs b) := fun b => by simp [inB]
  unfold cntS
  have h := count_part r.1.toNat (min (r.2.toNat + 1) (r.1.toNat + 3)) 128
  refine Nat.le_trans (filter_le _ (fun b => (decide (r.1.toNat ≤ b) && decide (b < min (r.2.toNat + 1) (r.1.toNat + 3))) || (inB rs b && !(decide (3 ≤ b) && (inB rs (b - 1) && (inB rs (b - 2) && inB rs (b - 3)))))) _ fun b hb hx => ?_) (Nat.le_trans (filter_or _ _ _) ?_)
  · rw [e, e, e, e] at hx
    by_cases z : r.1.toNat ≤ b ∧ b < min (r.2.toNat + 1) (r.1.toNat + 3)
    · rw [decide_eq_true z.1, decide_eq_true z.2]; rfl
    · rw [show (decide (r.1.toNat ≤ b) && decide (b < min (r.2.toNat + 1) (r.1.toNat + 3))) = false by
        rw [Bool.and_eq_false_iff, decide_eq_false_iff_not, decide_eq_false_iff_not]; omega, Bool.false_or]
      simp only [Bool.and_eq_true, Bool.or_eq_true, Bool.not_eq_true', Bool.and_eq_false_iff, Bool.or_eq_false_iff, decide_eq_true_eq, decide_eq_false_iff_not] at hx ⊢
      obtain ⟨h1, h2⟩ := hx
      have h1' : inB rs b = true := by
        rcases h1 with h1 | h1
        · exfalso
          rcases h2 with h2 | h2 | h2 | h2
          · omega
          · rcases h2.1 with q | q <;> omega
          · rcases h2.1 with q | q <;> omega
          · rcases h2.1 with q | q <;> omega
        · exact h1
      refine ⟨h1', ?_⟩
      rcases h2 with h2 | h2 | h2 | h2
      · exact .inl h2
      · exact .inr (.inl h2.2)
      · exact .inr (.inr (.inl h2.2))
      · exact .inr (.inr (.inr h2.2))
  · refine Nat.add_le_add ?_ (Nat.le_refl _)
    refine Nat.le_trans h ?_
    unfold cst
    omega
theorem cnt_all : ∀ rs : List (UInt8 × UInt8), cntS (inB rs) ≤ (rs.map cst).sum
  | [] => by
    have : cntS (inB []) = 0 := by unfold cntS inB; rfl
    rw [this]; simp
  | r :: rs => by
    have h1 := cnt_more r rs
    have h2 := cnt_all rs
    simp only [List.map_cons, List.sum_cons]; omega
theorem hasN_cls (rs : List (UInt8 × UInt8)) (n : Nat) (h : n < 128) : hasN (clsT rs) n = inB rs n := by
  rw [Bool.eq_iff_iff, hasN_mem]
  constructor
  · rintro ⟨d, hd, rfl⟩; exact ((clsT_mem rs d).1 hd).2
  · intro hb
    refine ⟨UInt8.ofNat n, (clsT_mem rs _).2 ?_, by rw [UInt8.toNat_ofNat']; omega⟩
    have : (UInt8.ofNat n).toNat = n := by rw [UInt8.toNat_ofNat']; omega
    rw [this]; exact ⟨h, hb⟩
theorem cntL_cls (rs : List (UInt8 × UInt8)) : cntL (clsT rs) ≤ cntS (inB rs) := by
  unfold cntL cntS
  conv => lhs; arg 1; arg 2; unfold clsT
  rw [List.filter_map, List.length_map, List.filter_filter]
  refine filter_le _ _ _ fun b hb h => ?_
  have hb := List.mem_range.1 hb
  have eb : (UInt8.ofNat b).toNat = b := by rw [UInt8.toNat_ofNat']; omega
  simp only [Function.comp_apply, Bool.and_eq_true, eb] at h ⊢
  refine ⟨h.2, ?_⟩
  have := h.1
  unfold predsL at this
  by_cases h3 : 3 ≤ b
  · rw [hasN_cls rs _ (by omega), hasN_cls rs _ (by omega), hasN_cls rs _ (by omega)] at this
    exact this
  · simp [h3]
/-- A class's text is not longer than what it was read of. -/
theorem class_cost (rs : List (UInt8 × UInt8)) : (rngT (clsT rs)).length ≤ (rs.map cst).sum :=
  Nat.le_trans (cost_le _ _ (Nat.le_refl _) (clsT_rise rs)) (Nat.le_trans (cntL_cls rs) (cnt_all rs))
end Go.Proofs.YteahbdhhcfoiiaaDoor
/- name: what is read may be, and its text is not longer. -/
namespace Go.Proofs.YteahbdhhcfoiiaaDoor
set_option linter.unusedVariables false
set_option linter.unusedSimpArgs false
theorem fam_mid : ∀ (a b c : Nat), famI (a : Int) ≠ 0 → famI (b : Int) = famI (a : Int) → a ≤ c → c ≤ b → famI (c : Int) ≠ 0 := by
  intro a b c; unfold famI
  intro h1 h2 h3 h4
  (repeat' split) <;> (repeat' split at h1) <;> (repeat' split at h2) <;> omega
theorem item_fit2 {s : ByteArray} {i j : Nat} {r : UInt8 × UInt8} (h : itemA s i = (j, some r)) : ItOk r ∧ cst r ≤ j - i := by
  unfold itemA at h
  simp only at h
  split at h
  · rename_i q
    split at h
    · split at h
      · cases h
      · rename_i z
        split at h
        · rename_i y
          obtain ⟨rfl, rfl⟩ := Prod.mk.inj h |>.imp id Option.some.inj
          refine ⟨⟨q, .inr ⟨z, y.1, y.2⟩⟩, ?_⟩
          unfold cst; omega
        · cases h
    · obtain ⟨rfl, rfl⟩ := Prod.mk.inj h |>.imp id Option.some.inj
      refine ⟨⟨q, .inl rfl⟩, ?_⟩
      unfold cst; first | omega | (simp; omega) | simp
  · cases h
theorem class_fit2 {s : ByteArray} {f i j : Nat} {acc rs : List (UInt8 × UInt8)} (h : classA s f i acc = (j, some rs)) :
    ∃ ns, rs = acc ++ ns ∧ ns ≠ [] ∧ (∀ q ∈ ns, ItOk q) ∧ (ns.map cst).sum + 1 + i ≤ j := by
  induction f generalizing i acc with
  | zero => cases h
  | succ f ih =>
    unfold classA at h
    split at h
    · cases h
    · rename_i k r e
      obtain ⟨h1, h2⟩ := item_fit2 e
      have hk := (item_pos e).1
      split at h
      · cases h
        exact ⟨[r], rfl, by simp, by simpa using h1, by simp; omega⟩
      · obtain ⟨ns, e1, _, e3, e4⟩ := ih h
        refine ⟨r :: ns, by rw [e1]; simp, by simp, ?_, by simp only [List.map_cons, List.sum_cons]; omega⟩
        intro q hq
        rcases List.mem_cons.1 hq with rfl | hq
        · exact h1
        · exact e3 q hq
theorem clsT_class {rs : List (UInt8 × UInt8)} (h : ∀ q ∈ rs, ItOk q) : ∀ c ∈ clsT rs, cB c = true := by
  intro c hc
  obtain ⟨h1, h2⟩ := (clsT_mem rs c).1 hc
  unfold inB at h2
  rw [List.any_eq_true] at h2
  obtain ⟨q, hq, e⟩ := h2
  simp only [Bool.and_eq_true, decide_eq_true_eq] at e
  obtain ⟨k1, k2⟩ := h q hq
  rcases k2 with k2 | ⟨f1, f2, _⟩
  · have : c = q.1 := UInt8.toNat_inj.1 (by rw [← k2] at e; omega)
    rw [this]; exact k1
  · have := fam_mid q.1.toNat q.2.toNat c.toNat f1 f2 e.1 e.2
    unfold cB clsI
    simp [this]
theorem rise_of {l : List UInt8} (hne : l ≠ []) (hc : ∀ c ∈ l, cB c = true) (hp : l.Pairwise (fun x y => x.toNat < y.toNat)) : riseB ⟨l.toArray⟩ = true := by
  have sz : (⟨l.toArray⟩ : ByteArray).size = l.length := by rw [← lst_len, lst_mk l]
  have e : ∀ k (hk : k < l.length), nx ⟨l.toArray⟩ k = l[k] := fun k hk => by rw [nx_lt (by omega)]; rfl
  unfold riseB
  rw [sz, Bool.and_eq_true]
  constructor
  · refine all_yes fun k hk => ?_
    unfold riseA
    rw [e k hk, hc _ (List.getElem_mem _), Bool.true_and]
    by_cases z : k = 0
    · simp [z]
    · rw [e (k - 1) (by omega)]
      have := List.pairwise_iff_getElem.1 hp (k - 1) k (by omega) hk (by omega)
      simp [this]
  · have := List.length_pos_iff.2 hne
    exact decide_eq_true (by omega)
theorem stand_mk1 {t : ByteArray} (h1 : t.size ≠ 0) (h2 : bytesB t = true) : standB ⟨1, t, []⟩ = true := by
  unfold standB
  simp only [if_true]
  rw [decide_eq_true h1, h2]; rfl
theorem text_all (s : ByteArray) : ∀ (f i : Nat), s.size < f + i → i ≤ s.size → bytesB (s.extract i (textE s f i)) = true := by
  intro f
  induction f with
  | zero => intro i h1 h2; omega
  | succ f ih =>
    intro i h1 h2
    unfold textE
    split
    · rename_i q
      have hlt := nB_lt q
      have ge := textE_ge s f (i + 1)
      have r := ih (i + 1) (by omega) (by omega)
      have le := textE_le s f (i + 1) (by omega)
      unfold bytesB at r ⊢
      rw [lst_cut] at r ⊢
      rw [List.drop_eq_getElem_cons (by rw [lst_len]; exact hlt), show textE s f (i + 1) - i = (textE s f (i + 1) - (i + 1)) + 1 by omega, List.take_succ_cons, List.all_cons, r, Bool.and_true]
      have e : nx s i = (lst s)[i]'(by rw [lst_len]; exact hlt) := by rw [nx_lt hlt]; simp [lst]; rfl
      rw [← e]; exact q
    · have : s.extract i i = ByteArray.empty := by apply size_nil; simp
      rw [this]; rfl
theorem choice_fit2 {s : ByteArray} {f i j : Nat} {acc l : List ByteArray} (h : choiceA s f i acc = (j, .ok l)) (hi : i ≤ s.size) (hl : acc.length < 16) :
    ∃ ns, l = acc ++ ns ∧ ns ≠ [] ∧ (∀ a ∈ ns, bytesB a = true) ∧ l.length ≤ 16 ∧ (altsT ns).length + 1 + i ≤ j := by
  induction f generalizing i acc with
  | zero => cases h
  | succ f ih =>
    have g := textE_ge s (s.size + 1) i
    have le := textE_le s (s.size + 1) i hi
    have bt : bytesB (s.extract i (textE s (s.size + 1) i)) = true := text_all s (s.size + 1) i (by omega) hi
    have sz : (s.extract i (textE s (s.size + 1) i)).size = textE s (s.size + 1) i - i := by simp; omega
    unfold choiceA at h
    simp only at h
    split at h
    · cases h
      exact ⟨[s.extract i (textE s (s.size + 1) i)], rfl, by simp, by simpa using bt, by simp; omega, by simp [altsT, lst_len, sz]; omega⟩
    · split at h
      · rename_i y
        have l1 : textE s (s.size + 1) i < s.size := lt_of_nx (by rw [y]; decide)
        split at h
        · cases h
        · rename_i z
          obtain ⟨ns, e1, e2, e3, e4, e5⟩ := ih h l1 (by simp at z ⊢; omega)
          refine ⟨s.extract i (textE s (s.size + 1) i) :: ns, by rw [e1]; simp, by simp, ?_, e4, ?_⟩
          · intro q hq
            rcases List.mem_cons.1 hq with rfl | hq
            · exact bt
            · exact e3 q hq
          · cases ns with
            | nil => exact absurd rfl e2
            | cons b ns => simp only [altsT, List.length_append, List.length_cons, lst_len, sz] at e5 ⊢; omega
      · cases h
theorem piece_fit2 {s : ByteArray} {i j : Nat} {g : Gl} (h : pieceA s i = (j, .ok g)) (hi : i < s.size) :
    standB g = true ∧ (globT g).length + i ≤ j ∧ (g.k = 1 → nB (nx s i) = true ∧ nB (nx s j) = false) := by
  unfold pieceA at h
  simp only at h
  split at h
  · cases h; exact ⟨rfl, by rw [globT_2 rfl]; simp; omega, fun q => by simp at q⟩
  split at h
  · cases h; exact ⟨rfl, by rw [globT_3 rfl]; simp; omega, fun q => by simp at q⟩
  split at h
  · split at h
    · cases h
    · rename_i rs e
      obtain ⟨ns, e1, e2, e3, e4⟩ := class_fit2 e
      rw [List.nil_append] at e1
      subst e1
      cases h
      have hne : clsT rs ≠ [] := by
        intro z
        obtain ⟨q, t, hq⟩ : ∃ q t, rs = q :: t := by
          cases rs with
          | nil => exact absurd rfl e2
          | cons q t => exact ⟨q, t, rfl⟩
        have ok := e3 q (by rw [hq]; exact List.mem_cons_self)
        have : q.1 ∈ clsT rs := (clsT_mem rs q.1).2 ⟨by have := cls_small q.1 ok.c; exact this, by
          unfold inB; rw [List.any_eq_true]
          refine ⟨q, by rw [hq]; exact List.mem_cons_self, ?_⟩
          simp only [Bool.and_eq_true, decide_eq_true_eq]
          refine ⟨Nat.le_refl _, ?_⟩
          rcases ok.r with z | z
          · rw [z]; exact Nat.le_refl _
          · exact UInt8.le_iff_toNat_le.1 z.2.2⟩
        rw [z] at this; cases this
      have rb := rise_of hne (clsT_class e3) (clsT_rise rs)
      refine ⟨?_, ?_, fun q => by simp at q⟩
      · unfold standB
        rw [if_neg (by simp), if_neg (by simp), if_pos rfl, rb]; rfl
      · rw [globT_4 rfl]
        have c := class_cost rs
        rw [lst_mk (clsT rs)]
        simp only [List.length_cons, List.length_append, List.length_nil]
        omega
  split at h
  · split at h
    · cases h
    · rename_i l e
      obtain ⟨ns, e1, e2, e3, e4, e5⟩ := choice_fit2 e hi (by simp)
      rw [List.nil_append] at e1
      subst e1
      cases h
      refine ⟨?_, ?_, fun q => by simp at q⟩
      · unfold standB
        rw [if_neg (by simp), if_neg (by simp), if_neg (by simp), if_pos rfl]
        unfold chooseB
        simp only [Bool.and_eq_true, decide_eq_true_eq]
        exact ⟨rfl, List.all_eq_true.2 e3, List.length_pos_iff.2 e2, e4⟩
      · rw [globT_5 rfl]
        simp only [List.length_cons, List.length_append, List.length_nil]
        omega
  split at h
  · cases h
  · rename_i z
    cases h
    have ge := textE_ge s (s.size + 1) i
    have le := textE_le s (s.size + 1) i (by omega)
    have sz : (s.extract i (textE s (s.size + 1) i)).size = textE s (s.size + 1) i - i := by simp; omega
    refine ⟨stand_mk1 (by rw [sz]; omega) (text_all s _ i (by omega) (by omega)), ?_, fun _ => ⟨?_, textE_end s _ i (by omega)⟩⟩
    · rw [globT_1 rfl, lst_len, sz]; omega
    · cases e : nB (nx s i) with
      | true => rfl
      | false => exact absurd (textE_stop e) z
/-- The last piece, if it is a text, is not followed by a name byte. -/
theorem node_fit2 {s : ByteArray} {f i j : Nat} {acc l : List Gl} (h : nodeA s f i acc = (j, .ok l)) :
    ∃ ns, l = acc ++ ns ∧ (nodeT ns).length + i ≤ j ∧ chainB ns = true ∧ (∀ g r, ns = g :: r → g.k = 1 → nB (nx s i) = true) := by
  induction f generalizing i acc with
  | zero => cases h
  | succ f ih =>
    unfold nodeA at h
    split at h
    · rename_i q
      split at h
      · cases h
      · rename_i k g e
        obtain ⟨p1, p2, p3⟩ := piece_fit2 e q.1
        obtain ⟨ns, e1, e2, e3, e4⟩ := ih h
        refine ⟨g :: ns, by rw [e1]; simp, ?_, ?_, ?_⟩
        · rw [show nodeT (g :: ns) = globT g ++ nodeT ns from List.flatMap_cons .., List.length_append]; omega
        · cases ns with
          | nil => exact p1
          | cons g2 ns =>
            unfold chainB
            rw [p1, e3, Bool.true_and, Bool.and_true, Bool.not_eq_true', Bool.and_eq_false_iff, decide_eq_false_iff_not, decide_eq_false_iff_not]
            by_cases k1 : g.k = 1
            · right
              intro k2
              have := e4 g2 ns rfl k2
              rw [(p3 k1).2] at this; cases this
            · exact .inl k1
        · intro g' r' e' k1
          cases e'
          exact (p3 k1).1
    · split at h
      · cases h
      · cases h
        exact ⟨[], by simp, by simp [nodeT], rfl, fun g r e => by cases e⟩
theorem node_may {s : ByteArray} {f i j : Nat} {l : List Gl} (h : nodeA s f i [] = (j, .ok l)) : nodeMay l = true ∧ (nodeT l).length + i ≤ j := by
  obtain ⟨ns, e1, e2, e3, _⟩ := node_fit2 h
  rw [List.nil_append] at e1
  subst e1
  have := node_ne h
  unfold nodeMay
  rw [chain_place, e3, Bool.and_true]
  exact ⟨decide_eq_true (fun z => this (List.eq_nil_of_length_eq_zero z)), e2⟩
theorem pat_may {s : ByteArray} {f i j : Nat} {acc p : List (List Gl)} (h : patA s f i acc = (j, .ok p)) (hi : i ≤ s.size) (hl : acc.length < 16) :
    ∃ ns, p = acc ++ ns ∧ ns ≠ [] ∧ ns.all nodeMay = true ∧ p.length ≤ 16 ∧ (patT ns).length + i ≤ s.size ∧ j = 0 := by
  induction f generalizing i acc with
  | zero => cases h
  | succ f ih =>
    unfold patA at h
    split at h
    · cases h
    · rename_i k nd e
      obtain ⟨m1, m2⟩ := node_may e
      have ke : k ≤ s.size := by have := node_le (s := s) (f := s.size + 1) (acc := []) hi; rw [e] at this; exact this
      split at h
      · cases h
      · rename_i z
        split at h
        · rename_i y
          cases h
          exact ⟨[nd], rfl, by simp, by simpa using m1, by simp; omega, by simp [patT]; omega, rfl⟩
        · rename_i y
          obtain ⟨ns, e1, e2, e3, e4, e5, e6⟩ := ih h (by omega) (by
            rw [List.length_append]; simp
            rcases Nat.lt_or_ge (acc.length + 1) 16 with q | q
            · exact q
            · exact absurd ⟨by omega, by omega⟩ z)
          refine ⟨nd :: ns, by rw [e1]; simp, by simp, by rw [List.all_cons, m1, e3]; rfl, e4, ?_, e6⟩
          cases ns with
          | nil => exact absurd rfl e2
          | cons b ns => simp only [patT, List.length_append, List.length_cons] at e5 ⊢; omega
/-- What is read may be; its text is not longer than what it was read of. -/
theorem comp_may {s : ByteArray} {j : Nat} {p : List (List Gl)} (h : compA s = (j, .ok p)) : mayB p = true ∧ (patT p).length ≤ s.size ∧ s.size ≤ 400 ∧ j = 0 := by
  unfold compA at h
  split at h
  · cases h
  · obtain ⟨ns, e1, e2, e3, e4, e5, e6⟩ := pat_may h (Nat.zero_le _) (by simp)
    rw [List.nil_append] at e1
    subst e1
    refine ⟨?_, by omega, by omega, e6⟩
    unfold mayB
    rw [e3, Bool.and_true, Bool.and_eq_true, decide_eq_true_eq, decide_eq_true_eq]
    exact ⟨List.length_pos_iff.2 e2, e4⟩
end Go.Proofs.YteahbdhhcfoiiaaDoor
/- name: weights of patterns that were read. -/
namespace Go.Proofs.YteahbdhhcfoiiaaDoor
set_option linter.unusedVariables false
set_option linter.unusedSimpArgs false
open Go.RowKit W
theorem globW_text {g : Gl} (h : standB g = true) : globW g ≤ 130 * (globT g).length := by
  unfold globW
  rcases stand_kind h with k | k | k | k | k
  · obtain ⟨h1, _, h3⟩ := stand_text h k
    rw [globT_1 k, lst_len, h3]; simp [altsW]; omega
  · obtain ⟨h1, h3⟩ := stand_plain h (.inl k)
    rw [globT_2 k, h1, h3]; simp [altsW]
  · obtain ⟨h1, h3⟩ := stand_plain h (.inr k)
    rw [globT_3 k, h1, h3]; simp [altsW]
  · obtain ⟨h1, h3⟩ := stand_cls h k
    have sz : g.t.size ≤ 128 := by
      have h2 := clsT_back h1
      have h4 : (clsT (rngR (lst g.t).length (lst g.t))).length ≤ 128 := by
        unfold clsT
        rw [List.length_map]
        exact Nat.le_trans (List.length_filter_le _ _) (by simp)
      rw [h2, lst_len] at h4; exact h4
    rw [globT_4 k, h3]; simp [altsW]; omega
  · obtain ⟨h1, _, h3, _⟩ := stand_cho h k
    have aw : ∀ al : List ByteArray, al ≠ [] → altsW al = (altsT al).length + 1 := by
      intro al
      induction al with
      | nil => intro h; exact absurd rfl h
      | cons a r ih =>
        intro _
        cases r with
        | nil => simp [altsW, altsT, lst_len]
        | cons b r =>
          have := ih (by simp)
          simp only [altsW, altsT, List.map_cons, List.sum_cons, List.length_append, List.length_cons, lst_len] at this ⊢
          omega
    rw [globT_5 k, h1, aw _ h3]; simp; omega
theorem nodeW_text {gs : List Gl} (hne : gs ≠ []) (h : ∀ g ∈ gs, standB g = true) : nodeW gs ≤ 131 * (nodeT gs).length := by
  have h1 : ∀ l : List Gl, (∀ g ∈ l, standB g = true) → (l.map globW).sum ≤ 130 * (nodeT l).length := by
    intro l
    induction l with
    | nil => intro _; simp
    | cons g r ih =>
      intro hl
      have a := globW_text (hl g List.mem_cons_self)
      have b := ih fun x hx => hl x (List.mem_cons_of_mem _ hx)
      rw [show nodeT (g :: r) = globT g ++ nodeT r from List.flatMap_cons .., List.length_append]
      simp only [List.map_cons, List.sum_cons]; omega
  have h2 := h1 gs h
  have h3 : 1 ≤ (nodeT gs).length := by
    cases gs with
    | nil => exact absurd rfl hne
    | cons g r =>
      obtain ⟨c, m, e, _⟩ := glob_head (h g List.mem_cons_self)
      rw [show nodeT (g :: r) = globT g ++ nodeT r from List.flatMap_cons .., e]; simp
  unfold nodeW; omega
theorem patW_text : ∀ p : List (List Gl), (∀ gs ∈ p, gs ≠ [] ∧ ∀ g ∈ gs, standB g = true) → patW p ≤ 131 * (patT p).length
  | [], _ => by simp [patW]
  | [a], h => by
    have := nodeW_text (h a List.mem_cons_self).1 (h a List.mem_cons_self).2
    simp [patW, patT]; omega
  | a :: b :: r, h => by
    have h1 := nodeW_text (h a List.mem_cons_self).1 (h a List.mem_cons_self).2
    have h2 := patW_text (b :: r) fun x hx => h x (List.mem_cons_of_mem _ hx)
    simp only [patW, patT, List.map_cons, List.sum_cons, List.length_append, List.length_cons] at h2 ⊢
    omega
theorem patW_may {p : List (List Gl)} (h : mayB p = true) : patW p ≤ 131 * (patT p).length := by
  refine patW_text p fun gs hgs => ⟨?_, fun g hg => stand_of p h hgs hg⟩
  intro e
  exact may_node p h hgs (by rw [e]; rfl)
theorem ptw_of {p : List (List Gl)} (h : patW p ≤ 140737488351232) : PtW p := by
  have e1 : ∀ l : List (List Gl), l.length ≤ patW l := by
    intro l
    induction l with
    | nil => simp
    | cons x r ih => simp only [patW, List.length_cons, List.map_cons, List.sum_cons] at ih ⊢; unfold nodeW at ih ⊢; omega
  have e2 : ∀ l : List Gl, l.length ≤ nodeW l := by
    intro l
    induction l with
    | nil => simp
    | cons x r ih => simp only [nodeW, List.length_cons, List.map_cons, List.sum_cons] at ih ⊢; unfold globW at ih ⊢; omega
  have e3 : ∀ l : List ByteArray, l.length ≤ altsW l := by
    intro l
    induction l with
    | nil => simp
    | cons x r ih => simp only [List.length_cons, altsW, List.map_cons, List.sum_cons] at ih ⊢; omega
  refine ⟨by have := e1 p; omega, fun gs hgs => ?_, fun gs hgs g hg => ?_⟩
  · have h1 := sum_mem_le nodeW hgs
    have h2 := e2 gs
    unfold patW at h; omega
  · have w := globW_le p gs g hgs hg
    have h3 := e3 g.al
    unfold globW at w
    refine ⟨by omega, by omega, fun a ha => ?_⟩
    have h4 := sum_mem_le (fun a : ByteArray => a.size + 1) ha
    unfold altsW at w
    omega
end Go.Proofs.YteahbdhhcfoiiaaDoor
/- NameJoins: the law's walk. -/
namespace Go.Proofs.YteahbdhhcfoiiaaDoor
set_option linter.unusedVariables false
set_option linter.unusedSimpArgs false
open Go.RowKit W
/-- Texts joined by points, the first k of them. -/
def joinN (l : List ByteArray) : Nat → ByteArray
  | 0 => ⟨#[]⟩
  | k + 1 => (if k = 0 then ⟨#[]⟩ else joinN l k ++ ⟨#[46]⟩) ++ l.getD k ⟨#[]⟩
theorem lst_app (a b : ByteArray) : lst (a ++ b) = lst a ++ lst b := by simp [lst]
theorem cutL_snoc (c : UInt8) (a b acc : List UInt8) : cutL c acc (a ++ c :: b) = cutL c acc a ++ cutL c [] b := by
  induction a generalizing acc with
  | nil => simp [cutL]
  | cons x r ih =>
    show (if x = c then acc :: cutL c [] (r ++ c :: b) else cutL c (acc ++ [x]) (r ++ c :: b)) = _
    rw [cutL]
    split
    · rw [ih]; rfl
    · rw [ih]
theorem join_cut (l : List ByteArray) (hp : ∀ x ∈ l, (46 : UInt8) ∉ lst x) : ∀ k, 0 < k → k ≤ l.length → cutL 46 [] (lst (joinN l k)) = (l.take k).map lst := by
  intro k
  induction k with
  | zero => intro h; omega
  | succ k ih =>
    intro _ hk
    have hg : l.getD k ⟨#[]⟩ = l[k] := by simp [List.getD_eq_getElem?_getD, show k < l.length by omega]
    have hn := hp l[k] (List.getElem_mem _)
    rw [List.take_succ_eq_append_getElem (by omega), List.map_append]
    unfold joinN
    by_cases z : k = 0
    · subst z
      rw [if_pos rfl, lst_app, hg]
      show cutL 46 [] ([] ++ lst l[0]) = _
      rw [List.nil_append, cutL_none 46 _ _ hn]; rfl
    · rw [if_neg z, lst_app, lst_app, hg]
      show cutL 46 [] (lst (joinN l k) ++ [46] ++ lst l[k]) = _
      rw [List.append_assoc]
      show cutL 46 [] (lst (joinN l k) ++ 46 :: lst l[k]) = _
      rw [cutL_snoc, ih (by omega) (by omega), cutL_none 46 _ _ hn]; rfl
/-- May the texts be nodes? -/
def fineN (l : List ByteArray) : Bool := (decide (1 ≤ l.length) && decide (l.length ≤ 16)) && l.all fun x => nodeB (lst x)
theorem nodeB_eq (x : ByteArray) : nodeB (lst x) = (decide (x.size ≠ 0) && bytesB x) := by
  unfold nodeB bytesB
  congr 1
  rw [← lst_len x]
  cases lst x with
  | nil => rfl
  | cons a r => simp
theorem join_valid (l : List ByteArray) (hp : ∀ x ∈ l, (46 : UInt8) ∉ lst x) : validN (lst (joinN l l.length)) = (fineN l && decide ((joinN l l.length).size ≤ 200)) := by
  rw [valid_cut, lst_len]
  by_cases z : l.length = 0
  · have : l = [] := List.length_eq_zero_iff.1 z
    subst this; decide
  · rw [join_cut l hp _ (by omega) (Nat.le_refl _), List.take_length]
    unfold fineN
    rw [List.all_map, List.length_map, decide_eq_true (show 1 ≤ l.length by omega), Bool.true_and, Bool.and_comm]
    congr 1
    rw [Bool.and_comm]; rfl
theorem join_nodes (l : List ByteArray) (hp : ∀ x ∈ l, (46 : UInt8) ∉ lst x) (h : validN (lst (joinN l l.length)) = true) : nodesL (joinN l l.length) = l := by
  refine map_lst_inj ?_
  rw [nodesL_yes h]
  by_cases z : l.length = 0
  · have : l = [] := List.length_eq_zero_iff.1 z
    subst this; exact absurd h (by decide)
  · rw [join_cut l hp _ (by omega) (Nat.le_refl _), List.take_length]
theorem join_size (l : List ByteArray) (k : Nat) (h : ∀ j (q : j < l.length), j < k → l[j].size ≤ 200) (hk : k ≤ l.length) : (joinN l k).size ≤ k * 201 := by
  induction k with
  | zero => exact Nat.zero_le _
  | succ k ih =>
    have hg : l.getD k ⟨#[]⟩ = l[k] := by simp [List.getD_eq_getElem?_getD, show k < l.length by omega]
    have h1 := h k (by omega) (by omega)
    have h2 := ih (fun j q hj => h j q (by omega)) (by omega)
    unfold joinN
    rw [ByteArray.size_append, hg]
    split
    · have : (⟨#[]⟩ : ByteArray).size = 0 := rfl
      omega
    · rw [ByteArray.size_append]
      have : (⟨#[46]⟩ : ByteArray).size = 1 := rfl
      omega
theorem long_not {x : ByteArray} (h : 200 < x.size) : validN x.data.toList = false := by
  unfold validN
  rw [decide_eq_false (by have : x.data.toList.length = x.size := Array.length_toList; omega)]; rfl
/-- So far. -/
def fineK (l : List ByteArray) (k : Nat) : Bool := (decide (1 ≤ l.length) && decide (l.length ≤ 16)) && (l.take k).all fun x => nodeB (lst x)
theorem fineK_step (l : List ByteArray) (k : Nat) (h : k < l.length) : fineK l (k + 1) = (fineK l k && nodeB (lst l[k])) := by
  unfold fineK
  rw [List.take_succ_eq_append_getElem h, List.all_append]
  simp [Bool.and_assoc]
theorem fineK_all (l : List ByteArray) : fineK l l.length = fineN l := by unfold fineK fineN; rw [List.take_length]
/-- Is there a point in the first k texts? -/
def ptsK (l : List ByteArray) (k : Nat) : Bool := (l.take k).any fun x => (lst x).contains 46
theorem ptsK_step (l : List ByteArray) (k : Nat) (h : k < l.length) : ptsK l (k + 1) = (ptsK l k || (lst l[k]).contains 46) := by
  unfold ptsK
  rw [List.take_succ_eq_append_getElem h, List.any_append]
  simp
theorem ptsK_no (l : List ByteArray) (h : ptsK l l.length = false) : ∀ x ∈ l, (46 : UInt8) ∉ lst x := by
  intro x hx q
  unfold ptsK at h
  rw [List.take_length, List.any_eq_false] at h
  exact h x hx (by simpa using q)
theorem has_step (x : ByteArray) (k : Nat) (h : k < x.size) : ((lst x).take (k + 1)).contains 46 = (((lst x).take k).contains 46 || (x[k] == 46)) := by
  have hl : k < (lst x).length := by rw [lst_len]; exact h
  rw [List.take_succ_eq_append_getElem hl]
  have e : (lst x)[k] = x[k] := rfl
  rw [Bool.eq_iff_iff]
  simp only [List.contains_iff_mem, List.mem_append, Bool.or_eq_true, List.mem_singleton, beq_iff_eq]
  rw [e]
  constructor
  · rintro (h | h); exact .inl h; exact .inr h.symm
  · rintro (h | h); exact .inl h; exact .inr h.symm
end Go.Proofs.YteahbdhhcfoiiaaDoor
/- name: names as patterns, stars, choices: plain. -/
namespace Go.Proofs.YteahbdhhcfoiiaaDoor
set_option linter.unusedVariables false
set_option linter.unusedSimpArgs false
/-- Texts with points between. -/
def jn : List (List UInt8) → List UInt8
  | [] => []
  | [a] => a
  | a :: b :: r => a ++ 46 :: jn (b :: r)
theorem jn_cut : ∀ (l acc : List UInt8), jn (cutL 46 acc l) = acc ++ l
  | [], acc => by simp [cutL, jn]
  | x :: r, acc => by
    unfold cutL
    split
    · rename_i e
      have h := cutL_pos 46 r []
      have ih := jn_cut r []
      cases hc : cutL 46 [] r with
      | nil => rw [hc] at h; simp at h
      | cons b m =>
        rw [hc] at ih
        simp only [jn, ih, e, List.nil_append]
    · rw [jn_cut r (acc ++ [x])]; simp
def oneP (ts : List ByteArray) : List (List Gl) := ts.map fun t => [⟨1, t, []⟩]
theorem oneP_text : ∀ ts : List ByteArray, patT (oneP ts) = jn (ts.map lst)
  | [] => rfl
  | [a] => by simp [oneP, patT, nodeT, globT_1, jn]
  | a :: b :: r => by
    have ih := oneP_text (b :: r)
    simp only [oneP, List.map_cons, patT, jn] at ih ⊢
    rw [ih]; simp [nodeT, globT_1]
theorem nodeMay_one (t : ByteArray) : nodeMay [⟨1, t, []⟩] = nodeB (lst t) := by
  rw [nodeB_eq]
  unfold nodeMay
  rw [chain_place]
  simp [chainB, standB]
theorem oneP_may {s : ByteArray} (h : validN (lst s) = true) : mayB (oneP (nodesL s)) = true := by
  have hc := nodesL_yes h
  rw [valid_cut] at h
  simp only [Bool.and_eq_true, decide_eq_true_eq] at h
  obtain ⟨_, h1, h2⟩ := h
  rw [← hc] at h1 h2
  have hl := cutL_pos 46 (lst s) []
  rw [← hc] at hl
  simp only [List.length_map] at h2 hl
  unfold mayB oneP
  simp only [List.length_map, Bool.and_eq_true, decide_eq_true_eq]
  refine ⟨⟨hl, h2⟩, ?_⟩
  rw [List.all_eq_true]
  intro gs hgs
  obtain ⟨t, ht, rfl⟩ := List.mem_map.1 hgs
  rw [nodeMay_one]
  exact List.all_eq_true.1 h1 _ (List.mem_map_of_mem ht)
theorem oneP_is {s : ByteArray} (h : validN (lst s) = true) : patT (oneP (nodesL s)) = lst s := by
  rw [oneP_text, nodesL_yes h, jn_cut, List.nil_append]
/-- P3.3: a name is read as its nodes. -/
theorem comp_name {s : ByteArray} (h : validN (lst s) = true) : compA s = (0, .ok (oneP (nodesL s))) := by
  have h1 := comp_back _ (oneP_may h) (by rw [oneP_is h, lst_len]; have := valid_size h; omega)
  have e : (⟨(lst s).toArray⟩ : ByteArray) = s := lst_inj (lst_mk (lst s))
  rw [oneP_is h, e] at h1
  exact h1
theorem plain_name {s : ByteArray} (h : validN (lst s) = true) : plainA (oneP (nodesL s)) = (s, true) := by
  have e : (⟨(lst s).toArray⟩ : ByteArray) = s := lst_inj (lst_mk (lst s))
  unfold plainA
  rw [oneP_is h, if_pos, e]
  refine ⟨oneP_may h, ?_, h⟩
  unfold oneP
  rw [List.all_eq_true]
  intro gs hgs
  obtain ⟨t, _, rfl⟩ := List.mem_map.1 hgs
  rfl
/-- A way through a node's pieces. -/
def Path (s : ByteArray) : List Gl → Nat → Nat → Prop
  | [], i, j => i = j
  | g :: gs, i, j => ∃ k, k ≤ s.size ∧ goB g s i k = true ∧ Path s gs k j
theorem fold_path (s : ByteArray) : ∀ (gs : List Gl) (R : List Bool) (j : Nat), j ≤ s.size → R.length = s.size + 1 →
    ((gs.foldl (fun R g => stepR g s R) R).getD j false = true ↔ ∃ i, i ≤ s.size ∧ R.getD i false = true ∧ Path s gs i j)
  | [], R, j, hj, hl => by
    constructor
    · intro h; exact ⟨j, hj, h, rfl⟩
    · rintro ⟨i, _, h, rfl⟩; exact h
  | g :: gs, R, j, hj, hl => by
    rw [List.foldl_cons, fold_path s gs _ j hj (stepR_len _ _ _)]
    constructor
    · rintro ⟨k, hk, h, p⟩
      rw [List.getD_eq_getElem?_getD, stepR_at _ _ _ _ (by omega), Option.getD_some, List.any_eq_true] at h
      obtain ⟨i, hi, h2⟩ := h
      rw [Bool.and_eq_true] at h2
      have := List.mem_range.1 hi
      exact ⟨i, by omega, h2.1, k, hk, h2.2, p⟩
    · rintro ⟨i, hi, h, k, hk, h2, p⟩
      refine ⟨k, hk, ?_, p⟩
      rw [List.getD_eq_getElem?_getD, stepR_at _ _ _ _ (by omega), Option.getD_some, List.any_eq_true]
      exact ⟨i, List.mem_range.2 (by omega), by rw [h, h2]; rfl⟩
theorem mNode_path (gs : List Gl) (s : ByteArray) : mNode gs s = true ↔ Path s gs 0 s.size := by
  unfold mNode
  rw [fold_path s gs _ _ (Nat.le_refl _) (startR_len s)]
  constructor
  · rintro ⟨i, hi, h, p⟩
    have : i = 0 := by
      cases i with
      | zero => rfl
      | succ i => unfold startR at h; rw [List.getD_cons_succ, List.getD_eq_getElem?_getD] at h; simp [List.getElem?_replicate] at h; split at h <;> simp at h
    rw [← this]; exact p
  · intro p; exact ⟨0, Nat.zero_le _, rfl, p⟩
theorem pre_iff (a s : ByteArray) (i : Nat) : preB a s i = true ↔ ∃ r, (lst s).drop i = lst a ++ r := by
  unfold preB
  rw [List.isPrefixOf_iff_prefix]
  exact ⟨fun ⟨r, h⟩ => ⟨r, h.symm⟩, fun ⟨r, h⟩ => ⟨r, h.symm⟩⟩
/-- A text's way. -/
theorem go_text {t s : ByteArray} {i k : Nat} (hi : i ≤ s.size) : goB ⟨1, t, []⟩ s i k = true ↔ k = i + t.size ∧ ∃ r, (lst s).drop i = lst t ++ r := by
  unfold goB
  simp only [show ¬ ((1 : Int) = 2) by decide, show ¬ ((1 : Int) = 3) by decide, show ¬ ((1 : Int) = 4) by decide, show ¬ ((1 : Int) = 5) by decide, if_false, Bool.and_eq_true, pre_iff, decide_eq_true_eq]
  exact ⟨fun ⟨a, b⟩ => ⟨b, a⟩, fun ⟨a, b⟩ => ⟨b, a⟩⟩
theorem go_alts {al : List ByteArray} {s : ByteArray} {i k : Nat} : goB ⟨5, ByteArray.empty, al⟩ s i k = true ↔ ∃ a ∈ al, k = i + a.size ∧ ∃ r, (lst s).drop i = lst a ++ r := by
  unfold goB
  simp only [show ¬ ((5 : Int) = 2) by decide, show ¬ ((5 : Int) = 3) by decide, show ¬ ((5 : Int) = 4) by decide, if_false, if_true, List.any_eq_true, Bool.and_eq_true, pre_iff, decide_eq_true_eq]
  exact ⟨fun ⟨a, h, b, c⟩ => ⟨a, h, c, b⟩, fun ⟨a, h, b, c⟩ => ⟨a, h, c, b⟩⟩
theorem path_texts {s : ByteArray} (ts : List ByteArray) : ∀ i, i ≤ s.size → (Path s (ts.map fun t => ⟨1, t, []⟩) i s.size ↔ (lst s).drop i = (ts.map lst).flatten) := by
  induction ts with
  | nil =>
    intro i hi
    simp only [List.map_nil, List.flatten_nil, Path]
    constructor
    · intro h; rw [h]; exact List.drop_eq_nil_of_le (by rw [lst_len]; exact Nat.le_refl _)
    · intro h; have := congrArg List.length h; rw [List.length_drop, lst_len] at this; simp at this; omega
  | cons t ts ih =>
    intro i hi
    simp only [List.map_cons, List.flatten_cons, Path]
    constructor
    · rintro ⟨k, hk, h, p⟩
      obtain ⟨rfl, r, e⟩ := (go_text hi).1 h
      have h2 := (ih _ hk).1 p
      rw [← List.drop_drop, e, ← lst_len, List.drop_left] at h2
      rw [e, h2]
    · intro h
      have hl := congrArg List.length h
      rw [List.length_drop, lst_len, List.length_append, lst_len] at hl
      have hk : i + t.size ≤ s.size := by omega
      refine ⟨i + t.size, hk, (go_text hi).2 ⟨rfl, _, h⟩, (ih _ hk).2 ?_⟩
      rw [← List.drop_drop, h, ← lst_len, List.drop_left]
theorem mNode_one (t s : ByteArray) : mNode [⟨1, t, []⟩] s = decide (s = t) := by
  rw [Bool.eq_iff_iff, mNode_path, decide_eq_true_eq]
  have := path_texts (s := s) [t] 0 (Nat.zero_le _)
  simp only [List.map_cons, List.map_nil, List.flatten_cons, List.flatten_nil, List.append_nil, List.drop_zero] at this
  rw [this]
  exact ⟨fun h => lst_inj h, fun h => by rw [h]⟩
theorem mNode_any (t s : ByteArray) : mNode [⟨2, t, []⟩] s = true := by
  rw [mNode_path]
  exact ⟨s.size, Nat.le_refl _, by simp [goB], rfl⟩
theorem nodes_pos {s : ByteArray} (h : validN (lst s) = true) : 0 < (nodesL s).length := by
  have hc := congrArg List.length (nodesL_yes h)
  have hl := cutL_pos 46 (lst s) []
  rw [List.length_map] at hc; omega
theorem nodes_inj {s o : ByteArray} (h : validN (lst s) = true) (e : nodesL o = nodesL s) : o = s := by
  have hp := nodes_pos h
  cases ho : validN (lst o) with
  | false => rw [← e, nodesL_no ho] at hp; simp at hp
  | true =>
    have h1 := nodesL_yes h
    have h2 := nodesL_yes ho
    rw [e, h1] at h2
    have := congrArg jn h2
    rw [jn_cut, jn_cut] at this
    exact lst_inj (by simpa using this.symm)
/-- P3.5: it has just this name. -/
theorem mat_name {s : ByteArray} (h : validN (lst s) = true) (o : ByteArray) : matB (oneP (nodesL s)) o = decide (s = o) := by
  unfold matB
  rw [oneP_may h, Bool.true_and, Bool.eq_iff_iff, Bool.and_eq_true, decide_eq_true_eq, decide_eq_true_eq, List.all_eq_true]
  have hlen : (oneP (nodesL s)).length = (nodesL s).length := by simp [oneP]
  rw [hlen]
  constructor
  · rintro ⟨h1, h2⟩
    refine (nodes_inj h (List.ext_getElem h1 fun i hi hi2 => ?_)).symm
    have := h2 i (List.mem_range.2 hi2)
    have e1 : (oneP (nodesL s)).getD i [] = [⟨1, (nodesL s)[i], []⟩] := by
      rw [List.getD_eq_getElem?_getD, List.getElem?_eq_getElem (by rw [hlen]; exact hi2)]; simp [oneP]
    have e2 : (nodesL o).getD i ⟨#[]⟩ = (nodesL o)[i] := by rw [List.getD_eq_getElem?_getD, List.getElem?_eq_getElem hi]; rfl
    rw [e1, e2, mNode_one] at this
    exact of_decide_eq_true this
  · rintro rfl
    refine ⟨rfl, fun i hi => ?_⟩
    have hi2 := List.mem_range.1 hi
    have e1 : (oneP (nodesL s)).getD i [] = [⟨1, (nodesL s)[i], []⟩] := by
      rw [List.getD_eq_getElem?_getD, List.getElem?_eq_getElem (by rw [hlen]; exact hi2)]; simp [oneP]
    have e2 : (nodesL s).getD i ⟨#[]⟩ = (nodesL s)[i] := by rw [List.getD_eq_getElem?_getD, List.getElem?_eq_getElem hi2]; rfl
    rw [e1, e2, mNode_one]
    exact decide_eq_true rfl
/-- As many stars. -/
def starP (n : Nat) : List (List Gl) := List.replicate n [⟨2, ByteArray.empty, []⟩]
theorem starP_text (n : Nat) (h : 0 < n) : patT (starP (n + 1)) = patT (starP n) ++ [46, 42] := by
  unfold starP
  rw [List.replicate_succ', patT_more _ _ (by intro e; have := congrArg List.length e; simp at this; omega)]
  simp [nodeT, globT_2]
theorem starP_one : patT (starP 1) = [42] := by simp [starP, patT, nodeT, globT_2]
theorem starP_len (n : Nat) (h : 0 < n) : (patT (starP n)).length = 2 * n - 1 := by
  induction n with
  | zero => omega
  | succ n ih =>
    by_cases z : n = 0
    · subst z; rw [starP_one]; rfl
    · rw [starP_text n (by omega), List.length_append, ih (by omega)]; simp; omega
theorem starP_may (n : Nat) (h1 : 1 ≤ n) (h2 : n ≤ 16) : mayB (starP n) = true := by
  unfold mayB starP
  simp only [List.length_replicate, Bool.and_eq_true, decide_eq_true_eq]
  refine ⟨⟨h1, h2⟩, ?_⟩
  rw [List.all_eq_true]
  intro gs hgs
  rw [(List.mem_replicate.1 hgs).2]
  rfl
theorem mat_stars (n : Nat) (h1 : 1 ≤ n) (h2 : n ≤ 16) (o : ByteArray) : matB (starP n) o = decide ((nodesL o).length = n) := by
  unfold matB
  rw [starP_may n h1 h2, Bool.true_and]
  have : (List.range (starP n).length).all (fun i => mNode ((starP n).getD i []) ((nodesL o).getD i ⟨#[]⟩)) = true := by
    rw [List.all_eq_true]
    intro i hi
    have hi := List.mem_range.1 hi
    have hl : (starP n).length = n := by simp [starP]
    have e : (starP n).getD i [] = [⟨2, ByteArray.empty, []⟩] := by
      rw [List.getD_eq_getElem?_getD, List.getElem?_eq_getElem hi]; simp [starP]
    rw [e]; exact mNode_any _ _
  rw [this, Bool.and_true]
  simp [starP]
end Go.Proofs.YteahbdhhcfoiiaaDoor
/- name: what Clean gives, plain. -/
namespace Go.Proofs.YteahbdhhcfoiiaaDoor
set_option linter.unusedVariables false
set_option linter.unusedSimpArgs false
def blI (r : Int) : Bool := decide (r = 32) || (decide (r = 160) || (decide (r = 8232) || (decide (r = 8233) || (decide (r = 12288) || (decide (r = 65279) || (decide (9 ≤ r) && decide (r ≤ 13)))))))
def swOne (r : Nat) (was : Bool) : List UInt8 :=
  if (blI (r : Int) && !was) = true then [95] else if r = 47 then [45] else if r = 46 ∨ (r < 128 ∧ nB (UInt8.ofNat r) = true) then [UInt8.ofNat r] else []
def swF (s : ByteArray) : Nat → Nat → Bool → List UInt8
  | 0, _, _ => []
  | f + 1, p, was => if p < s.size then swOne (Utf8.decode s p).1 was ++ swF s f (p + (Utf8.decode s p).2) (blI ((Utf8.decode s p).1 : Int)) else []
def swL (s : ByteArray) : List UInt8 := swF s s.size 0 false
theorem width_pos (s : ByteArray) (pos : Nat) (h : pos < s.size) : 1 ≤ (Utf8.decode s pos).2 := by
  by_cases ha : (s[pos]'h).toNat < 128
  · rw [decode_ascii s pos h ha]; exact Nat.le_refl _
  · exact (decode_high s pos h (by omega)).2
theorem swOne_len (r : Nat) (was : Bool) : (swOne r was).length ≤ 1 := by
  unfold swOne
  (repeat' split) <;> simp
theorem swF_len (s : ByteArray) : ∀ (f p : Nat) (was : Bool), (swF s f p was).length ≤ s.size - p
  | 0, p, was => by simp [swF]
  | f + 1, p, was => by
    unfold swF
    split
    · rename_i h
      have h1 := width_pos s p h
      have h2 := swOne_len (Utf8.decode s p).1 was
      have h3 := swF_len s f (p + (Utf8.decode s p).2) (blI ((Utf8.decode s p).1 : Int))
      rw [List.length_append]; omega
    · simp
theorem swF_end (s : ByteArray) (f p : Nat) (was : Bool) (h : ¬ p < s.size) : swF s f p was = [] := by
  cases f with
  | zero => rfl
  | succ f => simp [swF, h]
theorem swF_more (s : ByteArray) : ∀ (f g p : Nat) (was : Bool), s.size ≤ p + f → s.size ≤ p + g → swF s f p was = swF s g p was
  | 0, g, p, was, h, _ => by rw [swF_end s g p was (by omega)]; rfl
  | f + 1, 0, p, was, _, h => by rw [swF_end s (f + 1) p was (by omega)]; rfl
  | f + 1, g + 1, p, was, h, k => by
    unfold swF
    split
    · rename_i q
      have := width_pos s p q
      rw [swF_more s f g _ _ (by omega) (by omega)]
    · rfl
theorem swF_step (s : ByteArray) (p : Nat) (was : Bool) (h : p < s.size) : swF s (s.size - p) p was = swOne (Utf8.decode s p).1 was ++ swF s (s.size - (p + (Utf8.decode s p).2)) (p + (Utf8.decode s p).2) (blI ((Utf8.decode s p).1 : Int)) := by
  have hw := width_pos s p h
  obtain ⟨f, hf⟩ : ∃ f, s.size - p = f + 1 := ⟨s.size - p - 1, by omega⟩
  rw [hf]
  rw [show swF s (f + 1) p was = swOne (Utf8.decode s p).1 was ++ swF s f (p + (Utf8.decode s p).2) (blI ((Utf8.decode s p).1 : Int)) by rw [swF]; rw [if_pos h]]
  rw [swF_more s f (s.size - (p + (Utf8.decode s p).2)) _ _ (by omega) (by omega)]
/-- The nodes that hold something, with points between. -/
def fullL (l : List UInt8) : List (List UInt8) := (cutL 46 [] l).filter fun x => !x.isEmpty
def cleanL (l : List UInt8) : List UInt8 := jn (fullL l)
/-- P3.2. -/
def cleanA (s : ByteArray) : ByteArray × Bool := if validN (cleanL (swL s)) = true then (⟨(cleanL (swL s)).toArray⟩, true) else (⟨#[]⟩, false)
theorem jn_join : ∀ l : List (List UInt8), Lib.join l [46] = jn l
  | [] => rfl
  | [a] => by simp [Lib.join, List.intercalate, List.intersperse, jn]
  | a :: b :: r => by
    have := jn_join (b :: r)
    simp only [Lib.join, List.intercalate, List.intersperse, jn, List.flatten_cons] at this ⊢
    rw [this]; rfl
theorem jn_len : ∀ l : List (List UInt8), (jn l).length + 1 ≤ (l.map fun x => x.length + 1).sum + 1
  | [] => by simp [jn]
  | [a] => by simp [jn]
  | a :: b :: r => by
    have := jn_len (b :: r)
    simp only [jn, List.length_append, List.length_cons, List.map_cons, List.sum_cons] at this ⊢
    omega
theorem cut_sum : ∀ (l acc : List UInt8), ((cutL 46 acc l).map fun x => x.length + 1).sum = acc.length + l.length + 1
  | [], acc => by simp [cutL]
  | x :: r, acc => by
    unfold cutL
    split
    · simp only [List.map_cons, List.sum_cons, cut_sum r [], List.length_cons, List.length_nil]; omega
    · rw [cut_sum r]; simp; omega
theorem sum_filter {α : Type} (f : α → Nat) (p : α → Bool) : ∀ l : List α, ((l.filter p).map f).sum ≤ (l.map f).sum
  | [] => by simp
  | a :: l => by
    have := sum_filter f p l
    simp only [List.filter_cons]
    split <;> (simp only [List.map_cons, List.sum_cons]; omega)
theorem cleanL_len (l : List UInt8) : (cleanL l).length ≤ l.length + 1 := by
  have h1 := jn_len (fullL l)
  have h2 := sum_filter (fun x : List UInt8 => x.length + 1) (fun x => !x.isEmpty) (cutL 46 [] l)
  rw [cut_sum] at h2
  unfold cleanL
  unfold fullL at h1 ⊢
  simp at h2
  omega
/-- A name is clean. -/
theorem sw_name (s : ByteArray) (h : ∀ c ∈ lst s, nB c = true ∨ c = 46) : swL s = lst s := by
  have aux : ∀ (d p : Nat), p + d = s.size → swF s (s.size - p) p false = (lst s).drop p := by
    intro d
    induction d with
    | zero => intro p hp; rw [swF_end s _ p false (by omega), List.drop_eq_nil_of_le (by rw [lst_len]; omega)]
    | succ d ih =>
      intro p hp
      have hlt : p < s.size := by omega
      have e : (lst s)[p]'(by rw [lst_len]; exact hlt) = s[p] := by simp [lst]; rfl
      have hc := h s[p] (by rw [← e]; exact List.getElem_mem _)
      have small : s[p].toNat < 128 := by
        rcases hc with hc | hc
        · revert hc; unfold nB namI clsI famI; simp only [Bool.or_eq_true, decide_eq_true_eq]; (repeat' split) <;> omega
        · rw [hc]; decide
      have nbl : blI (s[p].toNat : Int) = false := by
        rcases hc with hc | hc
        · revert hc; unfold nB namI clsI famI blI
          simp only [Bool.or_eq_true, Bool.or_eq_false_iff, Bool.and_eq_false_iff, decide_eq_true_eq, decide_eq_false_iff_not]
          (repeat' split) <;> omega
        · rw [hc]; decide
      have n47 : s[p].toNat ≠ 47 := by
        intro q
        rcases hc with hc | hc
        · have : s[p] = 47 := UInt8.toNat_inj.1 q
          rw [this] at hc; revert hc; decide
        · rw [hc] at q; revert q; decide
      rw [swF_step s p false hlt, decode_ascii s p hlt small]
      simp only
      rw [nbl, ih (p + 1) (by omega), List.drop_eq_getElem_cons (i := p) (by rw [lst_len]; exact hlt), e]
      have o : UInt8.ofNat s[p].toNat = s[p] := by simp
      unfold swOne
      rw [nbl, if_neg (by simp), if_neg n47, o, if_pos]
      · rfl
      · rcases hc with hc | hc
        · exact .inr ⟨small, hc⟩
        · left; rw [hc]; rfl
  have := aux s.size 0 (by omega)
  unfold swL
  simpa using this
theorem name_bytes {l : List UInt8} (h : validN l = true) : ∀ c ∈ l, nB c = true ∨ c = 46 := by
  rw [valid_cut] at h
  simp only [Bool.and_eq_true] at h
  have hn := h.2.1
  have aux : ∀ (l acc : List UInt8), (cutL 46 acc l).all nodeB = true → ∀ c ∈ l, nB c = true ∨ c = 46 := by
    intro l
    induction l with
    | nil => intro acc _ c hc; cases hc
    | cons x r ih =>
      intro acc ha c hc
      unfold cutL at ha
      split at ha
      · rename_i e
        rw [List.all_cons, Bool.and_eq_true] at ha
        rcases List.mem_cons.1 hc with rfl | hc
        · exact .inr e
        · exact ih [] ha.2 c hc
      · rename_i e
        rcases List.mem_cons.1 hc with rfl | hc
        · left
          have mem : ∀ (l acc : List UInt8) (c : UInt8), c ∈ acc → ∃ p ∈ cutL 46 acc l, c ∈ p := by
            intro l
            induction l with
            | nil => intro acc c h; exact ⟨acc, by simp [cutL], h⟩
            | cons y r ih =>
              intro acc c h
              unfold cutL
              split
              · exact ⟨acc, List.mem_cons_self, h⟩
              · exact ih (acc ++ [y]) c (List.mem_append_left _ h)
          obtain ⟨p, hp, hcp⟩ := mem r (acc ++ [c]) c (by simp)
          have := List.all_eq_true.1 ha p hp
          unfold nodeB at this
          rw [Bool.and_eq_true] at this
          first | exact List.all_eq_true.1 this.2 c hcp | exact List.all_eq_true.1 this.1 c hcp
        · exact ih (acc ++ [x]) ha c hc
  exact aux l [] hn
theorem clean_name {s : ByteArray} (h : validN (lst s) = true) : cleanA s = (s, true) := by
  have sw := sw_name s (name_bytes h)
  have full : cleanL (lst s) = lst s := by
    unfold cleanL fullL
    have hn := h
    rw [valid_cut] at hn
    simp only [Bool.and_eq_true] at hn
    rw [List.filter_eq_self.2, jn_cut, List.nil_append]
    intro x hx
    have := List.all_eq_true.1 hn.2.1 x hx
    unfold nodeB at this
    cases x with
    | nil => simp at this
    | cons c r => rfl
  unfold cleanA
  rw [sw, full, h, if_pos rfl, show (⟨(lst s).toArray⟩ : ByteArray) = s from lst_inj (lst_mk (lst s))]
theorem clean_valid {s t : ByteArray} (h : cleanA s = (t, true)) : validN (lst t) = true := by
  unfold cleanA at h
  split at h
  · rename_i v; cases h; rw [lst_mk (cleanL (swL s))]; exact v
  · cases h
theorem clean_no {s t : ByteArray} (h : cleanA s = (t, false)) : t = ⟨#[]⟩ ∧ validN (lst s) = false := by
  refine ⟨?_, ?_⟩
  · unfold cleanA at h
    split at h
    · cases h
    · cases h; rfl
  · cases v : validN (lst s) with
    | false => rfl
    | true => rw [clean_name v] at h; cases h
end Go.Proofs.YteahbdhhcfoiiaaDoor
/- name: the reference's blank, rune1. -/
namespace Go.Proofs.YteahbdhhcfoiiaaDoor
set_option linter.unusedVariables false
set_option linter.unusedSimpArgs false
open Go.RowKit W
set_option maxRecDepth 100000 in
set_option maxHeartbeats 4000000 in
theorem rblank_spec (r : Int) (w : World) : CalcN 41 #[.int .i32 r] w (.bool (blI r)) := by
  by_cases q1 : 9 ≤ r ∧ r ≤ 13
  · obtain ⟨q1, q2⟩ := q1
    have BL : blI r = true := by unfold blI; rw [decide_eq_true q1, decide_eq_true q2]; simp
    rw [BL]
    have d1 : decide (9 ≤ r) = true := decide_eq_true q1
    have d2 : decide (r ≤ 13) = true := decide_eq_true q2
    clear BL
    go_enter Tryd.func41, Tryd.ntmps41
    go_wp2_with fail
    go_returns
    exact ⟨rfl, rfl⟩
  by_cases e0 : r = 32
  · subst e0
    rw [show blI 32 = true from rfl]
    clear q1
    go_enter Tryd.func41, Tryd.ntmps41
    go_wp2_with fail
    go_returns
    exact ⟨rfl, rfl⟩
  have b0 : (r == 32) = false := by rw [beq_eq_false_iff_ne]; exact e0
  by_cases e1 : r = 160
  · subst e1
    rw [show blI 160 = true from rfl]
    clear q1
    go_enter Tryd.func41, Tryd.ntmps41
    go_wp2_with fail
    go_returns
    exact ⟨rfl, rfl⟩
  have b1 : (r == 160) = false := by rw [beq_eq_false_iff_ne]; exact e1
  by_cases e2 : r = 8232
  · subst e2
    rw [show blI 8232 = true from rfl]
    clear q1
    go_enter Tryd.func41, Tryd.ntmps41
    go_wp2_with fail
    go_returns
    exact ⟨rfl, rfl⟩
  have b2 : (r == 8232) = false := by rw [beq_eq_false_iff_ne]; exact e2
  by_cases e3 : r = 8233
  · subst e3
    rw [show blI 8233 = true from rfl]
    clear q1
    go_enter Tryd.func41, Tryd.ntmps41
    go_wp2_with fail
    go_returns
    exact ⟨rfl, rfl⟩
  have b3 : (r == 8233) = false := by rw [beq_eq_false_iff_ne]; exact e3
  by_cases e4 : r = 12288
  · subst e4
    rw [show blI 12288 = true from rfl]
    clear q1
    go_enter Tryd.func41, Tryd.ntmps41
    go_wp2_with fail
    go_returns
    exact ⟨rfl, rfl⟩
  have b4 : (r == 12288) = false := by rw [beq_eq_false_iff_ne]; exact e4
  by_cases e5 : r = 65279
  · subst e5
    rw [show blI 65279 = true from rfl]
    clear q1
    go_enter Tryd.func41, Tryd.ntmps41
    go_wp2_with fail
    go_returns
    exact ⟨rfl, rfl⟩
  have b5 : (r == 65279) = false := by rw [beq_eq_false_iff_ne]; exact e5
  have BL : blI r = false := by
    unfold blI
    simp only [Bool.or_eq_false_iff, Bool.and_eq_false_iff, decide_eq_false_iff_not]
    omega
  rw [BL]
  clear BL e0 e1 e2 e3 e4 e5
  by_cases q2 : 9 ≤ r
  · have d1 : decide (9 ≤ r) = true := by rw [decide_eq_true_eq]; omega
    have d2 : decide (r ≤ 13) = false := by rw [decide_eq_false_iff_not]; omega
    clear q1
    go_enter Tryd.func41, Tryd.ntmps41
    go_wp2_with fail
    go_returns
    exact ⟨rfl, rfl⟩
  · have d1 : decide (9 ≤ r) = false := by rw [decide_eq_false_iff_not]; omega
    clear q1
    go_enter Tryd.func41, Tryd.ntmps41
    go_wp2_with fail
    go_returns
    exact ⟨rfl, rfl⟩
/-- The value of so many bytes. -/
def ccV (t : ByteArray) (c0 : Nat) : Nat → Nat
  | 0 => c0
  | 1 => c0
  | i + 2 => ccV t c0 (i + 1) * 64 + (nx t (i + 1)).toNat % 64
def contB (t : ByteArray) (i : Nat) : Bool := decide ((nx t i).toNat / 64 = 2)
theorem and192 : ∀ n : Fin 256, (bits BinOp.and IntKind.u8 (n.val : Int) 192 != 128) = !decide (n.val / 64 = 2) := by decide +kernel
theorem and63 : ∀ n : Fin 256, bits BinOp.and IntKind.u8 (n.val : Int) 63 = ((n.val % 64 : Nat) : Int) := by decide +kernel
theorem and31 : ∀ n : Fin 256, bits BinOp.and IntKind.i32 (n.val : Int) 31 = ((n.val % 32 : Nat) : Int) := by decide +kernel
theorem and15 : ∀ n : Fin 256, bits BinOp.and IntKind.i32 (n.val : Int) 15 = ((n.val % 16 : Nat) : Int) := by decide +kernel
theorem and7 : ∀ n : Fin 256, bits BinOp.and IntKind.i32 (n.val : Int) 7 = ((n.val % 8 : Nat) : Int) := by decide +kernel
/-- The rune at a text's beginning as the reference tells it. -/
def rnA (t : ByteArray) : Int × Nat := if Utf8.decode t 0 = (65533, 1) then (-1, 1) else (((Utf8.decode t 0).1 : Int), (Utf8.decode t 0).2)
theorem get_nx (t : ByteArray) (k : Nat) : (t.get! k) = nx t k := by
  unfold nx
  split
  · rename_i h
    have : t.get! k = t.data[k]! := rfl
    rw [this, getElem!_pos t.data k h]; rfl
  · rename_i h
    have : t.get! k = t.data[k]! := rfl
    rw [this, getElem!_neg t.data k h]; rfl
theorem dec_eq (t : ByteArray) (c x1 x2 x3 : Nat) (h0 : (nx t 0).toNat = c) (h1 : (nx t 1).toNat = x1) (h2 : (nx t 2).toNat = x2) (h3 : (nx t 3).toNat = x3) :
    Utf8.decode t 0 = if c < 128 then (c, 1)
      else if c / 32 = 6 ∧ (1 < t.size ∧ x1 / 64 = 2) then (if 128 ≤ c % 32 * 64 + x1 % 64 then (c % 32 * 64 + x1 % 64, 2) else (65533, 1))
      else if c / 16 = 14 ∧ (1 < t.size ∧ x1 / 64 = 2) ∧ (2 < t.size ∧ x2 / 64 = 2) then (if 2048 ≤ c % 16 * 4096 + x1 % 64 * 64 + x2 % 64 ∧ Utf8.valid ((c % 16 * 4096 + x1 % 64 * 64 + x2 % 64 : Nat) : Int) = true then (c % 16 * 4096 + x1 % 64 * 64 + x2 % 64, 3) else (65533, 1))
      else if c / 8 = 30 ∧ (1 < t.size ∧ x1 / 64 = 2) ∧ (2 < t.size ∧ x2 / 64 = 2) ∧ (3 < t.size ∧ x3 / 64 = 2) then (if 65536 ≤ c % 8 * 262144 + x1 % 64 * 4096 + x2 % 64 * 64 + x3 % 64 ∧ Utf8.valid ((c % 8 * 262144 + x1 % 64 * 4096 + x2 % 64 * 64 + x3 % 64 : Nat) : Int) = true then (c % 8 * 262144 + x1 % 64 * 4096 + x2 % 64 * 64 + x3 % 64, 4) else (65533, 1))
      else (65533, 1) := by
  unfold Utf8.decode
  simp only [Nat.zero_add, get_nx, h0, h1, h2, h3, Utf8.runeError, Bool.and_eq_true, decide_eq_true_eq, beq_iff_eq, and_assoc, ge_iff_le]
theorem valid_iff (v : Nat) : Utf8.valid (v : Int) = true ↔ v < 55296 ∨ (57344 ≤ v ∧ v ≤ 1114111) := by
  unfold Utf8.valid
  simp only [Bool.or_eq_true, Bool.and_eq_true, decide_eq_true_eq]
  omega
theorem rnA_err {t : ByteArray} (h : Utf8.decode t 0 = (65533, 1)) : rnA t = (-1, 1) := by unfold rnA; rw [if_pos h]
theorem rnA_ok {t : ByteArray} {v n : Nat} (h : Utf8.decode t 0 = (v, n)) (hn : v ≠ 65533 ∨ n ≠ 1) : rnA t = ((v : Int), n) := by
  unfold rnA; rw [h, if_neg]; intro e; injection e with e1 e2; omega
set_option maxRecDepth 100000 in
set_option maxHeartbeats 4000000 in
theorem rune_2 (t : ByteArray) (hs : t.size ≤ 2147483648) (h0 : 0 < t.size) (c : Nat) (hc : t[0].toNat = c) (p1 : 194 ≤ c) (p2 : c < 224) (w : World) : CalcN 40 #[.string t] w (.tuple #[.int .i32 (rnA t).1, .int .i64 ((rnA t).2 : Int)]) := by
  obtain ⟨x1, H1⟩ : ∃ x1, Hid ((nx t 1).toNat = x1) := ⟨_, hide rfl⟩
  obtain ⟨x2, H2⟩ : ∃ x2, Hid ((nx t 2).toNat = x2) := ⟨_, hide rfl⟩
  obtain ⟨x3, H3⟩ : ∃ x3, Hid ((nx t 3).toNat = x3) := ⟨_, hide rfl⟩
  have DE := hide (dec_eq t c x1 x2 x3 (by rw [nx_lt h0]; exact hc) H1.out H2.out H3.out)
  have d0 : decide ((c : Int) < 128) = false := by rw [decide_eq_false_iff_not]; omega
  have d01 : decide (c < 128) = false := by rw [decide_eq_false_iff_not]; omega
  by_cases sz : t.size < 2
  · have F : Hid (rnA t = (-1, 1)) := hide (rnA_err (by rw [DE.out, if_neg (by omega), if_neg (by omega), if_neg (by omega), if_neg (by omega)]))
    have e0 : decide ((t.size : Int) < 2) = true := by rw [decide_eq_true_eq]; omega
    have e1 : decide (t.size < 2) = true := by rw [decide_eq_true_eq]; omega
    go_enter Tryd.func40, Tryd.ntmps40
    go_wp2_with fail
    go_returns
    exact ⟨by rw [F.out]; rfl, rfl⟩
  · have e0 : decide ((t.size : Int) < 2) = false := by rw [decide_eq_false_iff_not]; omega
    have e1 : decide (t.size < 2) = false := by rw [decide_eq_false_iff_not]; omega
    have aM := and31 ⟨c, by omega⟩
    simp only at aM
    go_enter Tryd.func40, Tryd.ntmps40
    go_wp2_with fail
    go_loop [4, 7] (fun cv iv => ∃ (i x : Nat), 1 ≤ i ∧ i ≤ 2 ∧ Hid ((i = 1 → x < 32) ∧ (i = 2 → x < 2048) ∧ (i = 3 → x < 131072) ∧ x < 8388608) ∧ cv = .int .i32 (x : Int) ∧ iv = .int .i64 (i : Int) ∧ Hid (x = ccV t (c % 32) i) ∧ Hid (∀ j, 1 ≤ j → j < i → (nx t j).toNat / 64 = 2)) (fun _ iv => 2 - (intOf iv).toNat)
    case atStart => exact ⟨1, c % 32, Nat.le_refl _, by omega, hide ⟨by omega, by omega, by omega, by omega⟩, by first | rfl | go_num, rfl, hide rfl, hide (fun j a b => by omega)⟩
    case round =>
      obtain ⟨i, x, i1, i2, BD, rfl, rfl, XV, D⟩ := hrel
      by_cases hlt : i < 2
      · have il : i < t.size := by omega
        have xb : x < 131072 := by obtain ⟨b1, b2, b3, b4⟩ := BD.out; omega
        have d256 := t[i].toNat_lt
        have e192 := and192 ⟨t[i].toNat, d256⟩
        simp only at e192
        have enx : (nx t i).toNat = t[i].toNat := by rw [nx_lt il]
        by_cases cb : t[i].toNat / 64 = 2
        · rw [decide_eq_true cb, Bool.not_true] at e192
          have D2 : Hid (∀ j, 1 ≤ j → j < i + 1 → (nx t j).toNat / 64 = 2) := hide (fun j a b => by
            by_cases q : j < i
            · exact D.out j a q
            · obtain rfl : j = i := by omega
              rw [enx]; exact cb)
          have XV2 : Hid (x * 64 + t[i].toNat % 64 = ccV t (c % 32) (i + 1)) := hide (by
            obtain ⟨m, rfl⟩ : ∃ m, i = m + 1 := ⟨i - 1, by omega⟩
            rw [ccV, ← XV.out, enx])
          have BD2 : Hid ((i + 1 = 1 → x * 64 + t[i].toNat % 64 < 32) ∧ (i + 1 = 2 → x * 64 + t[i].toNat % 64 < 2048) ∧ (i + 1 = 3 → x * 64 + t[i].toNat % 64 < 131072) ∧ x * 64 + t[i].toNat % 64 < 8388608) := hide (by
            obtain ⟨b1, b2, b3, b4⟩ := BD.out
            refine ⟨by omega, fun q => ?_, fun q => ?_, by omega⟩
            · have := b1 (by omega); omega
            · have := b2 (by omega); omega)
          clear cb enx
          go_wp2_with fail
          go_round
          case rel => exact ⟨i + 1, x * 64 + t[i].toNat % 64, by omega, by omega, BD2, by go_num, by go_num, XV2, D2⟩
          case measure => simp [intOf]; omega
        · rw [decide_eq_false cb, Bool.not_false] at e192
          have F : Hid (rnA t = (-1, 1)) := hide (rnA_err (by
            have no : ¬ (x1 / 64 = 2) := by
              intro q
              have : i = 1 ∨ i = 2 ∨ i = 3 := by omega
              have e1 := H1.out
              have e2 := H2.out
              have e3 := H3.out
              rcases this with rfl | rfl | rfl <;> omega
            rw [DE.out, if_neg (by omega), if_neg (by omega), if_neg (by omega), if_neg (by omega)]))
          clear cb enx
          go_wp2_with fail
          go_returns
          exact ⟨by rw [F.out]; rfl, rfl⟩
      · obtain rfl : i = 2 := by omega
        have CC : Hid (x1 / 64 = 2) := hide (by have := D.out 1 (by omega) (by omega); rw [← H1.out]; exact this)
        have hx : x = c % 32 * 64 + x1 % 64 := by
          rw [XV.out]
          first | (simp only [ccV, H1.out]; omega) | (simp only [ccV, H1.out]; done)
        have xb : x < 8388608 := BD.out.2.2.2
        have xm1 : x1 % 64 < 64 := by omega
        clear hlt
        have d1 : ((x : Int) < 128) = False := by simp; omega
        have d2 : decide ((x : Int) < 128) = false := by rw [decide_eq_false_iff_not]; omega
        have d3 : decide ((1114111 : Int) < (x : Int)) = false := by rw [decide_eq_false_iff_not]; omega
        have d4 : decide ((55296 : Int) ≤ (x : Int)) = false := by rw [decide_eq_false_iff_not]; omega
        have d6 : decide (x < 128) = false := by rw [decide_eq_false_iff_not]; omega
        have d7 : decide (1114111 < x) = false := by rw [decide_eq_false_iff_not]; omega
        have d8 : decide (55296 ≤ x) = false := by rw [decide_eq_false_iff_not]; omega
        have F : Hid (rnA t = ((x : Int), 2)) := hide (rnA_ok (v := x) (n := 2) (by rw [DE.out, if_neg (by omega), if_pos ⟨by omega, by omega, CC.out⟩, if_pos (by omega), ← hx]) (by omega))
        clear d1 hx
        go_wp2_with fail
        go_returns
        exact ⟨by rw [F.out]; rfl, rfl⟩
set_option maxRecDepth 100000 in
set_option maxHeartbeats 4000000 in
theorem rune_3 (t : ByteArray) (hs : t.size ≤ 2147483648) (h0 : 0 < t.size) (c : Nat) (hc : t[0].toNat = c) (p1 : 224 ≤ c) (p2 : c < 240) (w : World) : CalcN 40 #[.string t] w (.tuple #[.int .i32 (rnA t).1, .int .i64 ((rnA t).2 : Int)]) := by
  obtain ⟨x1, H1⟩ : ∃ x1, Hid ((nx t 1).toNat = x1) := ⟨_, hide rfl⟩
  obtain ⟨x2, H2⟩ : ∃ x2, Hid ((nx t 2).toNat = x2) := ⟨_, hide rfl⟩
  obtain ⟨x3, H3⟩ : ∃ x3, Hid ((nx t 3).toNat = x3) := ⟨_, hide rfl⟩
  have DE := hide (dec_eq t c x1 x2 x3 (by rw [nx_lt h0]; exact hc) H1.out H2.out H3.out)
  have d0 : decide ((c : Int) < 128) = false := by rw [decide_eq_false_iff_not]; omega
  have d01 : decide (c < 128) = false := by rw [decide_eq_false_iff_not]; omega
  by_cases sz : t.size < 3
  · have F : Hid (rnA t = (-1, 1)) := hide (rnA_err (by rw [DE.out, if_neg (by omega), if_neg (by omega), if_neg (by omega), if_neg (by omega)]))
    have e0 : decide ((t.size : Int) < 3) = true := by rw [decide_eq_true_eq]; omega
    have e1 : decide (t.size < 3) = true := by rw [decide_eq_true_eq]; omega
    go_enter Tryd.func40, Tryd.ntmps40
    go_wp2_with fail
    go_returns
    exact ⟨by rw [F.out]; rfl, rfl⟩
  · have e0 : decide ((t.size : Int) < 3) = false := by rw [decide_eq_false_iff_not]; omega
    have e1 : decide (t.size < 3) = false := by rw [decide_eq_false_iff_not]; omega
    have aM := and15 ⟨c, by omega⟩
    simp only at aM
    go_enter Tryd.func40, Tryd.ntmps40
    go_wp2_with fail
    go_loop [4, 7] (fun cv iv => ∃ (i x : Nat), 1 ≤ i ∧ i ≤ 3 ∧ Hid ((i = 1 → x < 32) ∧ (i = 2 → x < 2048) ∧ (i = 3 → x < 131072) ∧ x < 8388608) ∧ cv = .int .i32 (x : Int) ∧ iv = .int .i64 (i : Int) ∧ Hid (x = ccV t (c % 16) i) ∧ Hid (∀ j, 1 ≤ j → j < i → (nx t j).toNat / 64 = 2)) (fun _ iv => 3 - (intOf iv).toNat)
    case atStart => exact ⟨1, c % 16, Nat.le_refl _, by omega, hide ⟨by omega, by omega, by omega, by omega⟩, by first | rfl | go_num, rfl, hide rfl, hide (fun j a b => by omega)⟩
    case round =>
      obtain ⟨i, x, i1, i2, BD, rfl, rfl, XV, D⟩ := hrel
      by_cases hlt : i < 3
      · have il : i < t.size := by omega
        have xb : x < 131072 := by obtain ⟨b1, b2, b3, b4⟩ := BD.out; omega
        have d256 := t[i].toNat_lt
        have e192 := and192 ⟨t[i].toNat, d256⟩
        simp only at e192
        have enx : (nx t i).toNat = t[i].toNat := by rw [nx_lt il]
        by_cases cb : t[i].toNat / 64 = 2
        · rw [decide_eq_true cb, Bool.not_true] at e192
          have D2 : Hid (∀ j, 1 ≤ j → j < i + 1 → (nx t j).toNat / 64 = 2) := hide (fun j a b => by
            by_cases q : j < i
            · exact D.out j a q
            · obtain rfl : j = i := by omega
              rw [enx]; exact cb)
          have XV2 : Hid (x * 64 + t[i].toNat % 64 = ccV t (c % 16) (i + 1)) := hide (by
            obtain ⟨m, rfl⟩ : ∃ m, i = m + 1 := ⟨i - 1, by omega⟩
            rw [ccV, ← XV.out, enx])
          have BD2 : Hid ((i + 1 = 1 → x * 64 + t[i].toNat % 64 < 32) ∧ (i + 1 = 2 → x * 64 + t[i].toNat % 64 < 2048) ∧ (i + 1 = 3 → x * 64 + t[i].toNat % 64 < 131072) ∧ x * 64 + t[i].toNat % 64 < 8388608) := hide (by
            obtain ⟨b1, b2, b3, b4⟩ := BD.out
            refine ⟨by omega, fun q => ?_, fun q => ?_, by omega⟩
            · have := b1 (by omega); omega
            · have := b2 (by omega); omega)
          clear cb enx
          go_wp2_with fail
          go_round
          case rel => exact ⟨i + 1, x * 64 + t[i].toNat % 64, by omega, by omega, BD2, by go_num, by go_num, XV2, D2⟩
          case measure => simp [intOf]; omega
        · rw [decide_eq_false cb, Bool.not_false] at e192
          have F : Hid (rnA t = (-1, 1)) := hide (rnA_err (by
            have no : ¬ (x1 / 64 = 2 ∧ x2 / 64 = 2) := by
              intro q
              have : i = 1 ∨ i = 2 ∨ i = 3 := by omega
              have e1 := H1.out
              have e2 := H2.out
              have e3 := H3.out
              rcases this with rfl | rfl | rfl <;> omega
            rw [DE.out, if_neg (by omega), if_neg (by omega), if_neg (by omega), if_neg (by omega)]))
          clear cb enx
          go_wp2_with fail
          go_returns
          exact ⟨by rw [F.out]; rfl, rfl⟩
      · obtain rfl : i = 3 := by omega
        have CC : Hid (x1 / 64 = 2 ∧ x2 / 64 = 2) := hide (⟨by have := D.out 1 (by omega) (by omega); rw [← H1.out]; exact this, by have := D.out 2 (by omega) (by omega); rw [← H2.out]; exact this⟩)
        have hx : x = c % 16 * 4096 + x1 % 64 * 64 + x2 % 64 := by
          rw [XV.out]
          first | (simp only [ccV, H1.out, H2.out]; omega) | (simp only [ccV, H1.out, H2.out]; done)
        have xb : x < 8388608 := BD.out.2.2.2
        have xm1 : x1 % 64 < 64 := by omega
        clear hlt
        have VX := valid_iff x
        by_cases p1 : x < 2048
        · have d2 : decide ((x : Int) < 2048) = true := by rw [decide_eq_true_eq]; omega
          have d6 : decide (x < 2048) = true := by rw [decide_eq_true_eq]; omega
          have F : Hid (rnA t = (-1, 1)) := hide (rnA_err (by rw [DE.out, if_neg (by omega), if_neg (by omega), if_pos ⟨by omega, ⟨by omega, CC.out.1⟩, by omega, CC.out.2⟩, if_neg (by omega)]))
          clear VX hx
          go_wp2_with fail
          go_returns
          exact ⟨by rw [F.out]; rfl, rfl⟩
        · have d2 : decide ((x : Int) < 2048) = false := by rw [decide_eq_false_iff_not]; omega
          have d6 : decide (x < 2048) = false := by rw [decide_eq_false_iff_not]; omega
          by_cases p2 : 1114111 < x
          · have d3 : decide ((1114111 : Int) < (x : Int)) = true := by rw [decide_eq_true_eq]; omega
            have d7 : decide (1114111 < x) = true := by rw [decide_eq_true_eq]; omega
            have F : Hid (rnA t = (-1, 1)) := hide (rnA_err (by rw [DE.out, if_neg (by omega), if_neg (by omega), if_pos ⟨by omega, ⟨by omega, CC.out.1⟩, by omega, CC.out.2⟩, if_neg (by rw [← hx, VX]; omega)]))
            clear VX hx
            go_wp2_with fail
            go_returns
            exact ⟨by rw [F.out]; rfl, rfl⟩
          · have d3 : decide ((1114111 : Int) < (x : Int)) = false := by rw [decide_eq_false_iff_not]; omega
            have d7 : decide (1114111 < x) = false := by rw [decide_eq_false_iff_not]; omega
            by_cases p3 : 55296 ≤ x
            · have d4 : decide ((55296 : Int) ≤ (x : Int)) = true := by rw [decide_eq_true_eq]; omega
              have d8 : decide (55296 ≤ x) = true := by rw [decide_eq_true_eq]; omega
              by_cases p4 : x ≤ 57343
              · have d5 : decide ((x : Int) ≤ 57343) = true := by rw [decide_eq_true_eq]; omega
                have d9 : decide (x ≤ 57343) = true := by rw [decide_eq_true_eq]; omega
                have F : Hid (rnA t = (-1, 1)) := hide (rnA_err (by rw [DE.out, if_neg (by omega), if_neg (by omega), if_pos ⟨by omega, ⟨by omega, CC.out.1⟩, by omega, CC.out.2⟩, if_neg (by rw [← hx, VX]; omega)]))
                clear VX hx
                go_wp2_with fail
                go_returns
                exact ⟨by rw [F.out]; rfl, rfl⟩
              · have d5 : decide ((x : Int) ≤ 57343) = false := by rw [decide_eq_false_iff_not]; omega
                have d9 : decide (x ≤ 57343) = false := by rw [decide_eq_false_iff_not]; omega
                have F : Hid (rnA t = ((x : Int), 3)) := hide (rnA_ok (v := x) (n := 3) (by rw [DE.out, if_neg (by omega), if_neg (by omega), if_pos ⟨by omega, ⟨by omega, CC.out.1⟩, by omega, CC.out.2⟩, if_pos (by rw [← hx, VX]; omega), ← hx]) (by omega))
                clear VX hx
                go_wp2_with fail
                go_returns
                exact ⟨by rw [F.out]; rfl, rfl⟩
            · have d4 : decide ((55296 : Int) ≤ (x : Int)) = false := by rw [decide_eq_false_iff_not]; omega
              have d8 : decide (55296 ≤ x) = false := by rw [decide_eq_false_iff_not]; omega
              have F : Hid (rnA t = ((x : Int), 3)) := hide (rnA_ok (v := x) (n := 3) (by rw [DE.out, if_neg (by omega), if_neg (by omega), if_pos ⟨by omega, ⟨by omega, CC.out.1⟩, by omega, CC.out.2⟩, if_pos (by rw [← hx, VX]; omega), ← hx]) (by omega))
              clear VX hx
              go_wp2_with fail
              go_returns
              exact ⟨by rw [F.out]; rfl, rfl⟩
set_option maxRecDepth 100000 in
set_option maxHeartbeats 4000000 in
theorem rune_4 (t : ByteArray) (hs : t.size ≤ 2147483648) (h0 : 0 < t.size) (c : Nat) (hc : t[0].toNat = c) (p1 : 240 ≤ c) (p2 : c < 245) (w : World) : CalcN 40 #[.string t] w (.tuple #[.int .i32 (rnA t).1, .int .i64 ((rnA t).2 : Int)]) := by
  obtain ⟨x1, H1⟩ : ∃ x1, Hid ((nx t 1).toNat = x1) := ⟨_, hide rfl⟩
  obtain ⟨x2, H2⟩ : ∃ x2, Hid ((nx t 2).toNat = x2) := ⟨_, hide rfl⟩
  obtain ⟨x3, H3⟩ : ∃ x3, Hid ((nx t 3).toNat = x3) := ⟨_, hide rfl⟩
  have DE := hide (dec_eq t c x1 x2 x3 (by rw [nx_lt h0]; exact hc) H1.out H2.out H3.out)
  have d0 : decide ((c : Int) < 128) = false := by rw [decide_eq_false_iff_not]; omega
  have d01 : decide (c < 128) = false := by rw [decide_eq_false_iff_not]; omega
  by_cases sz : t.size < 4
  · have F : Hid (rnA t = (-1, 1)) := hide (rnA_err (by rw [DE.out, if_neg (by omega), if_neg (by omega), if_neg (by omega), if_neg (by omega)]))
    have e0 : decide ((t.size : Int) < 4) = true := by rw [decide_eq_true_eq]; omega
    have e1 : decide (t.size < 4) = true := by rw [decide_eq_true_eq]; omega
    go_enter Tryd.func40, Tryd.ntmps40
    go_wp2_with fail
    go_returns
    exact ⟨by rw [F.out]; rfl, rfl⟩
  · have e0 : decide ((t.size : Int) < 4) = false := by rw [decide_eq_false_iff_not]; omega
    have e1 : decide (t.size < 4) = false := by rw [decide_eq_false_iff_not]; omega
    have aM := and7 ⟨c, by omega⟩
    simp only at aM
    go_enter Tryd.func40, Tryd.ntmps40
    go_wp2_with fail
    go_loop [4, 7] (fun cv iv => ∃ (i x : Nat), 1 ≤ i ∧ i ≤ 4 ∧ Hid ((i = 1 → x < 32) ∧ (i = 2 → x < 2048) ∧ (i = 3 → x < 131072) ∧ x < 8388608) ∧ cv = .int .i32 (x : Int) ∧ iv = .int .i64 (i : Int) ∧ Hid (x = ccV t (c % 8) i) ∧ Hid (∀ j, 1 ≤ j → j < i → (nx t j).toNat / 64 = 2)) (fun _ iv => 4 - (intOf iv).toNat)
    case atStart => exact ⟨1, c % 8, Nat.le_refl _, by omega, hide ⟨by omega, by omega, by omega, by omega⟩, by first | rfl | go_num, rfl, hide rfl, hide (fun j a b => by omega)⟩
    case round =>
      obtain ⟨i, x, i1, i2, BD, rfl, rfl, XV, D⟩ := hrel
      by_cases hlt : i < 4
      · have il : i < t.size := by omega
        have xb : x < 131072 := by obtain ⟨b1, b2, b3, b4⟩ := BD.out; omega
        have d256 := t[i].toNat_lt
        have e192 := and192 ⟨t[i].toNat, d256⟩
        simp only at e192
        have enx : (nx t i).toNat = t[i].toNat := by rw [nx_lt il]
        by_cases cb : t[i].toNat / 64 = 2
        · rw [decide_eq_true cb, Bool.not_true] at e192
          have D2 : Hid (∀ j, 1 ≤ j → j < i + 1 → (nx t j).toNat / 64 = 2) := hide (fun j a b => by
            by_cases q : j < i
            · exact D.out j a q
            · obtain rfl : j = i := by omega
              rw [enx]; exact cb)
          have XV2 : Hid (x * 64 + t[i].toNat % 64 = ccV t (c % 8) (i + 1)) := hide (by
            obtain ⟨m, rfl⟩ : ∃ m, i = m + 1 := ⟨i - 1, by omega⟩
            rw [ccV, ← XV.out, enx])
          have BD2 : Hid ((i + 1 = 1 → x * 64 + t[i].toNat % 64 < 32) ∧ (i + 1 = 2 → x * 64 + t[i].toNat % 64 < 2048) ∧ (i + 1 = 3 → x * 64 + t[i].toNat % 64 < 131072) ∧ x * 64 + t[i].toNat % 64 < 8388608) := hide (by
            obtain ⟨b1, b2, b3, b4⟩ := BD.out
            refine ⟨by omega, fun q => ?_, fun q => ?_, by omega⟩
            · have := b1 (by omega); omega
            · have := b2 (by omega); omega)
          clear cb enx
          go_wp2_with fail
          go_round
          case rel => exact ⟨i + 1, x * 64 + t[i].toNat % 64, by omega, by omega, BD2, by go_num, by go_num, XV2, D2⟩
          case measure => simp [intOf]; omega
        · rw [decide_eq_false cb, Bool.not_false] at e192
          have F : Hid (rnA t = (-1, 1)) := hide (rnA_err (by
            have no : ¬ (x1 / 64 = 2 ∧ x2 / 64 = 2 ∧ x3 / 64 = 2) := by
              intro q
              have : i = 1 ∨ i = 2 ∨ i = 3 := by omega
              have e1 := H1.out
              have e2 := H2.out
              have e3 := H3.out
              rcases this with rfl | rfl | rfl <;> omega
            rw [DE.out, if_neg (by omega), if_neg (by omega), if_neg (by omega), if_neg (by omega)]))
          clear cb enx
          go_wp2_with fail
          go_returns
          exact ⟨by rw [F.out]; rfl, rfl⟩
      · obtain rfl : i = 4 := by omega
        have CC : Hid (x1 / 64 = 2 ∧ x2 / 64 = 2 ∧ x3 / 64 = 2) := hide (⟨by have := D.out 1 (by omega) (by omega); rw [← H1.out]; exact this, by have := D.out 2 (by omega) (by omega); rw [← H2.out]; exact this, by have := D.out 3 (by omega) (by omega); rw [← H3.out]; exact this⟩)
        have hx : x = c % 8 * 262144 + x1 % 64 * 4096 + x2 % 64 * 64 + x3 % 64 := by
          rw [XV.out]
          first | (simp only [ccV, H1.out, H2.out, H3.out]; omega) | (simp only [ccV, H1.out, H2.out, H3.out]; done)
        have xb : x < 8388608 := BD.out.2.2.2
        have xm1 : x1 % 64 < 64 := by omega
        clear hlt
        have VX := valid_iff x
        by_cases p1 : x < 65536
        · have d2 : decide ((x : Int) < 65536) = true := by rw [decide_eq_true_eq]; omega
          have d6 : decide (x < 65536) = true := by rw [decide_eq_true_eq]; omega
          have F : Hid (rnA t = (-1, 1)) := hide (rnA_err (by rw [DE.out, if_neg (by omega), if_neg (by omega), if_neg (by omega), if_pos ⟨by omega, ⟨by omega, CC.out.1⟩, ⟨by omega, CC.out.2.1⟩, by omega, CC.out.2.2⟩, if_neg (by omega)]))
          clear VX hx
          go_wp2_with fail
          go_returns
          exact ⟨by rw [F.out]; rfl, rfl⟩
        · have d2 : decide ((x : Int) < 65536) = false := by rw [decide_eq_false_iff_not]; omega
          have d6 : decide (x < 65536) = false := by rw [decide_eq_false_iff_not]; omega
          by_cases p2 : 1114111 < x
          · have d3 : decide ((1114111 : Int) < (x : Int)) = true := by rw [decide_eq_true_eq]; omega
            have d7 : decide (1114111 < x) = true := by rw [decide_eq_true_eq]; omega
            have F : Hid (rnA t = (-1, 1)) := hide (rnA_err (by rw [DE.out, if_neg (by omega), if_neg (by omega), if_neg (by omega), if_pos ⟨by omega, ⟨by omega, CC.out.1⟩, ⟨by omega, CC.out.2.1⟩, by omega, CC.out.2.2⟩, if_neg (by rw [← hx, VX]; omega)]))
            clear VX hx
            go_wp2_with fail
            go_returns
            exact ⟨by rw [F.out]; rfl, rfl⟩
          · have d3 : decide ((1114111 : Int) < (x : Int)) = false := by rw [decide_eq_false_iff_not]; omega
            have d7 : decide (1114111 < x) = false := by rw [decide_eq_false_iff_not]; omega
            by_cases p3 : 55296 ≤ x
            · have d4 : decide ((55296 : Int) ≤ (x : Int)) = true := by rw [decide_eq_true_eq]; omega
              have d8 : decide (55296 ≤ x) = true := by rw [decide_eq_true_eq]; omega
              by_cases p4 : x ≤ 57343
              · have d5 : decide ((x : Int) ≤ 57343) = true := by rw [decide_eq_true_eq]; omega
                have d9 : decide (x ≤ 57343) = true := by rw [decide_eq_true_eq]; omega
                have F : Hid (rnA t = (-1, 1)) := hide (rnA_err (by rw [DE.out, if_neg (by omega), if_neg (by omega), if_neg (by omega), if_pos ⟨by omega, ⟨by omega, CC.out.1⟩, ⟨by omega, CC.out.2.1⟩, by omega, CC.out.2.2⟩, if_neg (by rw [← hx, VX]; omega)]))
                clear VX hx
                go_wp2_with fail
                go_returns
                exact ⟨by rw [F.out]; rfl, rfl⟩
              · have d5 : decide ((x : Int) ≤ 57343) = false := by rw [decide_eq_false_iff_not]; omega
                have d9 : decide (x ≤ 57343) = false := by rw [decide_eq_false_iff_not]; omega
                have F : Hid (rnA t = ((x : Int), 4)) := hide (rnA_ok (v := x) (n := 4) (by rw [DE.out, if_neg (by omega), if_neg (by omega), if_neg (by omega), if_pos ⟨by omega, ⟨by omega, CC.out.1⟩, ⟨by omega, CC.out.2.1⟩, by omega, CC.out.2.2⟩, if_pos (by rw [← hx, VX]; omega), ← hx]) (by omega))
                clear VX hx
                go_wp2_with fail
                go_returns
                exact ⟨by rw [F.out]; rfl, rfl⟩
            · have d4 : decide ((55296 : Int) ≤ (x : Int)) = false := by rw [decide_eq_false_iff_not]; omega
              have d8 : decide (55296 ≤ x) = false := by rw [decide_eq_false_iff_not]; omega
              have F : Hid (rnA t = ((x : Int), 4)) := hide (rnA_ok (v := x) (n := 4) (by rw [DE.out, if_neg (by omega), if_neg (by omega), if_neg (by omega), if_pos ⟨by omega, ⟨by omega, CC.out.1⟩, ⟨by omega, CC.out.2.1⟩, by omega, CC.out.2.2⟩, if_pos (by rw [← hx, VX]; omega), ← hx]) (by omega))
              clear VX hx
              go_wp2_with fail
              go_returns
              exact ⟨by rw [F.out]; rfl, rfl⟩
set_option maxRecDepth 100000 in
set_option maxHeartbeats 4000000 in
theorem rune1_spec (t : ByteArray) (hs : t.size ≤ 2147483648) (h0 : 0 < t.size) (w : World) : CalcN 40 #[.string t] w (.tuple #[.int .i32 (rnA t).1, .int .i64 ((rnA t).2 : Int)]) := by
  obtain ⟨c, hc⟩ : ∃ c, t[0].toNat = c := ⟨_, rfl⟩
  by_cases q2 : 194 ≤ c ∧ c < 224
  · exact rune_2 t hs h0 c hc q2.1 q2.2 w
  by_cases q3 : 224 ≤ c ∧ c < 240
  · exact rune_3 t hs h0 c hc q3.1 q3.2 w
  by_cases q4 : 240 ≤ c ∧ c < 245
  · exact rune_4 t hs h0 c hc q4.1 q4.2 w
  obtain ⟨x1, H1⟩ : ∃ x1, Hid ((nx t 1).toNat = x1) := ⟨_, hide rfl⟩
  obtain ⟨x2, H2⟩ : ∃ x2, Hid ((nx t 2).toNat = x2) := ⟨_, hide rfl⟩
  obtain ⟨x3, H3⟩ : ∃ x3, Hid ((nx t 3).toNat = x3) := ⟨_, hide rfl⟩
  have DE := hide (dec_eq t c x1 x2 x3 (by rw [nx_lt h0]; exact hc) H1.out H2.out H3.out)
  by_cases q1 : c < 128
  · have F : Hid (rnA t = ((c : Int), 1)) := hide (rnA_ok (v := c) (n := 1) (by rw [DE.out, if_pos q1]) (by omega))
    have d0 : decide ((c : Int) < 128) = true := by rw [decide_eq_true_eq]; omega
    have d01 : decide (c < 128) = true := by rw [decide_eq_true_eq]; omega
    clear q2 q3 q4
    go_enter Tryd.func40, Tryd.ntmps40
    go_wp2_with fail
    go_returns
    exact ⟨by rw [F.out]; rfl, rfl⟩
  · have c256 := t[0].toNat_lt
    have VV := valid_iff (c % 8 * 262144 + x1 % 64 * 4096 + x2 % 64 * 64 + x3 % 64)
    have F : Hid (rnA t = (-1, 1)) := hide (rnA_err (by
      rw [DE.out, if_neg q1]
      by_cases z1 : c / 32 = 6 ∧ (1 < t.size ∧ x1 / 64 = 2)
      · rw [if_pos z1, if_neg (by omega)]
      · rw [if_neg z1, if_neg (by omega)]
        by_cases z2 : c / 8 = 30 ∧ (1 < t.size ∧ x1 / 64 = 2) ∧ (2 < t.size ∧ x2 / 64 = 2) ∧ (3 < t.size ∧ x3 / 64 = 2)
        · rw [if_pos z2, if_neg (by rw [VV]; omega)]
        · rw [if_neg z2]))
    have d0 : decide ((c : Int) < 128) = false := by rw [decide_eq_false_iff_not]; omega
    have d01 : decide (c < 128) = false := by rw [decide_eq_false_iff_not]; omega
    have f1 : decide ((194 : Int) ≤ (c : Int)) = decide (194 ≤ c) := by rw [decide_eq_decide]; omega
    clear VV
    by_cases z : c < 194
    · have g1 : decide ((194 : Int) ≤ (c : Int)) = false := by rw [decide_eq_false_iff_not]; omega
      have g2 : decide ((224 : Int) ≤ (c : Int)) = false := by rw [decide_eq_false_iff_not]; omega
      have g3 : decide ((240 : Int) ≤ (c : Int)) = false := by rw [decide_eq_false_iff_not]; omega
      clear q2 q3 q4 f1
      go_enter Tryd.func40, Tryd.ntmps40
      go_wp2_with fail
      go_returns
      exact ⟨by rw [F.out]; rfl, rfl⟩
    · have z5 : 245 ≤ c := by omega
      have g1 : decide ((194 : Int) ≤ (c : Int)) = true := by rw [decide_eq_true_eq]; omega
      have g2 : decide ((224 : Int) ≤ (c : Int)) = true := by rw [decide_eq_true_eq]; omega
      have g3 : decide ((240 : Int) ≤ (c : Int)) = true := by rw [decide_eq_true_eq]; omega
      have g4 : decide ((c : Int) < 224) = false := by rw [decide_eq_false_iff_not]; omega
      have g5 : decide ((c : Int) < 240) = false := by rw [decide_eq_false_iff_not]; omega
      have g6 : decide ((c : Int) < 245) = false := by rw [decide_eq_false_iff_not]; omega
      clear q2 q3 q4 f1
      go_enter Tryd.func40, Tryd.ntmps40
      go_wp2_with fail
      go_returns
      exact ⟨by rw [F.out]; rfl, rfl⟩
end Go.Proofs.YteahbdhhcfoiiaaDoor
/- name: the reference's Clean: plain facts. -/
namespace Go.Proofs.YteahbdhhcfoiiaaDoor
set_option linter.unusedVariables false
set_option linter.unusedSimpArgs false
open Go.RowKit W
theorem nxD (t : ByteArray) (k : Nat) : nx t k = (lst t).getD k 0 := by
  by_cases h : k < t.size
  · rw [nx_lt h, getD_lst t k h]
  · rw [nx_ge (by omega), List.getD_eq_getElem?_getD, List.getElem?_eq_none (by rw [lst_len]; omega)]; rfl
theorem nx_ext (s : ByteArray) (i k : Nat) : nx (s.extract i s.size) k = nx s (i + k) := by
  rw [nxD, nxD, lst_drop, List.getD_eq_getElem?_getD, List.getElem?_drop, List.getD_eq_getElem?_getD]
theorem dec_ext (s : ByteArray) (i : Nat) : Utf8.decode (s.extract i s.size) 0 = Utf8.decode s i := by
  have sz : ∀ k, (0 + k < (s.extract i s.size).size) ↔ (i + k < s.size) := fun k => by simp; omega
  have dz : ∀ k, decide (0 + k < (s.extract i s.size).size) = decide (i + k < s.size) := fun k => decide_eq_decide.2 (sz k)
  unfold Utf8.decode
  simp only [get_nx, nx_ext, Nat.zero_add, Nat.add_zero, dz, show ∀ k, decide (k < (s.extract i s.size).size) = decide (i + k < s.size) from fun k => by have := dz k; rwa [Nat.zero_add] at this]
/-- Points that stand at the head or behind a point are left out. -/
def dotI (acc : List UInt8) (c : UInt8) : List UInt8 := if c = 46 ∧ (acc = [] ∨ acc.getLast? = some 46) then acc else acc ++ [c]
def dots (l : List UInt8) : List UInt8 := l.foldl dotI []
def trimD (l : List UInt8) : List UInt8 := if l.getLast? = some 46 then l.dropLast else l
theorem dots_snoc (l : List UInt8) (k : Nat) (h : k < l.length) : dots (l.take (k + 1)) = dotI (dots (l.take k)) l[k] := by
  unfold dots
  rw [List.take_succ_eq_append_getElem h, List.foldl_append]; rfl
theorem dots_len (l : List UInt8) : (dots l).length ≤ l.length := by
  have aux : ∀ (l acc : List UInt8), (l.foldl dotI acc).length ≤ acc.length + l.length := by
    intro l
    induction l with
    | nil => intro acc; simp
    | cons c r ih =>
      intro acc
      have h1 := ih (dotI acc c)
      have h2 : (dotI acc c).length ≤ acc.length + 1 := by unfold dotI; split <;> simp
      simp only [List.foldl_cons, List.length_cons]; omega
  have := aux l []
  simpa [dots] using this
/-- What is written while a node goes on. -/
def dotted (F : List (List UInt8)) (cur : List UInt8) : List UInt8 := if F = [] then cur else jn F ++ 46 :: cur
theorem jn_snoc (F : List (List UInt8)) (a : List UInt8) (h : F ≠ []) : jn (F ++ [a]) = jn F ++ 46 :: a := by
  induction F with
  | nil => exact absurd rfl h
  | cons x r ih =>
    cases r with
    | nil => simp [jn]
    | cons y r =>
      have := ih (by simp)
      simp only [List.cons_append] at this ⊢
      rw [jn, this, jn]
      simp
theorem jn_add (F : List (List UInt8)) (a : List UInt8) : jn (F ++ [a]) = dotted F a := by
  unfold dotted
  split
  · rename_i e; subst e; simp [jn]
  · rename_i e; exact jn_snoc F a e
theorem dotted_more (F : List (List UInt8)) (cur : List UInt8) (c : UInt8) : dotted F cur ++ [c] = dotted F (cur ++ [c]) := by
  unfold dotted; split <;> simp
theorem last_dotted (F : List (List UInt8)) (cur : List UInt8) (h : cur ≠ []) : (dotted F cur).getLast? = cur.getLast? := by
  unfold dotted
  split
  · rfl
  · rw [List.getLast?_append]
    cases cur with
    | nil => exact absurd rfl h
    | cons a r => simp [List.getLast?_cons]
theorem fold_dots : ∀ (l : List UInt8) (F : List (List UInt8)) (cur : List UInt8), (46 : UInt8) ∉ cur →
    trimD (l.foldl dotI (dotted F cur)) = jn (F ++ (cutL 46 cur l).filter fun x => !x.isEmpty)
  | [], F, cur, hc => by
    simp only [List.foldl_nil, cutL]
    by_cases e : cur = []
    · subst e
      simp only [List.filter_cons, List.isEmpty_nil, Bool.not_true]
      unfold dotted trimD
      split
      · rename_i q; subst q; simp [jn]
      · simp
    · have le : (!cur.isEmpty) = true := by cases cur with
        | nil => exact absurd rfl e
        | cons a r => rfl
      simp only [List.filter_cons, le, if_true, List.filter_nil]
      rw [jn_add]
      unfold trimD
      rw [last_dotted F cur e, if_neg]
      intro q
      exact hc (List.mem_of_getLast? q)
  | c :: r, F, cur, hc => by
    rw [List.foldl_cons]
    unfold cutL
    by_cases c46 : c = 46
    · rw [if_pos c46]
      by_cases e : cur = []
      · subst e
        have d : dotI (dotted F []) c = dotted F [] := by
          unfold dotI
          rw [if_pos]
          refine ⟨c46, ?_⟩
          unfold dotted
          split
          · exact .inl rfl
          · right; simp
        rw [d, fold_dots r F [] (by simp)]
        simp
      · have le : (!cur.isEmpty) = true := by cases cur with
          | nil => exact absurd rfl e
          | cons a r => rfl
        have d : dotI (dotted F cur) c = dotted (F ++ [cur]) [] := by
          unfold dotI
          rw [if_neg]
          · rw [c46]
            have : dotted (F ++ [cur]) [] = jn (F ++ [cur]) ++ [46] := by unfold dotted; rw [if_neg (by simp)]
            rw [this, jn_add]
          · rintro ⟨_, q | q⟩
            · unfold dotted at q; split at q
              · exact e q
              · simp at q
            · rw [last_dotted F cur e] at q; exact hc (List.mem_of_getLast? q)
        rw [d, fold_dots r (F ++ [cur]) [] (by simp)]
        simp only [List.filter_cons, le, if_true, List.append_assoc, List.singleton_append]
    · rw [if_neg c46]
      have d : dotI (dotted F cur) c = dotted F (cur ++ [c]) := by
        unfold dotI
        rw [if_neg (fun q => c46 q.1), dotted_more]
      rw [d, fold_dots r F (cur ++ [c]) (by simp [hc, Ne.symm c46])]
theorem trim_dots (l : List UInt8) : trimD (dots l) = cleanL l := by
  have := fold_dots l [] [] (by simp)
  unfold dots cleanL fullL
  simpa [dotted] using this
/-- A list of bytes that was made since the world w. -/
structure OwnB (w wr : World) (v : Value) (l : List UInt8) : Prop where
  own : wr.ownsRow w.heap.size 5 1 v l.length (rowB l)
  below : Below w.heap.size w wr
theorem OwnB.none_ (w : World) : OwnB w w (.slice none 0 0) [] := ⟨⟨rfl, .inl ⟨rfl, rfl⟩⟩, Below.refl _ _⟩
theorem OwnB.drew {w wr : World} {v : Value} {l : List UInt8} (h : OwnB w wr v l) : OwnB w wr.drew v l := ⟨h.own, h.below.drew⟩
theorem rowB_snoc (l : List UInt8) (c : UInt8) : rowB (l ++ [c]) = rowB l ++ [.int .u8 (c.toNat : Int)] := by simp [rowB]
theorem OwnB.more {w wr w1 : World} {v v' : Value} {l : List UInt8} {c : UInt8} {x : Int} {o : Obj} (h : OwnB w wr v l) (hx : x = (c.toNat : Int))
    (hown : w1.ownsRow w.heap.size 5 1 v' (l.length + 1) (rowB l ++ [.int .u8 x])) (hg : (wr.alloc o).grownBy w1 v.ownBlock) : OwnB w w1 v' (l ++ [c]) := by
  subst hx
  refine ⟨by rw [rowB_snoc]; simpa using hown, (h.below.alloc h.below.size _).grown hg (by have := h.below.size; simp; omega) (fun j hj => (h.own.lt j hj).1)⟩
theorem OwnB.cells {w wr : World} {v : Value} {l : List UInt8} (h : OwnB w wr v l) (hn : 0 < l.length) : ∃ g cap, v = .slice (some ⟨g, 0, none⟩) l.length cap ∧ l.length ≤ cap ∧ w.heap.size ≤ g ∧ g < wr.heap.size ∧ ∀ j (hj : j < l.length), wr.cell? ⟨g, j, none⟩ = some (.int .u8 (l[j].toNat : Int)) := by
  obtain ⟨hl, hx | ⟨g, cap, cur, rfl, hg, hb, hnc, hcm, hs, ht⟩⟩ := h.own
  · exact absurd hx.2 (by omega)
  · refine ⟨g, cap, rfl, hnc, hg, blk_lt hb, fun j hj => ?_⟩
    rw [cell_of_row wr g j cur _ _ hb]
    have : (rowB l)[j]? = some (.int .u8 (l[j].toNat : Int)) := by simp [rowB, hj]
    rw [← ht, List.getElem?_take] at this
    split at this
    · simpa using this
    · cases this
theorem OwnB.shape {w wr : World} {v : Value} {l : List UInt8} (h : OwnB w wr v l) : ∃ a cap, v = .slice a l.length cap ∧ l.length ≤ cap := by
  obtain ⟨hl, ⟨rfl, hn⟩ | ⟨g, cap, cur, rfl, hg, hb, hnc, hcm, hs, ht⟩⟩ := h.own
  · exact ⟨none, 0, by rw [hn], by omega⟩
  · exact ⟨_, cap, rfl, hnc⟩
end Go.Proofs.YteahbdhhcfoiiaaDoor
/- name: blank, swept. -/
namespace Go.Proofs.YteahbdhhcfoiiaaDoor
set_option linter.unusedVariables false
set_option linter.unusedSimpArgs false
open Go.RowKit W
set_option maxRecDepth 100000 in
set_option maxHeartbeats 4000000 in
theorem blank_spec (r : Int) (w : World) : CalcN 53 #[.int .i32 r] w (.bool (blI r)) := by
  by_cases e0 : r = 32
  · subst e0
    rw [show blI 32 = true from rfl]
    go_enter Tryd.func53, Tryd.ntmps53
    go_wp2_with fail
    go_returns
    exact ⟨rfl, rfl⟩
  have b0 : (r == 32) = false := by rw [beq_eq_false_iff_ne]; exact e0
  by_cases e1 : r = 160
  · subst e1
    rw [show blI 160 = true from rfl]
    go_enter Tryd.func53, Tryd.ntmps53
    go_wp2_with fail
    go_returns
    exact ⟨rfl, rfl⟩
  have b1 : (r == 160) = false := by rw [beq_eq_false_iff_ne]; exact e1
  by_cases e2 : r = 8232
  · subst e2
    rw [show blI 8232 = true from rfl]
    go_enter Tryd.func53, Tryd.ntmps53
    go_wp2_with fail
    go_returns
    exact ⟨rfl, rfl⟩
  have b2 : (r == 8232) = false := by rw [beq_eq_false_iff_ne]; exact e2
  by_cases e3 : r = 8233
  · subst e3
    rw [show blI 8233 = true from rfl]
    go_enter Tryd.func53, Tryd.ntmps53
    go_wp2_with fail
    go_returns
    exact ⟨rfl, rfl⟩
  have b3 : (r == 8233) = false := by rw [beq_eq_false_iff_ne]; exact e3
  by_cases e4 : r = 12288
  · subst e4
    rw [show blI 12288 = true from rfl]
    go_enter Tryd.func53, Tryd.ntmps53
    go_wp2_with fail
    go_returns
    exact ⟨rfl, rfl⟩
  have b4 : (r == 12288) = false := by rw [beq_eq_false_iff_ne]; exact e4
  by_cases e5 : r = 65279
  · subst e5
    rw [show blI 65279 = true from rfl]
    go_enter Tryd.func53, Tryd.ntmps53
    go_wp2_with fail
    go_returns
    exact ⟨rfl, rfl⟩
  have b5 : (r == 65279) = false := by rw [beq_eq_false_iff_ne]; exact e5
  have BL : blI r = (decide (9 ≤ r) && decide (r ≤ 13)) := by unfold blI; simp [e0, e1, e2, e3, e4, e5]
  rw [BL]
  clear BL e0 e1 e2 e3 e4 e5
  by_cases q1 : 9 ≤ r
  · by_cases q2 : r ≤ 13
    · rw [decide_eq_true q1, decide_eq_true q2]
      go_enter Tryd.func53, Tryd.ntmps53
      go_wp2_with fail
      go_returns
      exact ⟨rfl, rfl⟩
    · rw [decide_eq_true q1, decide_eq_false q2]
      have q3 : 13 < r := by omega
      go_enter Tryd.func53, Tryd.ntmps53
      go_wp2_with fail
      go_returns
      exact ⟨rfl, rfl⟩
  · rw [decide_eq_false q1]
    have q3 : r < 9 := by omega
    go_enter Tryd.func53, Tryd.ntmps53
    go_wp2_with fail
    go_returns
    exact ⟨rfl, rfl⟩
theorem wide4 (s : ByteArray) (p : Nat) : (Utf8.decode s p).2 ≤ 4 := by
  unfold Utf8.decode
  simp only
  (repeat' split) <;> simp
theorem nb_high {r : Nat} (h : blI (r : Int) = true) : r ≠ 47 ∧ r ≠ 46 ∧ (r < 128 → nB (UInt8.ofNat r) = false) := by
  unfold blI at h
  simp only [Bool.or_eq_true, Bool.and_eq_true, decide_eq_true_eq] at h
  refine ⟨by omega, by omega, fun q => ?_⟩
  unfold nB namI clsI famI
  have : (UInt8.ofNat r).toNat = r := by rw [UInt8.toNat_ofNat']; omega
  rw [this]
  simp only [Bool.or_eq_false_iff, decide_eq_false_iff_not]
  (repeat' split) <;> omega
/-- The sweeping under way. -/
structure Sw (w wr : World) (s : ByteArray) (p : Nat) (acc : List UInt8) (was : Bool) : Prop where
  bw : Bw w w.heap.size acc wr
  it : wr.heap[w.heap.size + 1]? = some (.stringIter s p)
  eq : acc ++ swF s (s.size - p) p was = swL s
  len : acc.length ≤ p
theorem Sw.lt {w wr : World} {s : ByteArray} {p : Nat} {acc : List UInt8} {was : Bool} (h : Sw w wr s p acc was) : w.heap.size + 1 < wr.heap.size := (Array.getElem?_eq_some_iff.1 h.it).1
theorem Bw.iterAt {w0 w : World} {b k p : Nat} {s : ByteArray} {l : List UInt8} (h : Bw w0 b l w) (hk : w.heap[k]? = some (.stringIter s p)) (hb : b ≤ k) (h0 : w0.heap.size ≤ k) (q : Nat) : Bw w0 b l (w.iterAt k s q) := by
  refine ⟨?_, Lib.below_iterAt h.below hb s q, fun j o hj hb2 ho => ?_⟩
  · exact h.bl.iterAt hk q
  · have hjl : j < w0.heap.size := (Array.getElem?_eq_some_iff.1 hj).1
    rw [Lib.iterAt_other w k j s q (by omega)]
    exact h.keep j o hj hb2 ho
/-- The world behind 'next', and what is known of it. -/
structure Nx (w v : World) (s : ByteArray) (p q : Nat) (acc : List UInt8) : Prop where
  bw : Bw w w.heap.size acc v
  it : v.heap[w.heap.size + 1]? = some (.stringIter s q)
theorem Nx.done {w v v' : World} {s : ByteArray} {p q : Nat} {acc m : List UInt8} {was b : Bool} {r : Nat} (h : Nx w v s p q acc) (k : Bw w w.heap.size (acc ++ m) v') (kp : Lib.OthersKept 5 (some w.heap.size) v v')
    (eq : acc ++ swF s (s.size - p) p was = swL s) (hp : p < s.size) (hd : Utf8.decode s p = (r, q - p)) (hq : p < q) (hm : swOne r was = m) (hb : blI (r : Int) = b) (len : acc.length ≤ p) : Sw w v' s q (acc ++ m) b := by
  refine ⟨k, kp _ _ h.it (by simp) (by intro c fz e; cases e), ?_, ?_⟩
  · rw [swF_step s p was hp, hd] at eq
    simp only at eq
    rw [hm, hb, show p + (q - p) = q by omega, ← List.append_assoc] at eq
    exact eq
  · have := swOne_len r was
    rw [hm] at this
    rw [List.length_append]; omega
theorem Nx.same {w v : World} {s : ByteArray} {p q : Nat} {acc : List UInt8} {was b : Bool} {r : Nat} (h : Nx w v s p q acc)
    (eq : acc ++ swF s (s.size - p) p was = swL s) (hp : p < s.size) (hd : Utf8.decode s p = (r, q - p)) (hq : p < q) (hm : swOne r was = []) (hb : blI (r : Int) = b) (len : acc.length ≤ p) : Sw w v s q acc b := by
  have := h.done (m := []) (by rw [List.append_nil]; exact h.bw) (Lib.OthersKept.refl _ _ _) eq hp hd hq hm hb len
  rw [List.append_nil] at this
  exact this
set_option maxRecDepth 100000 in
set_option maxHeartbeats 8000000 in
theorem swept_spec (s : ByteArray) (hs : s.size ≤ 35184372088832) (w : World) :
    Calls Tryd.prog 38 #[.string s] w fun e w' => e = .returned (.string ⟨(swL s).toArray⟩) ∧ Below w.heap.size w w' := by
  go_enter Tryd.func38, Tryd.ntmps38
  go_wp2_with fail
  go_loopw [4] (fun wv wr => ∃ (p : Nat) (acc : List UInt8) (was : Bool), p ≤ s.size + 4 ∧ wv = .bool was ∧ Hid (Sw w wr s p acc was)) (fun _ wr => s.size + 4 - wr.iterPos (w.heap.size + 1))
  case atStart =>
    refine ⟨0, [], false, by omega, rfl, ⟨⟨(Lib.IsBuilderF.of (Lib.fresh_isBuilder 73 5 w)).alloc _, ((Below.refl _ w).alloc (Nat.le_refl _) _).alloc (by simp) _, ((Lib.OthersKept.refl _ _ _).alloc _).alloc _⟩, ?_, rfl, by simp⟩⟩
    have := World.iter_heap (w.alloc (.cells #[.pointer none, .slice none 0 0] 73)) s 0
    simpa using this
  case round =>
    obtain ⟨p, acc, was, hp4, rfl, SW⟩ := hrel
    have lt := SW.out.lt
    have ITP : Hid (wr.iterPos (w.heap.size + 1) = p) := by show _ = _; simp only [World.iterPos, SW.out.it]
    by_cases hp : p < s.size
    · have HPL := hide hp
      have hw := width_pos s p hp
      have hr2 := decode_le s p
      have hnx := fun ty => Lib.run_next_any_at (P := Tryd.prog) wr (w.heap.size + 1) s p ty SW.out.it hp
      obtain ⟨r, wd, hd⟩ : ∃ r wd, Utf8.decode s p = (r, wd) := ⟨_, _, rfl⟩
      rw [hd] at hw hr2 hnx
      simp only at hw hr2 hnx
      obtain ⟨q, hq⟩ : ∃ q, q = p + wd := ⟨_, rfl⟩
      have HD : Hid (Utf8.decode s p = (r, q - p)) := by show _ = _; rw [hd, hq]; simp
      have hpq : p < q := by omega
      have q4 : q ≤ s.size + 4 := by
        have : wd ≤ 4 := by have := wide4 s p; rw [hd] at this; exact this
        omega
      rw [← hq] at hnx
      have NX : Hid (Nx w (wr.iterAt (w.heap.size + 1) s q) s p q acc) := ⟨SW.out.bw.iterAt SW.out.it (by omega) (by omega) q, Lib.iterAt_heap wr (w.heap.size + 1) s p q SW.out.it⟩
      have EQ := hide SW.out.eq
      have LN := hide SW.out.len
      have ll := SW.out.len
      clear hd hq SW hw
      go_wp2_with fail
      refine abs_calls (fun V => Nx w V s p q acc) NX.out ?_
      intro v nv
      have NV := hide nv
      have vl : w.heap.size < v.heap.size := nv.bw.lt
      clear nv NX hnx
      obtain ⟨bl, hbl⟩ : ∃ bl, blI (r : Int) = bl := ⟨_, rfl⟩
      have kbl := fun w' => blank_spec (r : Int) w'
      rw [hbl] at kbl
      have HBL := hide hbl
      clear hbl
      refine (kbl _).mono ?_
      rintro e w1 ⟨rfl, rfl⟩
      by_cases cu : bl = true ∧ was = false
      · obtain ⟨rfl, rfl⟩ := cu
        have HM : Hid (swOne r false = [95]) := by show _ = _; unfold swOne; rw [HBL.out]; rfl
        have kw := fun v (h : BlF w.heap.size (Lib.byteCells acc) v) h1 h2 => bld_byte 95 h h1 h2
        go_wp2_with fail
        refine Calls.mono (kw _ NV.out.bw.bl (by rw [Lib.byteCells_length]; omega) (Nat.le_of_lt vl)) ?_
        rintro e w5 ⟨rfl, k5⟩
        have S5 : Hid (Sw w w5 s q (acc ++ [95]) true) := hide (NV.out.done (m := [95]) (NV.out.bw.write (m := [95]) (by  exact k5)) k5.keep EQ.out HPL.out HD.out hpq HM.out HBL.out LN.out)
        have IT5 : Hid (w5.iterPos (w.heap.size + 1) = q) := by show _ = _; simp only [World.iterPos, S5.out.it]
        clear k5
        go_wp2_with fail
        go_roundw
        case rel => exact ⟨q, _, _, q4, rfl, S5⟩
        case measure => rw [IT5.out, ITP.out]; omega
      · have nu : (bl && !was) = false := by cases bl <;> cases was <;> simp at cu ⊢
        have SO : Hid (swOne r was = if r = 47 then [45] else if r = 46 ∨ (r < 128 ∧ nB (UInt8.ofNat r) = true) then [UInt8.ofNat r] else []) := by
          show _ = _; unfold swOne; rw [HBL.out, nu]; rfl
        have nbw : bl = true → was = true := by intro h; cases was with
          | true => rfl
          | false => exact absurd ⟨h, rfl⟩ cu
        have NH : Hid (bl = true → r ≠ 47 ∧ r ≠ 46 ∧ (r < 128 → nB (UInt8.ofNat r) = false)) := hide (fun h => nb_high (by rw [HBL.out]; exact h))
        by_cases r47 : r = 47
        · have HM : Hid (swOne r was = [45]) := by show _ = _; rw [SO.out, if_pos r47]
          have bf : bl = false := by cases bl with
            | false => rfl
            | true => exact absurd r47 (NH.out rfl).1
          subst bf
          have e47 : ((r : Int) == 47) = true := by rw [beq_iff_eq]; omega
          have e47b : (r == 47) = true := by rw [beq_iff_eq]; omega
          have kw := fun v (h : BlF w.heap.size (Lib.byteCells acc) v) h1 h2 => bld_byte 45 h h1 h2
          clear r47 nu nbw cu
          go_wp2_with fail
          refine Calls.mono (kw _ NV.out.bw.bl (by rw [Lib.byteCells_length]; omega) (Nat.le_of_lt vl)) ?_
          rintro e w5 ⟨rfl, k5⟩
          have S5 : Hid (Sw w w5 s q (acc ++ [45]) false) := hide (NV.out.done (m := [45]) (NV.out.bw.write (m := [45]) (by  exact k5)) k5.keep EQ.out HPL.out HD.out hpq HM.out HBL.out LN.out)
          have IT5 : Hid (w5.iterPos (w.heap.size + 1) = q) := by show _ = _; simp only [World.iterPos, S5.out.it]
          clear k5
          go_wp2_with fail
          go_roundw
          case rel => exact ⟨q, _, _, q4, rfl, S5⟩
          case measure => rw [IT5.out, ITP.out]; omega
        · have e47 : ((r : Int) == 47) = false := by rw [beq_eq_false_iff_ne]; omega
          have e47b : (r == 47) = false := by rw [beq_eq_false_iff_ne]; omega
          by_cases r46 : r = 46
          · have HM : Hid (swOne r was = [46]) := by show _ = _; rw [SO.out, if_neg r47, if_pos (.inl r46), r46]; rfl
            have bf : bl = false := by cases bl with
              | false => rfl
              | true => exact absurd r46 (NH.out rfl).2.1
            subst bf
            have e46 : ((r : Int) == 46) = true := by rw [beq_iff_eq]; omega
            have e46b : (r == 46) = true := by rw [beq_iff_eq]; omega
            have R46 : Hid ((r : Int) = 46) := hide (by omega)
            have kw := fun v (h : BlF w.heap.size (Lib.byteCells acc) v) h1 h2 => bld_rune (r : Int) (by omega) (by omega) h h1 h2
            clear r46 r47 nu nbw cu
            go_wp2_with fail
            refine Calls.mono (kw _ NV.out.bw.bl (by rw [Lib.byteCells_length]; omega) (Nat.le_of_lt vl)) ?_
            rintro e w5 ⟨rfl, k5⟩
            have S5 : Hid (Sw w w5 s q (acc ++ [46]) false) := hide (NV.out.done (m := [46]) (NV.out.bw.write (m := [46]) (by rw [R46.out] at k5; exact k5)) k5.keep EQ.out HPL.out HD.out hpq HM.out HBL.out LN.out)
            have IT5 : Hid (w5.iterPos (w.heap.size + 1) = q) := by show _ = _; simp only [World.iterPos, S5.out.it]
            clear k5
            go_wp2_with fail
            go_roundw
            case rel => exact ⟨q, _, _, q4, rfl, S5⟩
            case measure => rw [IT5.out, ITP.out]; omega
          · have e46 : ((r : Int) == 46) = false := by rw [beq_eq_false_iff_ne]; omega
            have e46b : (r == 46) = false := by rw [beq_eq_false_iff_ne]; omega
            by_cases r128 : r < 128
            · have d1 : decide ((r : Int) < 128) = true := by rw [decide_eq_true_eq]; omega
              have d2 : decide (r < 128) = true := by rw [decide_eq_true_eq]; omega
              have eu : IntKind.u8.wrap (r : Int) = (r : Int) := by rw [IntKind.wrap_u8]; omega
              have et : (UInt8.ofNat r).toNat = r := by rw [UInt8.toNat_ofNat']; omega
              have kn := fun w' => nbyte_spec (r : Int) (by omega) (by omega) w'
              obtain ⟨z, hz⟩ : ∃ z, nB (UInt8.ofNat r) = z := ⟨_, rfl⟩
              have hz2 : namI (r : Int) = z := by rw [← hz]; unfold nB; rw [et]
              rw [hz2] at kn
              cases z
              · have HM : Hid (swOne r was = []) := by show _ = _; rw [SO.out, if_neg r47, if_neg]; rintro (q | ⟨_, q⟩); exact r46 q; rw [hz] at q; cases q
                clear r46 r47 hz hz2 cu et
                cases bl
                · clear nbw
                  have S5 : Hid (Sw w v s q acc false) := hide (NV.out.same EQ.out HPL.out HD.out hpq HM.out HBL.out LN.out)
                  have IT5 : Hid (v.iterPos (w.heap.size + 1) = q) := by show _ = _; simp only [World.iterPos, S5.out.it]
                  go_wp2_with (go_at_call 35; refine (kn _).mono ?_; rintro e w1 ⟨rfl, rfl⟩)
                  go_roundw
                  case rel => exact ⟨q, _, _, q4, rfl, S5⟩
                  case measure => rw [IT5.out, ITP.out]; omega
                · have wt := nbw rfl
                  subst wt
                  clear nbw
                  have S5 : Hid (Sw w v s q acc true) := hide (NV.out.same EQ.out HPL.out HD.out hpq HM.out HBL.out LN.out)
                  have IT5 : Hid (v.iterPos (w.heap.size + 1) = q) := by show _ = _; simp only [World.iterPos, S5.out.it]
                  go_wp2_with (go_at_call 35; refine (kn _).mono ?_; rintro e w1 ⟨rfl, rfl⟩)
                  go_roundw
                  case rel => exact ⟨q, _, _, q4, rfl, S5⟩
                  case measure => rw [IT5.out, ITP.out]; omega
              · have HM : Hid (swOne r was = [UInt8.ofNat r]) := by show _ = _; rw [SO.out, if_neg r47, if_pos (.inr ⟨r128, hz⟩)]
                have bf : bl = false := by cases bl with
                  | false => rfl
                  | true => have := (NH.out rfl).2.2 r128; rw [hz] at this; cases this
                subst bf
                have ET : Hid (((UInt8.ofNat r).toNat : Int) = (r : Int)) := hide (by rw [et])
                have kw := fun v (h : BlF w.heap.size (Lib.byteCells acc) v) h1 h2 => bld_rune (r : Int) (by omega) (by omega) h h1 h2
                clear r46 r47 hz hz2 cu et nbw
                go_wp2_with (go_at_call 35; refine (kn _).mono ?_; rintro e w1 ⟨rfl, rfl⟩)
                refine Calls.mono (kw _ NV.out.bw.bl (by rw [Lib.byteCells_length]; omega) (Nat.le_of_lt vl)) ?_
                rintro e w5 ⟨rfl, k5⟩
                have S5 : Hid (Sw w w5 s q (acc ++ [UInt8.ofNat r]) false) := hide (NV.out.done (m := [UInt8.ofNat r]) (NV.out.bw.write (m := [UInt8.ofNat r]) (by rw [← ET.out] at k5; exact k5)) k5.keep EQ.out HPL.out HD.out hpq HM.out HBL.out LN.out)
                have IT5 : Hid (w5.iterPos (w.heap.size + 1) = q) := by show _ = _; simp only [World.iterPos, S5.out.it]
                clear k5
                go_wp2_with fail
                go_roundw
                case rel => exact ⟨q, _, _, q4, rfl, S5⟩
                case measure => rw [IT5.out, ITP.out]; omega
            · have d1 : decide ((r : Int) < 128) = false := by rw [decide_eq_false_iff_not]; omega
              have d2 : decide (r < 128) = false := by rw [decide_eq_false_iff_not]; omega
              have HM : Hid (swOne r was = []) := by show _ = _; rw [SO.out, if_neg r47, if_neg]; rintro (q | ⟨q, _⟩); exact r46 q; exact r128 q
              clear r46 r47 cu
              cases bl
              · clear nbw
                have S5 : Hid (Sw w v s q acc false) := hide (NV.out.same EQ.out HPL.out HD.out hpq HM.out HBL.out LN.out)
                have IT5 : Hid (v.iterPos (w.heap.size + 1) = q) := by show _ = _; simp only [World.iterPos, S5.out.it]
                go_wp2_with fail
                go_roundw
                case rel => exact ⟨q, _, _, q4, rfl, S5⟩
                case measure => rw [IT5.out, ITP.out]; omega
              · have wt := nbw rfl
                subst wt
                clear nbw
                have S5 : Hid (Sw w v s q acc true) := hide (NV.out.same EQ.out HPL.out HD.out hpq HM.out HBL.out LN.out)
                have IT5 : Hid (v.iterPos (w.heap.size + 1) = q) := by show _ = _; simp only [World.iterPos, S5.out.it]
                go_wp2_with fail
                go_roundw
                case rel => exact ⟨q, _, _, q4, rfl, S5⟩
                case measure => rw [IT5.out, ITP.out]; omega
    · have hnx := fun ty => Lib.run_next_end_at (P := Tryd.prog) wr (w.heap.size + 1) s p ty SW.out.it hp
      have F : Hid (acc = swL s) := by have := SW.out.eq; rw [swF_end s _ p was hp, List.append_nil] at this; exact this
      have kS := Tryd.Builder_String_any_k w.heap.size w.heap.size acc wr SW.out.bw.bl (by omega)
      have BB := hide SW.out.bw.below
      clear SW
      go_wp2_with fail
      refine Calls.mono kS ?_
      rintro e w5 ⟨rfl, _, b5, _⟩
      have B5 := hide (BB.out.trans b5)
      clear b5 kS
      go_wp2_with fail
      go_returns
      exact ⟨by rw [F.out]; rfl, B5.out⟩
end Go.Proofs.YteahbdhhcfoiiaaDoor
/- name: the reference's Clean, the walk. -/
namespace Go.Proofs.YteahbdhhcfoiiaaDoor
set_option linter.unusedVariables false
set_option linter.unusedSimpArgs false
open Go.RowKit W
theorem nb_high2 {r : Nat} (h : blI (r : Int) = true) : r ≠ 47 ∧ r ≠ 46 ∧ (r < 128 → nB (UInt8.ofNat r) = false) := nb_high h
theorem bl_err : blI ((65533 : Nat) : Int) = false := by unfold blI; simp
theorem sw_err (was : Bool) : swOne 65533 was = [] := by unfold swOne; rw [bl_err]; simp
theorem HiB : ∃ i0, Tryd.prog.info? 5 = some i0 ∧ i0.zero = some (.int .u8 0) ∧ i0.size = 1 ∧ i0.bytes = 1 := by
  obtain ⟨i0, h1, h2, h3, h4⟩ := info_parts info_byte
  exact ⟨i0, h1, h2, h3, h4⟩
theorem OwnB.later {w wr w6 : World} {v : Value} {l : List UInt8} (h : OwnB w wr v l) (b : Below wr.heap.size wr w6) : OwnB w w6 v l :=
  ⟨(Upd.of_below b : Upd wr.heap.size [] wr w6).row h.own (by simp), h.below.trans (b.mono h.below.size)⟩
theorem OwnB.cut {w wr : World} {A : Addr} {c m : Nat} {l : List UInt8} (h : OwnB w wr (.slice (some A) (m + 1) c) l) (hm : l.length = m + 1) : OwnB w wr (.slice (some A) m c) l.dropLast := by
  obtain ⟨⟨hl, ⟨hx, _⟩ | ⟨g, cap, cur, hv, hg, hb, hnc, hcm, hs, ht⟩⟩, hB⟩ := h
  · cases hx
  · simp only [Value.slice.injEq, Option.some.injEq] at hv
    obtain ⟨rfl, _, rfl⟩ := hv
    have el : l.dropLast.length = m := by rw [List.length_dropLast]; omega
    refine ⟨⟨by rw [el]; simp [rowB]; omega, .inr ⟨g, c, cur, by rw [el], hg, hb, by omega, hcm, hs, ?_⟩⟩, hB⟩
    rw [el]
    have := congrArg (List.take m) ht
    rw [List.take_take, hm] at this
    rw [show min m ((m + 1) * 1) = m * 1 by omega] at this
    rw [this]
    unfold rowB
    rw [← List.map_take, List.dropLast_eq_take, hm]; rfl
theorem last_some {l : List UInt8} {m : Nat} (h : l.length = m + 1) : l.getLast? = some (l[m]'(by omega)) := by
  rw [List.getLast?_eq_getElem?, List.getElem?_eq_getElem (by omega)]; simp [h]
set_option maxRecDepth 100000 in
set_option maxHeartbeats 16000000 in
theorem rclean_spec (s : ByteArray) (hs : s.size ≤ 2147483648) (w : World) :
    Calls Tryd.prog 24 #[.string s] w fun e w' => e = .returned (.tuple #[.string (cleanA s).1, .bool (cleanA s).2]) ∧ Below w.heap.size w w' := by
  obtain ⟨i0, hi0⟩ := HiB
  have HI := hide hi0
  clear hi0
  go_enter Tryd.func24, Tryd.ntmps24
  go_wp2_with fail
  go_loopw [4, 5, 6] (fun bv wv iv wr => ∃ (p : Nat) (acc : List UInt8) (was : Bool), p ≤ s.size + 4 ∧ wv = .bool was ∧ iv = .int .i64 (p : Int) ∧ Hid (OwnB w wr bv acc) ∧ Hid (acc ++ swF s (s.size - p) p was = swL s) ∧ acc.length ≤ p) (fun _ _ iv _ => s.size + 4 - (intOf iv).toNat)
  case atStart => exact ⟨0, [], false, by omega, rfl, rfl, OwnB.none_ w, hide rfl, by simp⟩
  case round =>
    obtain ⟨p, acc, was, hp4, rfl, rfl, HO, EQ, ll⟩ := hrel
    have bl0 := HO.out.below
    have sz := bl0.size
    clear bl0
    by_cases hp : p < s.size
    · have HPL := hide hp
      have hw := width_pos s p hp
      have hr2 := decode_le s p
      have es : (s.extract p s.size).size = s.size - p := by simp
      have kr0 := fun w' => rune1_spec (s.extract p s.size) (by omega) (by omega) w'
      have dx := dec_ext s p
      have c3 : acc.length + 1 ≤ maxLen := by unfold maxLen; omega
      obtain ⟨r, wd, hd⟩ : ∃ r wd, Utf8.decode s p = (r, wd) := ⟨_, _, rfl⟩
      have w4 := wide4 s p
      rw [hd] at hw hr2 dx w4
      simp only at hw hr2 w4
      obtain ⟨q, hq⟩ : ∃ q, q = p + wd := ⟨_, rfl⟩
      have HQ := hide hq
      have NE : Hid (∀ m, swOne r was = m → acc ++ (m ++ swF s (s.size - q) q (blI (r : Int))) = swL s) := hide (fun m hm => by
        have h1 := EQ.out
        rw [swF_step s p was hp, hd] at h1
        simp only at h1
        rw [hm, ← hq] at h1; exact h1)
      have d00 : decide ((p : Int) < (s.size : Int)) = true := by rw [decide_eq_true_eq]; omega
      by_cases er : r = 65533 ∧ wd = 1
      · obtain ⟨rfl, rfl⟩ := er
        have ra := rnA_err dx
        have kr := kr0
        rw [ra] at kr
        have kbl := fun w' => rblank_spec (-1) w'
        rw [show blI (-1) = false from rfl] at kbl
        have HM : Hid (swOne 65533 was = []) := hide (sw_err was)
        rw [bl_err] at NE
        simp only at kr
        clear ra kr0 dx hd hq es EQ
        go_wp2_with fail
        refine (kr _).mono ?_
        rintro e w1 ⟨rfl, rfl⟩
        go_wp2_with fail
        refine (kbl _).mono ?_
        rintro e w1 ⟨rfl, rfl⟩
        go_wp2_with fail
        refine (kbl _).mono ?_
        rintro e w1 ⟨rfl, rfl⟩
        go_wp2_with fail
        go_roundw
        case rel => exact ⟨q, acc, false, by have := HQ.out; omega, rfl, by rw [HQ.out]; go_num, HO, hide (by simpa using NE.out [] HM.out), by have := HQ.out; omega⟩
        case measure => simp [intOf]; omega
      · have ra := rnA_ok dx (by omega)
        have kr := kr0
        rw [ra] at kr
        obtain ⟨bl, hbl⟩ : ∃ bl, blI (r : Int) = bl := ⟨_, rfl⟩
        have kbl := fun w' => rblank_spec (r : Int) w'
        rw [hbl] at kbl NE
        have HBL := hide hbl
        simp only at kr
        clear ra kr0 dx hd hq es EQ hbl er
        by_cases cu : bl = true ∧ was = false
        · obtain ⟨rfl, rfl⟩ := cu
          have HM : Hid (swOne r false = [95]) := by show _ = _; unfold swOne; rw [HBL.out]; rfl
          go_wp2_with fail
          refine (kr _).mono ?_
          rintro e w1 ⟨rfl, rfl⟩
          go_wp2_with fail
          refine (kbl _).mono ?_
          rintro e w1 ⟨rfl, rfl⟩
          go_wp2_with (first | (
            at_builtin
            refine wpList_append_own _ rfl _ _ 54 rfl w.heap.size 5 i0 (.int .u8 0) 1 1 Tryd.underlying54 HI.out.1 HI.out.2.1 HI.out.2.2.1 HI.out.2.2.2 ?a1 ?a2 u4 acc.length (rowB acc) ?a3 ?a4 ⟨wr.heap.size, 0, none⟩ 1 1 [.int .u8 95] ?a5 ?a6 ?a7 ?a8 ?a9 ?b1 ?b2 ?_
            case a1 => rfl
            case a2 => decide
            case a3 => rfl
            case a4 => exact HO.out.own.alloc _
            case a5 => rfl
            case a6 => rfl
            case a7 => exact cell_one_new _ _ _
            case a8 => exact one_byt
            case a9 => exact c3
            case b1 => omega
            case b2 => simp; omega
            intro v' w9 hown hgrow _
            have O2 := hide (HO.out.more (c := 95) (by rfl) hown hgrow)
            clear hown hgrow))
          refine (kbl _).mono ?_
          rintro e w1 ⟨rfl, rfl⟩
          go_wp2_with fail
          go_roundw
          case rel => exact ⟨q, _, true, by have := HQ.out; omega, rfl, by rw [HQ.out]; go_num, O2, hide (by rw [List.append_assoc]; exact NE.out [95] HM.out), by have := HQ.out; rw [List.length_append]; simp; omega⟩
          case measure => simp [intOf]; omega
        · have nu : (bl && !was) = false := by cases bl <;> cases was <;> simp at cu ⊢
          have SO : Hid (swOne r was = if r = 47 then [45] else if r = 46 ∨ (r < 128 ∧ nB (UInt8.ofNat r) = true) then [UInt8.ofNat r] else []) := by
            show _ = _; unfold swOne; rw [HBL.out, nu]; rfl
          have nbw : bl = true → was = true := by intro h; cases was with
            | true => rfl
            | false => exact absurd ⟨h, rfl⟩ cu
          have NH : Hid (bl = true → r ≠ 47 ∧ r ≠ 46 ∧ (r < 128 → nB (UInt8.ofNat r) = false)) := hide (fun h => nb_high2 (by rw [HBL.out]; exact h))
          cases bl with
          | true =>
            obtain rfl := nbw rfl
            have HM : Hid (swOne r true = []) := by
              obtain ⟨n1, n2, n3⟩ := NH.out rfl
              show _ = _; rw [SO.out, if_neg n1, if_neg]
              rintro (q | ⟨q1, q2⟩)
              · exact n2 q
              · rw [n3 q1] at q2; cases q2
            clear nbw nu cu
            go_wp2_with fail
            refine (kr _).mono ?_
            rintro e w1 ⟨rfl, rfl⟩
            go_wp2_with fail
            refine (kbl _).mono ?_
            rintro e w1 ⟨rfl, rfl⟩
            go_wp2_with fail
            refine (kbl _).mono ?_
            rintro e w1 ⟨rfl, rfl⟩
            go_wp2_with fail
            go_roundw
            case rel => exact ⟨q, acc, true, by have := HQ.out; omega, rfl, by rw [HQ.out]; go_num, HO, hide (by simpa using NE.out [] HM.out), by have := HQ.out; omega⟩
            case measure => simp [intOf]; omega
          | false =>
            clear nbw nu cu NH
            by_cases r47 : r = 47
            · have HM : Hid (swOne r was = [45]) := by show _ = _; rw [SO.out, if_pos r47]
              have e47 : ((r : Int) == 47) = true := by rw [beq_iff_eq]; omega
              have e47b : (r == 47) = true := by rw [beq_iff_eq]; omega
              clear r47
              go_wp2_with fail
              refine (kr _).mono ?_
              rintro e w1 ⟨rfl, rfl⟩
              go_wp2_with fail
              refine (kbl _).mono ?_
              rintro e w1 ⟨rfl, rfl⟩
              go_wp2_with (first | (
                at_builtin
                refine wpList_append_own _ rfl _ _ 54 rfl w.heap.size 5 i0 (.int .u8 0) 1 1 Tryd.underlying54 HI.out.1 HI.out.2.1 HI.out.2.2.1 HI.out.2.2.2 ?a1 ?a2 u4 acc.length (rowB acc) ?a3 ?a4 ⟨wr.heap.size, 0, none⟩ 1 1 [.int .u8 45] ?a5 ?a6 ?a7 ?a8 ?a9 ?b1 ?b2 ?_
                case a1 => rfl
                case a2 => decide
                case a3 => rfl
                case a4 => exact HO.out.own.alloc _
                case a5 => rfl
                case a6 => rfl
                case a7 => exact cell_one_new _ _ _
                case a8 => exact one_byt
                case a9 => exact c3
                case b1 => omega
                case b2 => simp; omega
                intro v' w9 hown hgrow _
                have O2 := hide (HO.out.more (c := 45) (by rfl) hown hgrow)
                clear hown hgrow))
              refine (kbl _).mono ?_
              rintro e w1 ⟨rfl, rfl⟩
              go_wp2_with fail
              go_roundw
              case rel => exact ⟨q, _, false, by have := HQ.out; omega, rfl, by rw [HQ.out]; go_num, O2, hide (by rw [List.append_assoc]; exact NE.out [45] HM.out), by have := HQ.out; rw [List.length_append]; simp; omega⟩
              case measure => simp [intOf]; omega
            · have e47 : ((r : Int) == 47) = false := by rw [beq_eq_false_iff_ne]; omega
              have e47b : (r == 47) = false := by rw [beq_eq_false_iff_ne]; omega
              by_cases r46 : r = 46
              · have HM : Hid (swOne r was = [46]) := by show _ = _; rw [SO.out, if_neg r47, if_pos (.inl r46), r46]; rfl
                have e46 : ((r : Int) == 46) = true := by rw [beq_iff_eq]; omega
                have e46b : (r == 46) = true := by rw [beq_iff_eq]; omega
                have eu : IntKind.u8.wrap (r : Int) = (r : Int) := by rw [IntKind.wrap_u8]; omega
                have R46 : Hid ((r : Int) = 46) := hide (by omega)
                clear r46 r47
                go_wp2_with fail
                refine (kr _).mono ?_
                rintro e w1 ⟨rfl, rfl⟩
                go_wp2_with fail
                refine (kbl _).mono ?_
                rintro e w1 ⟨rfl, rfl⟩
                go_wp2_with (first | (
                  at_builtin
                  refine wpList_append_own _ rfl _ _ 54 rfl w.heap.size 5 i0 (.int .u8 0) 1 1 Tryd.underlying54 HI.out.1 HI.out.2.1 HI.out.2.2.1 HI.out.2.2.2 ?a1 ?a2 u4 acc.length (rowB acc) ?a3 ?a4 ⟨wr.heap.size, 0, none⟩ 1 1 [.int .u8 (r : Int)] ?a5 ?a6 ?a7 ?a8 ?a9 ?b1 ?b2 ?_
                  case a1 => rfl
                  case a2 => decide
                  case a3 => rfl
                  case a4 => exact HO.out.own.alloc _
                  case a5 => rfl
                  case a6 => rfl
                  case a7 => exact cell_one_new _ _ _
                  case a8 => exact one_byt
                  case a9 => exact c3
                  case b1 => omega
                  case b2 => simp; omega
                  intro v' w9 hown hgrow _
                  have O2 := hide (HO.out.more (c := 46) (by rw [R46.out]; rfl) hown hgrow)
                  clear hown hgrow))
                refine (kbl _).mono ?_
                rintro e w1 ⟨rfl, rfl⟩
                go_wp2_with fail
                go_roundw
                case rel => exact ⟨q, _, false, by have := HQ.out; omega, rfl, by rw [HQ.out]; go_num, O2, hide (by rw [List.append_assoc]; exact NE.out [46] HM.out), by have := HQ.out; rw [List.length_append]; simp; omega⟩
                case measure => simp [intOf]; omega
              · have e46 : ((r : Int) == 46) = false := by rw [beq_eq_false_iff_ne]; omega
                have e46b : (r == 46) = false := by rw [beq_eq_false_iff_ne]; omega
                have e00 : decide ((0 : Int) ≤ (r : Int)) = true := by rw [decide_eq_true_eq]; omega
                by_cases r128 : r < 128
                · have d1 : decide ((r : Int) < 128) = true := by rw [decide_eq_true_eq]; omega
                  have d2 : decide (r < 128) = true := by rw [decide_eq_true_eq]; omega
                  have eu : IntKind.u8.wrap (r : Int) = (r : Int) := by rw [IntKind.wrap_u8]; omega
                  have et : (UInt8.ofNat r).toNat = r := by rw [UInt8.toNat_ofNat']; omega
                  have kn := fun w' => rbyte_spec (r : Int) (by omega) (by omega) w'
                  obtain ⟨z, hz⟩ : ∃ z, nB (UInt8.ofNat r) = z := ⟨_, rfl⟩
                  have hz2 : namI (r : Int) = z := by rw [← hz]; unfold nB; rw [et]
                  rw [hz2] at kn
                  cases z
                  · have HM : Hid (swOne r was = []) := by show _ = _; rw [SO.out, if_neg r47, if_neg]; rintro (q | ⟨_, q⟩); exact r46 q; rw [hz] at q; cases q
                    clear r46 r47 hz hz2 et
                    go_wp2_with fail
                    refine (kr _).mono ?_
                    rintro e w1 ⟨rfl, rfl⟩
                    go_wp2_with fail
                    refine (kbl _).mono ?_
                    rintro e w1 ⟨rfl, rfl⟩
                    go_wp2_with fail
                    refine (kn _).mono ?_
                    rintro e w1 ⟨rfl, rfl⟩
                    go_wp2_with fail
                    refine (kbl _).mono ?_
                    rintro e w1 ⟨rfl, rfl⟩
                    go_wp2_with fail
                    go_roundw
                    case rel => exact ⟨q, acc, false, by have := HQ.out; omega, rfl, by rw [HQ.out]; go_num, HO, hide (by simpa using NE.out [] HM.out), by have := HQ.out; omega⟩
                    case measure => simp [intOf]; omega
                  · have HM : Hid (swOne r was = [UInt8.ofNat r]) := by show _ = _; rw [SO.out, if_neg r47, if_pos (.inr ⟨r128, hz⟩)]
                    have ET : Hid (((UInt8.ofNat r).toNat : Int) = (r : Int)) := hide (by rw [et])
                    clear r46 r47 hz hz2 et
                    go_wp2_with fail
                    refine (kr _).mono ?_
                    rintro e w1 ⟨rfl, rfl⟩
                    go_wp2_with fail
                    refine (kbl _).mono ?_
                    rintro e w1 ⟨rfl, rfl⟩
                    go_wp2_with fail
                    refine (kn _).mono ?_
                    rintro e w1 ⟨rfl, rfl⟩
                    go_wp2_with (first | (
                      at_builtin
                      refine wpList_append_own _ rfl _ _ 54 rfl w.heap.size 5 i0 (.int .u8 0) 1 1 Tryd.underlying54 HI.out.1 HI.out.2.1 HI.out.2.2.1 HI.out.2.2.2 ?a1 ?a2 u4 acc.length (rowB acc) ?a3 ?a4 ⟨wr.heap.size, 0, none⟩ 1 1 [.int .u8 (r : Int)] ?a5 ?a6 ?a7 ?a8 ?a9 ?b1 ?b2 ?_
                      case a1 => rfl
                      case a2 => decide
                      case a3 => rfl
                      case a4 => exact HO.out.own.alloc _
                      case a5 => rfl
                      case a6 => rfl
                      case a7 => exact cell_one_new _ _ _
                      case a8 => exact one_byt
                      case a9 => exact c3
                      case b1 => omega
                      case b2 => simp; omega
                      intro v' w9 hown hgrow _
                      have O2 := hide (HO.out.more (c := UInt8.ofNat r) (by rw [ET.out]) hown hgrow)
                      clear hown hgrow))
                    refine (kbl _).mono ?_
                    rintro e w1 ⟨rfl, rfl⟩
                    go_wp2_with fail
                    go_roundw
                    case rel => exact ⟨q, _, false, by have := HQ.out; omega, rfl, by rw [HQ.out]; go_num, O2, hide (by rw [List.append_assoc]; exact NE.out [UInt8.ofNat r] HM.out), by have := HQ.out; rw [List.length_append]; simp; omega⟩
                    case measure => simp [intOf]; omega
                · have d1 : decide ((r : Int) < 128) = false := by rw [decide_eq_false_iff_not]; omega
                  have d2 : decide (r < 128) = false := by rw [decide_eq_false_iff_not]; omega
                  have HM : Hid (swOne r was = []) := by show _ = _; rw [SO.out, if_neg r47, if_neg]; rintro (q | ⟨q, _⟩); exact r46 q; exact r128 q
                  clear r46 r47
                  go_wp2_with fail
                  refine (kr _).mono ?_
                  rintro e w1 ⟨rfl, rfl⟩
                  go_wp2_with fail
                  refine (kbl _).mono ?_
                  rintro e w1 ⟨rfl, rfl⟩
                  go_wp2_with fail
                  refine (kbl _).mono ?_
                  rintro e w1 ⟨rfl, rfl⟩
                  go_wp2_with fail
                  go_roundw
                  case rel => exact ⟨q, acc, false, by have := HQ.out; omega, rfl, by rw [HQ.out]; go_num, HO, hide (by simpa using NE.out [] HM.out), by have := HQ.out; omega⟩
                  case measure => simp [intOf]; omega
    · have F : Hid (acc = swL s) := by have := EQ.out; rw [swF_end s _ p was hp, List.append_nil] at this; exact this
      have d00 : decide ((p : Int) < (s.size : Int)) = false := by rw [decide_eq_false_iff_not]; omega
      have d01 : decide (p < s.size) = false := by rw [decide_eq_false_iff_not]; omega
      have al : acc.length ≤ s.size := by have := swF_len s s.size 0 false; rw [F.out]; exact this
      obtain ⟨a4, cap4, rfl, lc4⟩ := HO.out.shape
      have CELL : Hid (∀ j (hj : j < acc.length), ∃ g, a4 = some ⟨g, 0, none⟩ ∧ g < wr.heap.size ∧ wr.cell? ⟨g, j, none⟩ = some (.int .u8 (acc[j].toNat : Int))) := hide (fun j hj => by
        obtain ⟨g, cap, hv, _, _, hl, hc⟩ := HO.out.cells (by omega)
        simp only [Value.slice.injEq] at hv
        exact ⟨g, hv.1, hl, hc j hj⟩)
      have BL0 := hide HO.out.below
      obtain ⟨n, hn⟩ : ∃ n, n = acc.length := ⟨_, rfl⟩
      have HN := hide hn
      rw [← hn] at al lc4 ⊢
      clear hn HO EQ
      obtain ⟨w2, hw2⟩ : ∃ w2, w2 = wr := ⟨_, rfl⟩
      have SZ2 := sz
      rw [← hw2] at CELL BL0 SZ2 ⊢
      clear hw2 sz ll hp4 hp
      go_wp2_with fail
      go_loopw [9, 10] (fun ov jv wq => ∃ (k : Nat) (out : List UInt8), k ≤ n ∧ jv = .int .i64 (k : Int) ∧ Hid (OwnB w2 wq ov out) ∧ Hid (out = dots (acc.take k)) ∧ out.length ≤ k) (fun _ jv _ => n - (intOf jv).toNat)
      case atStart => exact ⟨0, [], by omega, rfl, OwnB.none_ w2, hide rfl, by simp⟩
      case round =>
        obtain ⟨k, out, hk, rfl, HO2, HD, lk⟩ := hrel
        have sz3 := HO2.out.below.size
        by_cases kn : k < n
        · have hka : k < acc.length := by have := HN.out; omega
          obtain ⟨g, rfl, gl, gc⟩ := CELL.out k hka
          have ST : Hid (∀ m, dotI out acc[k] = m → m = dots (acc.take (k + 1))) := hide (fun m hm => by rw [← hm, HD.out]; exact (dots_snoc acc k hka).symm)
          obtain ⟨c, hc⟩ : ∃ c, acc[k] = c := ⟨_, rfl⟩
          rw [hc] at gc ST
          have GC := (HO2.out.below.cell (p := ⟨g, k, none⟩) gl).trans gc
          have dk : decide ((k : Int) < (n : Int)) = true := by rw [decide_eq_true_eq]; omega
          have dkb : decide (k < n) = true := by rw [decide_eq_true_eq]; omega
          have c3 : out.length + 1 ≤ maxLen := by unfold maxLen; omega
          clear gc hc hka CELL
          by_cases c46 : c = 46
          · have z46 : ((c.toNat : Int) == 46) = true := by rw [c46]; rfl
            have z46b : (c.toNat == 46) = true := by rw [c46]; rfl
            by_cases he : out = []
            · have DOT : Hid (dotI out c = out) := by show _ = _; unfold dotI; rw [if_pos ⟨c46, .inl he⟩]
              obtain ⟨ao, co, rfl, lc⟩ := HO2.out.shape
              have l0 : out.length = 0 := by rw [he]; rfl
              clear he c46
              rw [l0] at HO2 ⊢
              go_wp2_with fail
              go_roundw
              case rel => exact ⟨k + 1, out, by omega, by go_num, HO2, hide (ST.out _ DOT.out), by omega⟩
              case measure => simp [intOf]; omega
            · obtain ⟨m, hm⟩ : ∃ m, out.length = m + 1 := ⟨out.length - 1, by have := List.length_pos_iff.2 he; omega⟩
              obtain ⟨g3, cap3, hv3, _, lg3, gl3, hc3⟩ := HO2.out.cells (by omega)
              obtain ⟨z, hz⟩ : ∃ z, out[m] = z := ⟨_, rfl⟩
              have LS := last_some hm
              rw [hz] at LS
              have G3 := hc3 m (by omega)
              rw [hz] at G3
              obtain rfl := hv3
              rw [hm] at HO2 ⊢
              clear hc3 hz
              by_cases z3 : z = 46
              · have DOT : Hid (dotI out c = out) := by show _ = _; unfold dotI; rw [if_pos ⟨c46, .inr (by rw [LS, z3])⟩]
                have z36 : ((z.toNat : Int) == 46) = true := by rw [z3]; rfl
                have z36b : (z.toNat == 46) = true := by rw [z3]; rfl
                clear LS he c46 z3
                go_wp2_with fail
                go_roundw
                case rel => exact ⟨k + 1, out, by omega, by go_num, HO2, hide (ST.out _ DOT.out), by omega⟩
                case measure => simp [intOf]; omega
              · have DOT : Hid (dotI out c = out ++ [c]) := by show _ = _; unfold dotI; rw [if_neg]; rintro ⟨_, q | q⟩; exact he q; rw [LS] at q; exact z3 (Option.some.inj q)
                have z36 : ((z.toNat : Int) == 46) = false := by rw [beq_eq_false_iff_ne]; intro q; exact z3 (by apply UInt8.toNat_inj.1; have : (46 : UInt8).toNat = 46 := rfl; omega)
                have z36b : (z.toNat == 46) = false := by rw [beq_eq_false_iff_ne]; intro q; exact z3 (by apply UInt8.toNat_inj.1; have : (46 : UInt8).toNat = 46 := rfl; omega)
                clear LS he c46 z3
                go_wp2_with (first | (
                  at_builtin
                  refine wpList_append_own _ rfl _ _ 54 rfl w2.heap.size 5 i0 (.int .u8 0) 1 1 Tryd.underlying54 HI.out.1 HI.out.2.1 HI.out.2.2.1 HI.out.2.2.2 ?a1 ?a2 (.slice (some ⟨g3, 0, none⟩) (m + 1) cap3) out.length (rowB out) ?a3 ?a4 ⟨wr.heap.size, 0, none⟩ 1 1 [.int .u8 (c.toNat : Int)] ?a5 ?a6 ?a7 ?a8 ?a9 ?b1 ?b2 ?_
                  case a1 => rfl
                  case a2 => decide
                  case a3 => rfl
                  case a4 => exact HO2.out.own.alloc _
                  case a5 => rfl
                  case a6 => rfl
                  case a7 => exact cell_one_new _ _ _
                  case a8 => exact one_byt
                  case a9 => exact c3
                  case b1 => omega
                  case b2 => simp; omega
                  intro v' w9 hown hgrow _
                  have O2 := hide (HO2.out.more (c := c) rfl hown hgrow)
                  clear hown hgrow))
                go_roundw
                case rel => exact ⟨k + 1, _, by omega, by go_num, O2, hide (ST.out _ DOT.out), by rw [List.length_append]; simp; omega⟩
                case measure => simp [intOf]; omega
          · have z46 : ((c.toNat : Int) == 46) = false := by rw [beq_eq_false_iff_ne]; intro q; exact c46 (by apply UInt8.toNat_inj.1; have : (46 : UInt8).toNat = 46 := rfl; omega)
            have z46b : (c.toNat == 46) = false := by rw [beq_eq_false_iff_ne]; intro q; exact c46 (by apply UInt8.toNat_inj.1; have : (46 : UInt8).toNat = 46 := rfl; omega)
            have DOT : Hid (dotI out c = out ++ [c]) := by show _ = _; unfold dotI; rw [if_neg (fun q => c46 q.1)]
            go_wp2_with (first | (
              at_builtin
              refine wpList_append_own _ rfl _ _ 54 rfl w2.heap.size 5 i0 (.int .u8 0) 1 1 Tryd.underlying54 HI.out.1 HI.out.2.1 HI.out.2.2.1 HI.out.2.2.2 ?a1 ?a2 u9 out.length (rowB out) ?a3 ?a4 ⟨wr.heap.size, 0, none⟩ 1 1 [.int .u8 (c.toNat : Int)] ?a5 ?a6 ?a7 ?a8 ?a9 ?b1 ?b2 ?_
              case a1 => rfl
              case a2 => decide
              case a3 => rfl
              case a4 => exact HO2.out.own.alloc _
              case a5 => rfl
              case a6 => rfl
              case a7 => exact cell_one_new _ _ _
              case a8 => exact one_byt
              case a9 => exact c3
              case b1 => omega
              case b2 => simp; omega
              intro v' w9 hown hgrow _
              have O2 := hide (HO2.out.more (c := c) rfl hown hgrow)
              clear hown hgrow))
            go_roundw
            case rel => exact ⟨k + 1, _, by omega, by go_num, O2, hide (ST.out _ DOT.out), by rw [List.length_append]; simp; omega⟩
            case measure => simp [intOf]; omega
        · obtain rfl : k = n := by omega
          have AO : Hid (out = dots (swL s)) := by show _ = _; rw [HD.out, HN.out, List.take_length, F.out]
          have dk : decide ((k : Int) < (k : Int)) = false := by rw [decide_eq_false_iff_not]; omega
          have dkb : decide (k < k) = false := by rw [decide_eq_false_iff_not]; omega
          clear HD CELL HN
          by_cases he : out = []
          · have RES : Hid (out = cleanL (swL s)) := by show _ = _; rw [← trim_dots, ← AO.out, he]; rfl
            obtain ⟨ao, co, rfl, lc⟩ := HO2.out.shape
            have l0 : out.length = 0 := by rw [he]; rfl
            have OR := HO2
            clear AO he
            rw [l0] at OR ⊢
            go_upto_region 23 with (fail)
            generalize hq : Value.slice ao 0 co = v9 at OR ⊢
            clear hq
            obtain ⟨t, ht⟩ : ∃ t : ByteArray, t = ⟨(cleanL (swL s)).toArray⟩ := ⟨_, rfl⟩
            have kv := fun w' => rvalid_spec t w'
            rw [show t.data.toList = cleanL (swL s) by rw [ht]] at kv
            have cv := conv_own OR.out.own
            rw [RES.out, ← ht] at cv
            have HT := hide ht.symm
            obtain ⟨v, hv⟩ : ∃ v, validN (cleanL (swL s)) = v := ⟨_, rfl⟩
            have F : Hid (cleanA s = if v = true then (t, true) else (⟨#[]⟩, false)) := by
              show _ = _; unfold cleanA; rw [hv, ← ht]
            rw [hv] at kv
            clear hv ht
            cases v
            · have F : Hid (cleanA s = (⟨#[]⟩, false)) := by show _ = _; rw [F.out]; rfl
              go_wp2_with fail
              refine Calls.mono (kv _) ?_
              rintro e w6 ⟨rfl, b6⟩
              have O6 := hide (OR.out.later b6)
              clear b6
              go_wp2_with fail
              go_returns
              exact ⟨by rw [F.out]; rfl, BL0.out.trans (O6.out.below.mono SZ2)⟩
            · have F : Hid (cleanA s = (t, true)) := by show _ = _; rw [F.out]; rfl
              go_wp2_with fail
              refine Calls.mono (kv _) ?_
              rintro e w6 ⟨rfl, b6⟩
              have O6 := hide (OR.out.later b6)
              clear b6
              clear cv
              have cv := conv_own O6.out.own
              rw [RES.out, HT.out] at cv
              go_wp2_with fail
              go_returns
              exact ⟨by rw [F.out]; rfl, BL0.out.trans (O6.out.below.mono SZ2)⟩
          · obtain ⟨m, hm⟩ : ∃ m, out.length = m + 1 := ⟨out.length - 1, by have := List.length_pos_iff.2 he; omega⟩
            obtain ⟨g3, cap3, hv3, _, lg3, gl3, hc3⟩ := HO2.out.cells (by omega)
            obtain ⟨z, hz⟩ : ∃ z, out[m] = z := ⟨_, rfl⟩
            have LS := last_some hm
            rw [hz] at LS
            have G3 := hc3 m (by omega)
            rw [hz] at G3
            obtain rfl := hv3
            rw [hm] at HO2 ⊢
            clear hc3 hz
            by_cases z3 : z = 46
            · have RES : Hid (out.dropLast = cleanL (swL s)) := by show _ = _; rw [← trim_dots, ← AO.out]; unfold trimD; rw [LS, if_pos (by rw [z3])]
              have z36 : ((z.toNat : Int) == 46) = true := by rw [z3]; rfl
              have z36b : (z.toNat == 46) = true := by rw [z3]; rfl
              have OR := hide (HO2.out.cut hm)
              clear LS he AO z3
              go_upto_region 23 with (fail)
              generalize hq : Value.slice (some ⟨g3, 0, none⟩) m cap3 = v9 at OR ⊢
              clear hq
              obtain ⟨t, ht⟩ : ∃ t : ByteArray, t = ⟨(cleanL (swL s)).toArray⟩ := ⟨_, rfl⟩
              have kv := fun w' => rvalid_spec t w'
              rw [show t.data.toList = cleanL (swL s) by rw [ht]] at kv
              have cv := conv_own OR.out.own
              rw [RES.out, ← ht] at cv
              have HT := hide ht.symm
              obtain ⟨v, hv⟩ : ∃ v, validN (cleanL (swL s)) = v := ⟨_, rfl⟩
              have F : Hid (cleanA s = if v = true then (t, true) else (⟨#[]⟩, false)) := by
                show _ = _; unfold cleanA; rw [hv, ← ht]
              rw [hv] at kv
              clear hv ht
              cases v
              · have F : Hid (cleanA s = (⟨#[]⟩, false)) := by show _ = _; rw [F.out]; rfl
                go_wp2_with fail
                refine Calls.mono (kv _) ?_
                rintro e w6 ⟨rfl, b6⟩
                have O6 := hide (OR.out.later b6)
                clear b6
                go_wp2_with fail
                go_returns
                exact ⟨by rw [F.out]; rfl, BL0.out.trans (O6.out.below.mono SZ2)⟩
              · have F : Hid (cleanA s = (t, true)) := by show _ = _; rw [F.out]; rfl
                go_wp2_with fail
                refine Calls.mono (kv _) ?_
                rintro e w6 ⟨rfl, b6⟩
                have O6 := hide (OR.out.later b6)
                clear b6
                clear cv
                have cv := conv_own O6.out.own
                rw [RES.out, HT.out] at cv
                go_wp2_with fail
                go_returns
                exact ⟨by rw [F.out]; rfl, BL0.out.trans (O6.out.below.mono SZ2)⟩
            · have RES : Hid (out = cleanL (swL s)) := by show _ = _; rw [← trim_dots, ← AO.out]; unfold trimD; rw [LS, if_neg (by intro q; exact z3 (Option.some.inj q))]
              have z36 : ((z.toNat : Int) == 46) = false := by rw [beq_eq_false_iff_ne]; intro q; exact z3 (by apply UInt8.toNat_inj.1; have : (46 : UInt8).toNat = 46 := rfl; omega)
              have z36b : (z.toNat == 46) = false := by rw [beq_eq_false_iff_ne]; intro q; exact z3 (by apply UInt8.toNat_inj.1; have : (46 : UInt8).toNat = 46 := rfl; omega)
              have OR := HO2
              clear LS he AO z3
              go_upto_region 23 with (fail)
              generalize hq : Value.slice (some ⟨g3, 0, none⟩) (m + 1) cap3 = v9 at OR ⊢
              clear hq
              obtain ⟨t, ht⟩ : ∃ t : ByteArray, t = ⟨(cleanL (swL s)).toArray⟩ := ⟨_, rfl⟩
              have kv := fun w' => rvalid_spec t w'
              rw [show t.data.toList = cleanL (swL s) by rw [ht]] at kv
              have cv := conv_own OR.out.own
              rw [RES.out, ← ht] at cv
              have HT := hide ht.symm
              obtain ⟨v, hv⟩ : ∃ v, validN (cleanL (swL s)) = v := ⟨_, rfl⟩
              have F : Hid (cleanA s = if v = true then (t, true) else (⟨#[]⟩, false)) := by
                show _ = _; unfold cleanA; rw [hv, ← ht]
              rw [hv] at kv
              clear hv ht
              cases v
              · have F : Hid (cleanA s = (⟨#[]⟩, false)) := by show _ = _; rw [F.out]; rfl
                go_wp2_with fail
                refine Calls.mono (kv _) ?_
                rintro e w6 ⟨rfl, b6⟩
                have O6 := hide (OR.out.later b6)
                clear b6
                go_wp2_with fail
                go_returns
                exact ⟨by rw [F.out]; rfl, BL0.out.trans (O6.out.below.mono SZ2)⟩
              · have F : Hid (cleanA s = (t, true)) := by show _ = _; rw [F.out]; rfl
                go_wp2_with fail
                refine Calls.mono (kv _) ?_
                rintro e w6 ⟨rfl, b6⟩
                have O6 := hide (OR.out.later b6)
                clear b6
                clear cv
                have cv := conv_own O6.out.own
                rw [RES.out, HT.out] at cv
                go_wp2_with fail
                go_returns
                exact ⟨by rw [F.out]; rfl, BL0.out.trans (O6.out.below.mono SZ2)⟩
end Go.Proofs.YteahbdhhcfoiiaaDoor
/- name: Clean. -/
namespace Go.Proofs.YteahbdhhcfoiiaaDoor
set_option linter.unusedVariables false
set_option linter.unusedSimpArgs false
open Go.RowKit W
theorem filter_snoc {α : Type} (f : α → Bool) (l : List α) (k : Nat) (h : k < l.length) : (l.take (k + 1)).filter f = if f l[k] = true then (l.take k).filter f ++ [l[k]] else (l.take k).filter f := by
  rw [List.take_succ_eq_append_getElem h, List.filter_append]
  by_cases q : f l[k] = true
  · rw [if_pos q]; simp [q]
  · rw [if_neg q]; simp [q]
def fullB (x : ByteArray) : Bool := decide (x.size ≠ 0)
theorem full_map (ps : List ByteArray) : (ps.filter fullB).map lst = (ps.map lst).filter fun x => !x.isEmpty := by
  induction ps with
  | nil => rfl
  | cons p r ih =>
    have e : fullB p = !(lst p).isEmpty := by
      unfold fullB
      rw [Bool.eq_iff_iff, decide_eq_true_eq, ← lst_len]
      cases lst p with
      | nil => simp
      | cons a b => simp
    simp only [List.filter_cons, List.map_cons, e]
    split
    · rw [List.map_cons, ih]
    · exact ih
theorem own_slice {w wr : World} {v : Value} {ps : List ByteArray} (h : OwnT w wr v ps) : ∃ a c, v = .slice a ps.length c ∧ IsTxts wr a ps ∧ ps.length ≤ c := by
  obtain ⟨a, c, hv, ty, lc⟩ := tyT_of_own h.own rfl
  exact ⟨a, c, hv, ty.is, lc⟩
set_option maxRecDepth 100000 in
set_option maxHeartbeats 8000000 in
theorem clean_spec (s : ByteArray) (hs : s.size ≤ 2147483648) (mx : Int) (w : World) (gm : GM mx w) :
    Calls Tryd.prog 23 #[.string s] w fun e w' => e = .returned (.tuple #[.string (cleanA s).1, .bool (cleanA s).2]) ∧ Below w.heap.size w w' := by
  have ks := swept_spec s (by omega) w
  have SL := swF_len s s.size 0 false
  rw [show swF s s.size 0 false = swL s from rfl] at SL
  obtain ⟨y, hy⟩ : ∃ y, y = (⟨(swL s).toArray⟩ : ByteArray) := ⟨_, rfl⟩
  have ly : lst y = swL s := by rw [hy]; exact lst_mk (swL s)
  have ys : y.size ≤ s.size := by rw [← lst_len, ly]; omega
  rw [← hy] at ks
  have kp := fun v (g : GM mx v) => Tryd.strings_Split y ⟨#[46]⟩ mx v (by omega) g (by decide)
  have hl := Lib.splitB_all ⟨#[46]⟩ (by decide) 0 _ y rfl
  have SP := split_pieces y 46
  obtain ⟨ps, hps⟩ : ∃ ps, ps = Lib.splitB ⟨#[46]⟩ 0 (Lib.countB y ⟨#[46]⟩) y := ⟨_, rfl⟩
  rw [← hl, ← hps] at kp
  rw [← hps] at SP
  have SP2 : Hid (ps.map lst = cutL 46 [] (swL s)) := by show _ = _; rw [← ly]; exact SP
  have pl : ps.length ≤ 2147483649 := by
    have h1 := congrArg List.length SP2.out
    have h2 := cutL_len 46 (swL s) []
    rw [List.length_map] at h1; omega
  have FU : Hid ((ps.filter fullB).map lst = fullL (swL s)) := by show _ = _; rw [full_map, SP2.out]; rfl
  have CL := cleanL_len (swL s)
  obtain ⟨n, hn⟩ : ∃ n, n = ps.length := ⟨_, rfl⟩
  have HN := hide hn
  rw [← hn] at kp pl
  have GMH := hide gm
  clear hy ly hl hps SP gm hn
  go_enter Tryd.func23, Tryd.ntmps23
  go_wp2_with fail
  refine Calls.mono ks ?_
  rintro e w1 ⟨rfl, b1⟩
  have B1 := hide b1
  clear b1 ks
  go_wp2_with fail
  refine Calls.mono (kp _ (GMH.out.later B1.out)) ?_
  rintro e w2 ⟨rfl, hw⟩
  have T2 : Hid (LieT w2 w1.heap.size 0 ps) := by
    refine ⟨fun j hj => ?_, ?_⟩
    · subst hw
      rw [Nat.zero_add]
      exact (cell_of_row _ w1.heap.size j _ _ (0, 0) (heap_alloc_new w1 _)).trans (by simp [hj])
    · subst hw; simp
  have B2 : Hid (Below w.heap.size w w2) := by subst hw; exact B1.out.alloc B1.out.size _
  clear hw kp
  go_wp2_with fail
  go_loopw [4, 11] (fun kv iv wr => ∃ (k : Nat), k ≤ n ∧ iv = .int .i64 (k : Int) ∧ Hid (OwnT w2 wr kv ((ps.take k).filter fullB))) (fun _ iv _ => n - (intOf iv).toNat)
  case atStart => exact ⟨0, by omega, rfl, OwnT.none_ w2⟩
  case round =>
    obtain ⟨k, hk, rfl, OW⟩ := hrel
    by_cases hlt : k < n
    · have kl : k < ps.length := by have := HN.out; omega
      have c0 := (OW.out.below.cell (p := ⟨w1.heap.size, 0 + k, none⟩) T2.out.lt).trans (T2.out.cell k kl)
      rw [Nat.zero_add] at c0
      have FS := hide (filter_snoc fullB ps k kl)
      have bl := OW.out.below
      have sz := bl.size
      have fl : ((ps.take k).filter fullB).length ≤ k := Nat.le_trans (List.length_filter_le _ _) (by rw [List.length_take]; omega)
      obtain ⟨x, hx⟩ : ∃ x, x = ps[k] := ⟨_, rfl⟩
      rw [← hx] at c0 FS
      obtain ⟨qs, hqs⟩ : ∃ qs, qs = (ps.take k).filter fullB := ⟨_, rfl⟩
      rw [← hqs] at OW FS fl
      have HO := OW
      clear hx OW bl hqs
      by_cases x0 : x.size = 0
      · have N : Hid ((ps.take (k + 1)).filter fullB = qs) := by show _ = _; rw [FS.out, if_neg]; unfold fullB; rw [x0]; simp
        obtain rfl := str_nil x0
        clear x0
        go_wp2_with fail
        go_roundw
        case rel => exact ⟨k + 1, by omega, by go_num, by rw [N.out]; exact HO⟩
        case measure => simp [intOf]; omega
      · have N : Hid ((ps.take (k + 1)).filter fullB = qs ++ [x]) := by show _ = _; rw [FS.out, if_pos]; unfold fullB; exact decide_eq_true x0
        obtain ⟨z1, z2⟩ := str_ne x0
        have c3 : qs.length + 1 ≤ maxLen := by unfold maxLen; omega
        obtain ⟨i0, hi0, hz0, hz1, hz2⟩ := info_parts info_txt
        have HI : Hid (Tryd.prog.info? 9 = some i0 ∧ i0.zero = some (.string ByteArray.empty) ∧ i0.size = 1 ∧ i0.bytes = 16) := ⟨hi0, hz0, hz1, hz2⟩
        clear hi0 hz0 hz1 hz2 x0
        go_wp2_with (
          at_builtin
          refine wpList_append_own _ rfl _ _ 26 rfl w2.heap.size 9 i0 (.string ByteArray.empty) 1 16 Tryd.underlying26 HI.out.1 HI.out.2.1 HI.out.2.2.1 HI.out.2.2.2 ?a1 ?a2 u4 qs.length (qs.map Value.string) ?a3 ?a4 ⟨wr.heap.size, 0, none⟩ 1 1 [.string x] ?a5 ?a6 ?a7 ?a8 ?a9 ?b1 ?b2 ?_
          case a1 => rfl
          case a2 => decide
          case a3 => rfl
          case a4 => exact HO.out.own.alloc _
          case a5 => rfl
          case a6 => rfl
          case a7 => exact cell_one_new _ _ _
          case a8 => exact one_txt
          case a9 => exact c3
          case b1 => omega
          case b2 => simp; omega
          intro v' w9 hown hgrow _
          have O2 := hide (HO.out.more hown hgrow)
          clear hown hgrow)
        go_roundw
        case rel => exact ⟨k + 1, by omega, by go_num, by rw [N.out]; exact O2⟩
        case measure => simp [intOf]; omega
    · obtain rfl : k = n := by omega
      have O := OW.out
      rw [HN.out, List.take_length] at O
      have B3 := hide (B2.out.trans (O.below.mono B2.out.size))
      obtain ⟨t, ht⟩ : ∃ t, t = (⟨(cleanL (swL s)).toArray⟩ : ByteArray) := ⟨_, rfl⟩
      have lt : lst t = cleanL (swL s) := by rw [ht]; exact lst_mk (cleanL (swL s))
      have ts : t.size ≤ s.size + 1 := by rw [← lst_len, lt]; omega
      have kv := fun w' => valid_spec t w'
      rw [show t.data.toList = cleanL (swL s) from lt] at kv
      obtain ⟨v, hv⟩ : ∃ v, validN (cleanL (swL s)) = v := ⟨_, rfl⟩
      rw [hv] at kv
      have F : Hid (cleanA s = if v = true then (t, true) else (⟨#[]⟩, false)) := by show _ = _; unfold cleanA; rw [hv, ← ht]
      obtain ⟨qs, hqs⟩ : ∃ qs, qs = ps.filter fullB := ⟨_, rfl⟩
      rw [← hqs] at O FU
      have ql : qs.length ≤ 2147483649 := by rw [hqs]; exact Nat.le_trans (List.length_filter_le _ _) (by have := HN.out; omega)
      have J : Lib.join (qs.map (·.data.toList)) [46] = cleanL (swL s) := by
        have e : qs.map (·.data.toList) = qs.map lst := rfl
        rw [e, FU.out, jn_join]; rfl
      have kj : ∀ a c, u4 = .slice a qs.length c → qs.length ≤ c → IsTxts wr a qs → Calls Tryd.prog 39 #[u4, .string ⟨#[46]⟩] wr fun e w' => e = .returned (.string t) ∧ Below wr.heap.size wr w' := by
        rintro a c rfl lc hi
        by_cases q0 : qs = []
        · subst q0
          have e0 : t = ⟨#[]⟩ := lst_inj (by rw [lt, ← J]; rfl)
          have := Tryd.strings_Join_none a c ⟨#[46]⟩ wr
          rw [e0]
          refine this.mono ?_
          rintro e w' ⟨rfl, rfl⟩
          exact ⟨rfl, Below.refl _ _⟩
        · obtain ⟨tb, tof, rfl, TX⟩ := hi.resolve_left q0
          have := Tryd.strings_Join tb tof c qs ⟨#[46]⟩ wr (fun j y hy => by
            obtain ⟨hj, e⟩ := List.getElem?_eq_some_iff.1 hy
            rw [← e]; exact TX.cell j hj) TX.lt (by omega) lc (by
            rw [show (⟨#[46]⟩ : ByteArray).data.toList = [46] from rfl, J, ← lt, lst_len]; omega)
          rw [show (⟨#[46]⟩ : ByteArray).data.toList = [46] from rfl, J, ← ht] at this
          exact this
      obtain ⟨a, c, hu, hi, hc⟩ := own_slice O
      have kj := kj a c hu hc hi
      have U4 := hide hu
      clear O ht lt hv hqs J hi hc
      rw [hu] at kj ⊢
      clear hu
      cases v
      · have F : Hid (cleanA s = (⟨#[]⟩, false)) := by show _ = _; rw [F.out]; rfl
        go_wp2_with fail
        refine Calls.mono kj ?_
        rintro e w5 ⟨rfl, b5⟩
        have B5 := hide (B3.out.trans (b5.mono B3.out.size))
        clear b5 kj
        go_wp2_with (go_at_call 17; refine (kv _).mono ?_; rintro e w' ⟨rfl, rfl⟩)
        go_returns
        exact ⟨by rw [F.out]; rfl, B5.out⟩
      · have F : Hid (cleanA s = (t, true)) := by show _ = _; rw [F.out]; rfl
        go_wp2_with fail
        refine Calls.mono kj ?_
        rintro e w5 ⟨rfl, b5⟩
        have B5 := hide (B3.out.trans (b5.mono B3.out.size))
        clear b5 kj
        go_wp2_with (go_at_call 17; refine (kv _).mono ?_; rintro e w' ⟨rfl, rfl⟩)
        go_returns
        exact ⟨by rw [F.out]; rfl, B5.out⟩
end Go.Proofs.YteahbdhhcfoiiaaDoor
/- NameTidy: the law's walk. -/
namespace Go.Proofs.YteahbdhhcfoiiaaDoor
set_option linter.unusedVariables false
set_option linter.unusedSimpArgs false
open Go.RowKit W
set_option maxRecDepth 100000 in
set_option maxHeartbeats 8000000 in
theorem law_NameTidy (s : ByteArray) (hs : s.size ≤ 2147483648) (W : World) (hsh : W.ShapedOpen Tryd.prog) :
    Calls Tryd.prog 12 #[.string s] W fun e w' => e = .returned (.bool true) ∧ Below W.heap.size W w' := by
  obtain ⟨mx, gm⟩ := gm_at hsh
  have GMH := hide gm
  have kal := fun w (h : GM mx w) => alive_spec mx w h
  have kc := clean_spec s hs mx W gm
  have kv := fun w => valid_spec s w
  rw [show s.data.toList = lst s from rfl] at kv
  obtain ⟨⟨t, ok⟩, ht⟩ : ∃ q, cleanA s = q := ⟨_, rfl⟩
  rw [ht] at kc
  simp only at kc
  clear hsh gm
  cases ok with
  | false =>
    obtain ⟨rfl, hv⟩ := clean_no ht
    rw [hv] at kv
    clear hv ht
    go_enter Tryd.func12, Tryd.ntmps12
    go_wp2_with fail
    refine Calls.mono kc ?_
    rintro e w1 ⟨rfl, b1⟩
    have B1 := hide b1
    clear b1 kc
    go_wp2_with fail
    refine Calls.mono (kv _) ?_
    rintro e w' ⟨rfl, rfl⟩
    go_wp2_with fail
    refine Calls.mono (kal _ (GMH.out.later B1.out)) ?_
    rintro e w2 ⟨rfl, b2⟩
    have B2 := hide (B1.out.trans (b2.mono B1.out.size))
    clear b2
    go_wp2_with fail
    go_returns
    exact ⟨rfl, B2.out⟩
  | true =>
    have tv := clean_valid ht
    have tc := clean_name tv
    have ts := valid_size tv
    have kc2 := fun w g => clean_spec t (by omega) mx w g
    rw [tc] at kc2
    have kv2 := fun w => valid_spec t w
    rw [show t.data.toList = lst t from rfl, tv] at kv2
    simp only at kc2
    obtain ⟨v, hv⟩ : ∃ v, validN (lst s) = v := ⟨_, rfl⟩
    have ST : Hid (v = true → t = s) := hide (fun h => by rw [h] at hv; rw [clean_name hv] at ht; cases ht; rfl)
    rw [hv] at kv
    clear hv ht tv tc
    cases v
    · go_enter Tryd.func12, Tryd.ntmps12
      go_wp2_with fail
      refine Calls.mono kc ?_
      rintro e w1 ⟨rfl, b1⟩
      have B1 := hide b1
      clear b1 kc
      go_wp2_with fail
      refine Calls.mono (kc2 _ (GMH.out.later B1.out)) ?_
      rintro e w2 ⟨rfl, b2⟩
      have B2 := hide (B1.out.trans (b2.mono B1.out.size))
      clear b2 kc2
      go_wp2_with fail
      refine Calls.mono (kv2 _) ?_
      rintro e w' ⟨rfl, rfl⟩
      go_wp2_with fail
      refine Calls.mono (kv _) ?_
      rintro e w' ⟨rfl, rfl⟩
      go_wp2_with fail
      refine Calls.mono (kal _ (GMH.out.later B2.out)) ?_
      rintro e w3 ⟨rfl, b3⟩
      have B3 := hide (B2.out.trans (b3.mono B2.out.size))
      clear b3
      go_wp2_with fail
      go_returns
      exact ⟨rfl, B3.out⟩
    · obtain rfl := ST.out rfl
      go_enter Tryd.func12, Tryd.ntmps12
      go_wp2_with fail
      refine Calls.mono kc ?_
      rintro e w1 ⟨rfl, b1⟩
      have B1 := hide b1
      clear b1 kc
      go_wp2_with fail
      refine Calls.mono (kc2 _ (GMH.out.later B1.out)) ?_
      rintro e w2 ⟨rfl, b2⟩
      have B2 := hide (B1.out.trans (b2.mono B1.out.size))
      clear b2 kc2
      go_wp2_with fail
      refine Calls.mono (kv2 _) ?_
      rintro e w' ⟨rfl, rfl⟩
      go_wp2_with fail
      refine Calls.mono (kv2 _) ?_
      rintro e w' ⟨rfl, rfl⟩
      go_wp2_with fail
      refine Calls.mono (kal _ (GMH.out.later B2.out)) ?_
      rintro e w3 ⟨rfl, b3⟩
      have B3 := hide (B2.out.trans (b3.mono B2.out.size))
      clear b3
      go_wp2_with fail
      go_returns
      exact ⟨rfl, B3.out⟩
end Go.Proofs.YteahbdhhcfoiiaaDoor
/- NameCleans: the law's walk. -/
namespace Go.Proofs.YteahbdhhcfoiiaaDoor
set_option linter.unusedVariables false
set_option linter.unusedSimpArgs false
open Go.RowKit W
set_option maxRecDepth 100000 in
set_option maxHeartbeats 8000000 in
theorem law_NameCleans (s : ByteArray) (hs : s.size ≤ 2147483648) (W : World) (hsh : W.ShapedOpen Tryd.prog) :
    Calls Tryd.prog 4 #[.string s] W fun e w' => e = .returned (.bool true) ∧ Below W.heap.size W w' := by
  obtain ⟨mx, gm⟩ := gm_at hsh
  have GMH := hide gm
  have kal := fun w (h : GM mx w) => alive_spec mx w h
  have kc := clean_spec s hs mx W gm
  have kr := fun w => rclean_spec s hs w
  obtain ⟨⟨t, ok⟩, ht⟩ : ∃ q, cleanA s = q := ⟨_, rfl⟩
  rw [ht] at kc kr
  simp only at kc kr
  clear hsh gm ht
  cases ok
  all_goals
    go_enter Tryd.func4, Tryd.ntmps4
    go_wp2_with fail
    refine Calls.mono kc ?_
    rintro e w1 ⟨rfl, b1⟩
    have B1 := hide b1
    clear b1 kc
    go_wp2_with fail
    refine Calls.mono (kr _) ?_
    rintro e w2 ⟨rfl, b2⟩
    have B2 := hide (B1.out.trans (b2.mono B1.out.size))
    clear b2 kr
    go_wp2_with fail
    refine Calls.mono (kal _ (GMH.out.later B2.out)) ?_
    rintro e w3 ⟨rfl, b3⟩
    have B3 := hide (B2.out.trans (b3.mono B2.out.size))
    clear b3
    go_wp2_with fail
    go_returns
    exact ⟨rfl, B3.out⟩
end Go.Proofs.YteahbdhhcfoiiaaDoor
