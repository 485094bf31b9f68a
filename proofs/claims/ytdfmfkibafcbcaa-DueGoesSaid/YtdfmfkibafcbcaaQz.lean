/- due: the queue's calls. -/
import Derived.Test.YtdfmfkibafcbcaaQh
import Derived.LaidEqlPtr
namespace Go.Proofs.Ytdfmfkibafcbcaa
set_option linter.unusedVariables false
set_option linter.unusedSimpArgs false
open Go.RowKit W Go.Maps
/-- A queue that New made. -/
structure QA (B : Nat) (w : World) (qb kb mb : Nat) (lim : Nat) (v : Value) (r : List En) : Prop where
  q : Bw w qb 57 #[.pointer (some ⟨qb, 0, none⟩), .int .i64 (lim : Int), .pointer (some ⟨kb, 0, none⟩)]
  hq : ∃ l, HQ B w kb mb v l ∧ l.Perm r
  srt : Sorted ltE r
  keys : Keys r
  le : r.length ≤ lim
  mx : lim ≤ 65536
  bq : B ≤ qb
theorem QA.chg {B : Nat} {S : Nat → Prop} {w w' : World} {qb kb mb lim : Nat} {v : Value} {r : List En} (h : QA B w qb kb mb lim v r) (c : Chg S w w') (nq : ¬ S qb) (n : ∀ k, kS3 kb mb v k → ¬ S k) : QA B w' qb kb mb lim v r := by
  obtain ⟨l, hl, p⟩ := h.hq
  exact ⟨h.q.chg c nq, ⟨l, ⟨hl.kq.chg c n, hl.heap⟩, p⟩, h.srt, h.keys, h.le, h.mx, h.bq⟩
theorem QA.later {B : Nat} {w w' : World} {qb kb mb lim : Nat} {v : Value} {r : List En} (h : QA B w qb kb mb lim v r) (c : Below w.heap.size w w') : QA B w' qb kb mb lim v r := h.chg (S := fun _ => False) (Chg.of_below c) (fun q => q) (fun _ _ q => q)
theorem QA.nq {B : Nat} {w : World} {qb kb mb lim : Nat} {v : Value} {r : List En} (h : QA B w qb kb mb lim v r) : ¬ kS3 kb mb v qb := by
  obtain ⟨l, hl, p⟩ := h.hq
  rintro (q | q | q)
  · exact h.q.ne hl.kq.km.k (by decide) q
  · exact h.q.ne_map hl.kq.km.map q
  · exact h.q.ne_row hl.kq.km.row (by decide) q
theorem QA.old {B : Nat} {w : World} {qb kb mb lim : Nat} {v : Value} {r : List En} (h : QA B w qb kb mb lim v r) : ∀ k, kS3 kb mb v k → B ≤ k ∧ k < w.heap.size := by
  obtain ⟨l, hl, p⟩ := h.hq
  exact hl.kq.km.old
theorem infoQ : (Try.prog.info? 57).isSome = true := by kernel_rfl
theorem eq_ptrQ (b : Nat) (w : World) : (binOp .eql 23 (.pointer (some ⟨b, 0, none⟩)) (.pointer (some ⟨b, 0, none⟩))).run Try.prog w = .ok (.bool true) w := by
  obtain ⟨j, hj⟩ := Option.isSome_iff_exists.1 infoQ
  exact run_eql_ptr_same w ⟨b, 0, none⟩ Try.underlying23 hj
set_option maxRecDepth 100000 in
theorem qmade {B : Nat} {w : World} {qb kb mb lim : Nat} {v : Value} {r : List En} (h : QA B w qb kb mb lim v r) : CalcN 24 #[.pointer (some ⟨qb, 0, none⟩)] w (.bool true) := by
  have c0 := h.q.cell 0 _ rfl
  have q := eq_ptrQ qb
  clear h
  go_enter Try.func24, Try.ntmps24
  go_wp2
  go_returns
  exact ⟨rfl, rfl⟩
set_option maxRecDepth 100000 in
theorem qlen {B : Nat} {w : World} {qb kb mb lim : Nat} {v : Value} {r : List En} (h : QA B w qb kb mb lim v r) : CalcN 10 #[.pointer (some ⟨qb, 0, none⟩)] w (.int .i64 (r.length : Int)) := by
  have km := qmade h
  obtain ⟨l, hl, p⟩ := h.hq
  have kl := klen_spec hl.kq.km
  rw [p.length_eq] at kl
  have c2 := h.q.cell 2 _ rfl
  clear h hl p
  go_enter Try.func10, Try.ntmps10
  go_wp2_with (first
    | (go_at_call 24; refine km.mono ?_; rintro e w' ⟨rfl, rfl⟩)
    | (go_at_call 25; refine kl.mono ?_; rintro e w' ⟨rfl, rfl⟩))
  go_returns
  exact ⟨rfl, rfl⟩
theorem heapE_nil : HeapE [] := fun k _ hk => by simp at hk
/-- New. -/
def QNew (w : World) (lim : Nat) (e : Ending) (w' : World) : Prop := ∃ qb kb mb, e = .returned (.tuple #[.pointer (some ⟨qb, 0, none⟩), .int .i64 0]) ∧ QA w.heap.size w' qb kb mb lim (.slice none 0 0) [] ∧ Below w.heap.size w w'
theorem QNew.mk {w w' : World} {lim : Nat} (h : lim ≤ 65536) (hw : w' = ((w.alloc (.map #[] 0)).alloc (.cells #[.slice none 0 0, .map (some w.heap.size)] 55)).alloc (.cells #[.pointer (some ⟨w.heap.size + 1 + 1, 0, none⟩), .int .i64 (lim : Int), .pointer (some ⟨w.heap.size + 1, 0, none⟩)] 57)) :
    QNew w lim (.returned (.tuple #[.pointer (some ⟨w.heap.size + 1 + 1, 0, none⟩), .int .i64 0])) w' := by
  have m0 := MapG.new (E := elI) w
  obtain ⟨w1, h1⟩ : ∃ w1, w1 = w.alloc (.map #[] 0) := ⟨_, rfl⟩
  rw [← h1] at m0 hw
  have s1 : w1.heap.size = w.heap.size + 1 := by rw [h1]; simp
  obtain ⟨w2, h2⟩ : ∃ w2, w2 = w1.alloc (.cells #[.slice none 0 0, .map (some w.heap.size)] 55) := ⟨_, rfl⟩
  have k0 := Bw.new w1 55 #[.slice none 0 0, .map (some w.heap.size)]
  rw [← h2, s1] at k0
  rw [← h2] at hw
  have s2 : w2.heap.size = w.heap.size + 1 + 1 := by rw [h2]; simp [s1]
  have q0 := Bw.new w2 57 #[.pointer (some ⟨w.heap.size + 1 + 1, 0, none⟩), .int .i64 (lim : Int), .pointer (some ⟨w.heap.size + 1, 0, none⟩)]
  rw [← hw, s2] at q0
  have C1 : Chg (fun _ => False) w2 w' := by rw [hw]; exact (Chg.refl _ _).alloc _
  have C0 : Chg (fun _ => False) w1 w2 := by rw [h2]; exact (Chg.refl _ _).alloc _
  have Cw : Chg (fun _ => False) w w1 := by rw [h1]; exact (Chg.refl _ _).alloc _
  refine ⟨_, w.heap.size + 1, w.heap.size, rfl, ⟨q0, ⟨[], ⟨⟨⟨k0.chg C1 (fun q => q), World.ownsRow_nil _ _ _ _, ((m0.chg C0 (fun q => q)).chg C1 (fun q => q)).ext (fun k => rfl), by omega, Nat.le_refl _, by simp⟩, List.Pairwise.nil, by simp⟩, heapE_nil⟩, List.Perm.refl _⟩, List.Pairwise.nil, List.Pairwise.nil, by simp, h, by omega⟩, ?_⟩
  exact ((Cw.trans C0 (fun _ _ q => q)).trans C1 (fun _ _ q => q)).below (fun _ q => q.elim) (Nat.le_refl _)
set_option maxRecDepth 100000 in
set_option maxHeartbeats 4000000 in
theorem qnew_ok (lim : Nat) (h1 : 1 ≤ lim) (h2 : lim ≤ 65536) (w : World) : Calls Try.prog 6 #[.int .i64 (lim : Int)] w (QNew w lim) := by
  have hmm := @run_makeMap Try.prog
  go_enter Try.func6, Try.ntmps6
  go_wp2_with fail
  go_returns
  exact QNew.mk h2 rfl
set_option maxRecDepth 100000 in
set_option maxHeartbeats 4000000 in
theorem qnew_bad (lim : Int) (h : ¬ (1 ≤ lim ∧ lim ≤ 65536)) (w : World) : CalcN 6 #[.int .i64 lim] w (.tuple #[.pointer none, .int .i64 1]) := by
  by_cases h1 : lim < 1
  · go_enter Try.func6, Try.ntmps6
    go_wp2_with fail
    go_returns
    exact ⟨rfl, rfl⟩
  · have h2 : 65536 < lim := by omega
    go_enter Try.func6, Try.ntmps6
    go_wp2_with fail
    go_returns
    exact ⟨rfl, rfl⟩
theorem set_self {α : Type} : ∀ {l : List α} {i : Nat} {x : α}, l[i]? = some x → l.set i x = l
  | [], i, x, h => by simp at h
  | a :: l, 0, x, h => by simp at h; simp [h]
  | a :: l, i + 1, x, h => by simp at h ⊢; exact set_self h
theorem KM.put1 {B : Nat} {w : World} {kb mb g n c : Nat} {l : List En} (h : KQ B w kb mb (.slice (some ⟨g, 0, none⟩) n c) l) (hn : n = l.length) {i : Nat} (hi : i < l.length) (a : Int) :
    KQ B (w.setCell ⟨g, i * 2 + 1, none⟩ (.int .i64 a)) kb mb (.slice (some ⟨g, 0, none⟩) n c) (l.set i (l[i].1, a)) ∧ Chg (kS3 kb mb (.slice (some ⟨g, 0, none⟩) n c)) w (w.setCell ⟨g, i * 2 + 1, none⟩ (.int .i64 a)) := by
  subst hn
  have C : Chg (· = g) w (w.setCell ⟨g, i * 2 + 1, none⟩ (.int .i64 a)) := Chg.set _ rfl
  have n1 : ¬ kb = g := fun q => h.km.nrk (by rw [← q]; rfl)
  have n2 : ¬ mb = g := fun q => h.km.nrm (by rw [← q]; rfl)
  have r := row_put h.km.row (i * 2 + 1) (by omega) (.int .i64 a)
  have e : (dues l).set (i * 2 + 1) (.int .i64 a) = dues (l.set i (l[i].1, a)) := by
    rw [dues_set]
    congr 1
    have k := dues_key hi
    rw [set_self k]
  rw [e] at r
  have em : (l.set i (l[i].1, a)).map (·.1) = l.map (·.1) := by
    rw [List.map_set]
    exact set_self (by simp [List.getElem?_eq_getElem hi])
  have ei : idxI (l.set i (l[i].1, a)) = idxI l := by
    funext key
    show (idxK _ key).map _ = (idxK l key).map _
    have f : ∀ m : List En, idxK m key = (m.map (·.1)).findIdx? (fun k => decide (k = key)) := fun m => by unfold idxK; rw [List.findIdx?_map]; rfl
    rw [f, f, em]
  refine ⟨⟨⟨h.km.k.chg C n1, by rw [List.length_set]; exact r, by rw [List.length_set, ei]; exact h.km.map.chg C n2, h.km.bk, h.km.bm, fun e he => ?_⟩, ?_, by rw [List.length_set]; exact h.len⟩, C.mono (fun k (e : k = g) => .inr (.inr (by rw [e]; rfl)))⟩
  · rcases List.mem_or_eq_of_mem_set he with q | q
    · exact h.km.sz e q
    · subst q; exact h.km.sz l[i] (List.getElem_mem hi)
  · have k := h.keys
    unfold Keys at k ⊢
    rw [← List.pairwise_map (f := fun e : En => e.1) (R := fun a b => a ≠ b)] at k ⊢
    rw [em]
    exact k
theorem set_down {l : List En} (h : HeapE l) {i : Nat} (hi : i < l.length) (x : En) : DownInv ltE (fE (l.set i x)) (l.set i x).length i i := by
  refine HeapF.fix ordE h (by simp) hi fun k hk ki => ?_
  rw [List.length_set] at hk
  rw [fE_get (by simpa using hk), fE_get hk, List.getElem_set_ne (Ne.symm ki)]
theorem lookI {w : World} {mb n : Nat} {M : ByteArray → Option Int} (h : MapG elI w mb n M) (key : ByteArray) (hs : key.size ≤ maxLen) :
    (Instr.lookup 53 (.map (some mb)) (.string key) true).run Try.prog w = .ok (.tuple #[.int .i64 ((M key).getD 0), .bool (M key).isSome]) w := h.look unMap (z := 0) (zeroI w) key hs
def SetP (B : Nat) (w : World) (qb kb mb lim : Nat) (v : Value) (r : List En) (c : Int) (e : Ending) (w' : World) : Prop :=
  ∃ v', e = .returned (.int .i64 c) ∧ QA B w' qb kb mb lim v' r ∧ Chg (kS3 kb mb v) w w' ∧ Mvd w v v'
set_option maxRecDepth 100000 in
set_option maxHeartbeats 8000000 in
theorem qset_old {B : Nat} {w : World} {qb kb mb lim : Nat} {v : Value} {r : List En} (h : QA B w qb kb mb lim v r) (key : ByteArray) (hs : key.size ≤ maxLen) (a : Int) (hk : hasK r key = true) :
    Calls Try.prog 13 #[.pointer (some ⟨qb, 0, none⟩), .string key, .int .i64 a] w (SetP B w qb kb mb lim v (setR r key a) 0) := by
  have km := qmade h
  have c2 := h.q.cell 2 _ rfl
  have lq := h.q.lt
  have nq := h.nq
  obtain ⟨l, hl, p⟩ := h.hq
  have HH := hide h
  have hl' := hl.kq
  have hz := lookI hl.kq.km.map key hs
  have d1 := hl.kq.km.k.cell 1 _ rfl
  have d0 := hl.kq.km.k.cell 0 _ rfl
  have lk := hl.kq.km.k.lt
  have hkl : hasK l key = true := by rw [hasK_perm p]; exact hk
  obtain ⟨i, hi0⟩ : ∃ i, idxK l key = some i := by
    cases q : idxK l key with
    | some i => exact ⟨i, rfl⟩
    | none => rw [idxK_none.1 q] at hkl; cases hkl
  obtain ⟨hi, hik⟩ := (idxK_some hl.kq.keys).1 hi0
  have e1 : idxI l key = some (i : Int) := by show (idxK l key).map _ = _; rw [hi0]; rfl
  rw [e1] at hz
  simp only [Option.getD_some, Option.isSome_some] at hz
  obtain ⟨n, hn⟩ : ∃ n, n = l.length := ⟨_, rfl⟩
  obtain ⟨g, c, rfl, nc, gl, gB, fz⟩ := hl.kq.km.form n hn (by omega)
  obtain ⟨x0, x1⟩ := hl.kq.km.key hn hi
  have fx := fz (i * 2 + 1)
  have P1 := hide (KM.put1 hl.kq hn hi a)
  have SD := hide (set_down hl.heap hi (l[i].1, a))
  have SO := hide (set_old p hl.kq.keys hi a)
  have ll := hl.kq.len
  rw [hik] at P1 SD SO
  have HI := hide hi
  have HN := hide hn
  have HK := hide hk
  rw [← hn] at hi ll
  clear h hl hl' hkl hi0 hik e1 hk x0 fz p hn
  go_enter Try.func13, Try.ntmps13
  have kf := hfix_spec P1.out.1 (by rw [List.length_set]; exact HI.out) SD.out
  go_wp2_with (first
    | (go_at_call 24; refine km.mono ?_; rintro e w' ⟨rfl, rfl⟩)
    | (go_at_call 26; refine kf.mono ?_; rintro e w2 ⟨rfl, l2, q2, p2, c2'⟩))
  go_returns
  have C := P1.out.2.trans c2' (fun _ _ q => q)
  have rl := setR_len HH.out.keys key a
  rw [HK.out, if_pos rfl] at rl
  exact ⟨_, rfl, ⟨HH.out.q.chg C nq, ⟨l2, q2, p2.trans SO.out⟩, setR_sorted HH.out.srt key a, setR_keys HH.out.keys key a, by rw [rl]; exact HH.out.le, HH.out.mx, HH.out.bq⟩, C, Mvd.refl _ _⟩
set_option maxRecDepth 100000 in
set_option maxHeartbeats 8000000 in
theorem qset_new {B : Nat} {w : World} {qb kb mb lim : Nat} {v : Value} {r : List En} (h : QA B w qb kb mb lim v r) (hB : B ≤ w.heap.size) (key : ByteArray) (hs : key.size ≤ maxLen) (a : Int) (hk : hasK r key = false) :
    Calls Try.prog 13 #[.pointer (some ⟨qb, 0, none⟩), .string key, .int .i64 a] w (SetP B w qb kb mb lim v (if r.length < lim then setR r key a else r) (if r.length < lim then 0 else 70)) := by
  have km := qmade h
  have c2 := h.q.cell 2 _ rfl
  have c1' := h.q.cell 1 _ rfl
  have lq := h.q.lt
  have nq := h.nq
  have HH := hide h
  have HK := hide hk
  obtain ⟨l, hl, p⟩ := h.hq
  have hz := lookI hl.kq.km.map key hs
  have d1 := hl.kq.km.k.cell 1 _ rfl
  have lk := hl.kq.km.k.lt
  have hkl : hasK l key = false := by rw [hasK_perm p]; exact hk
  have e1 : idxI l key = none := by show (idxK l key).map _ = _; rw [idxK_none.2 hkl]; rfl
  rw [e1] at hz
  simp only [Option.getD_none, Option.isSome_none] at hz
  have mx := h.mx
  have le := h.le
  obtain ⟨m, hm⟩ : ∃ m, m = r.length := ⟨_, rfl⟩
  have HM := hide hm
  have HL := hide hl
  have HP := hide p
  have HKL := hide hkl
  rw [← hm] at le ⊢
  by_cases hlt : m < lim
  · rw [if_pos hlt, if_pos hlt]
    have d : decide ((lim : Int) ≤ (m : Int)) = false := by rw [decide_eq_false_iff_not]; omega
    have dn : decide (lim ≤ m) = false := by rw [decide_eq_false_iff_not]; omega
    clear h hl p hkl hk hm e1
    go_enter Try.func13, Try.ntmps13
    go_wp2_with (go_at_call 24; refine km.mono ?_; rintro e w' ⟨rfl, rfl⟩)
    have kl : ∀ W, Below w.heap.size w W → CalcN 10 #[.pointer (some ⟨qb, 0, none⟩)] W (.int .i64 (m : Int)) := by intro W b; rw [HM.out]; exact qlen (HH.out.later b)
    go_region_with (go_at_call 10; (with_reducible refine Calls.mono (kl _ (by first | exact Below.refl _ _ | exact (Below.refl _ _).drew | exact below_drewN (Below.refl _ _) _)) ?_); rintro e w' ⟨rfl, rfl⟩)
    all_goals
      have kp : ∀ W, Below w.heap.size w W → _ := fun W (b : Below w.heap.size w W) => hpush_spec ⟨HL.out.kq.later b, HL.out.heap⟩ (key, a) HKL.out hs (by have := HP.out.length_eq; have := HM.out; omega) (Nat.le_trans hB b.size)
      go_wp2_with (go_at_call 27; (with_reducible refine Calls.mono (kp _ (by first | exact Below.refl _ _ | exact (Below.refl _ _).drew | exact below_drewN (Below.refl _ _) _)) ?_); rintro e w2 ⟨rfl, v2, l2, q2, p2, c2', m2⟩)
      go_returns
      have C : Chg (kS3 kb mb v) w w2 := (Chg.of_below (by first | exact Below.refl _ _ | exact (Below.refl _ _).drew | exact below_drewN (Below.refl _ _) _)).trans c2' (fun _ _ q => q)
      have rl := setR_len HH.out.keys key a
      rw [HK.out, if_neg (by decide), ← HM.out] at rl
      exact ⟨v2, rfl, ⟨HH.out.q.chg C nq, ⟨l2, q2, p2.trans (set_new HP.out HK.out a)⟩, setR_sorted HH.out.srt key a, setR_keys HH.out.keys key a, by rw [rl]; omega, HH.out.mx, HH.out.bq⟩, C, m2⟩
  · rw [if_neg hlt, if_neg hlt]
    have d : decide ((lim : Int) ≤ (m : Int)) = true := by rw [decide_eq_true_eq]; omega
    have dn : decide (lim ≤ m) = true := by rw [decide_eq_true_eq]; omega
    clear h hl p hkl hk hm e1
    go_enter Try.func13, Try.ntmps13
    go_wp2_with (go_at_call 24; refine km.mono ?_; rintro e w' ⟨rfl, rfl⟩)
    have kl : ∀ W, Below w.heap.size w W → CalcN 10 #[.pointer (some ⟨qb, 0, none⟩)] W (.int .i64 (m : Int)) := by intro W b; rw [HM.out]; exact qlen (HH.out.later b)
    go_region_with (go_at_call 10; (with_reducible refine Calls.mono (kl _ (by first | exact Below.refl _ _ | exact (Below.refl _ _).drew | exact below_drewN (Below.refl _ _) _)) ?_); rintro e w' ⟨rfl, rfl⟩)
    all_goals
      go_wp2_with fail
      go_returns
      refine ⟨v, rfl, HH.out.later ?_, Chg.of_below ?_, Mvd.refl _ _⟩
      all_goals first | exact Below.refl _ _ | exact (Below.refl _ _).drew | exact below_drewN (Below.refl _ _) _
/-- Set, whatever is there. -/
theorem qset_spec {B : Nat} {w : World} {qb kb mb lim : Nat} {v : Value} {r : List En} (h : QA B w qb kb mb lim v r) (hB : B ≤ w.heap.size) (key : ByteArray) (hs : key.size ≤ maxLen) (a : Int) :
    Calls Try.prog 13 #[.pointer (some ⟨qb, 0, none⟩), .string key, .int .i64 a] w (SetP B w qb kb mb lim v (if hasK r key = true ∨ r.length < lim then setR r key a else r) (if hasK r key = true ∨ r.length < lim then 0 else 70)) := by
  by_cases e : hasK r key = true
  · rw [if_pos (.inl e), if_pos (.inl e)]; exact qset_old h key hs a e
  · have e : hasK r key = false := by simpa using e
    have k := qset_new h hB key hs a e
    by_cases q : r.length < lim
    · rw [if_pos (.inr q), if_pos (.inr q)]; rw [if_pos q, if_pos q] at k; exact k
    · have n : ¬ (hasK r key = true ∨ r.length < lim) := by rw [e]; simpa using q
      rw [if_neg n, if_neg n]; rw [if_neg q, if_neg q] at k; exact k
end Go.Proofs.Ytdfmfkibafcbcaa
