/- due: Take. -/
import Derived.Test.YtdfmfkibafcbcaaQy
namespace Go.Proofs.Ytdfmfkibafcbcaa
set_option linter.unusedVariables false
set_option linter.unusedSimpArgs false
open Go.RowKit W Go.Maps
def lenOf : Value → Nat
  | .slice _ n _ => n
  | _ => 0
def tkR (r : List En) (now : Int) : List En := r.takeWhile fun e => decide (e.2 ≤ now)
def drR (r : List En) (now : Int) : List En := r.dropWhile fun e => decide (e.2 ≤ now)
/-- The first one is off. -/
theorem QA.pop {B : Nat} {w w' : World} {qb kb mb lim : Nat} {v : Value} {l r : List En} {x : En} (h : QA B w qb kb mb lim v (x :: r)) (hq : HQ B w kb mb v l) (hp : l.Perm (x :: r)) (p : PopP B w kb mb v l 0 w') :
    ∃ v', QA B w' qb kb mb lim v' r ∧ Chg (kS3 kb mb v) w w' ∧ Mvd w v v' := by
  obtain ⟨v', l', q, pp, c, m⟩ := p
  have ll := hp.length_eq
  rw [List.length_cons] at ll
  have top : l[0]'(by omega) = x := by
    refine sorted_head ordE h.srt (hp.subset (List.getElem_mem _)) fun c hc => ?_
    obtain ⟨k, hk, rfl⟩ := List.getElem_of_mem (hp.symm.subset hc)
    have := hq.heap.top ordE k hk
    rw [fE_get hk, fE_get (by omega)] at this
    exact this
  have pr : (l.eraseIdx 0).Perm r := by
    have := (erase_cons_perm (l := l) (i := 0) (by omega)).trans hp
    rw [top] at this
    exact this.cons_inv
  have le := h.le
  rw [List.length_cons] at le
  exact ⟨v', ⟨h.q.chg c h.nq, ⟨l', q, pp.trans pr⟩, (List.pairwise_cons.1 h.srt).2, (List.pairwise_cons.1 h.keys).2, by omega, h.mx, h.bq⟩, c, m⟩
/-- While Take goes on. -/
structure TkS (B : Nat) (w : World) (qb kb mb lim : Nat) (v : Value) (r : List En) (now : Int) (wr : World) (s : Value) (t rest : List En) (v' : Value) : Prop where
  eq : t ++ rest = r
  all : ∀ e ∈ t, e.2 ≤ now
  row : wr.ownsRow w.heap.size 43 2 s t.length (dues t)
  qa : QA B wr qb kb mb lim v' rest
  chg : Chg (kS3 kb mb v) w wr
  mvd : Mvd w v v'
  apt : Apt s v'
def TakeP (B : Nat) (w : World) (qb kb mb lim : Nat) (v : Value) (r : List En) (now : Int) (e : Ending) (w' : World) : Prop :=
  ∃ v' s, e = .returned s ∧ w'.ownsRow w.heap.size 43 2 s (tkR r now).length (dues (tkR r now)) ∧ QA B w' qb kb mb lim v' (drR r now) ∧ Chg (kS3 kb mb v) w w' ∧ Mvd w v v' ∧ Apt s v'
theorem TkS.fin {B : Nat} {w wr w' : World} {qb kb mb lim : Nat} {v s v' : Value} {r t rest : List En} {now : Int} (h : TkS B w qb kb mb lim v r now wr s t rest v') (b : Below wr.heap.size wr w') (he : ∀ x y, rest = x :: y → now < x.2) : TakeP B w qb kb mb lim v r now (.returned s) w' := by
  have e1 : tkR r now = t := by
    rw [← h.eq, tkR, List.takeWhile_append_of_pos (fun a ha => by simpa using h.all a ha)]
    cases rest with
    | nil => simp
    | cons x y => have := he x y rfl; rw [List.takeWhile_cons_of_neg (by simpa using this)]; simp
  have e2 : drR r now = rest := by
    rw [← h.eq, drR, List.dropWhile_append_of_pos (fun a ha => by simpa using h.all a ha)]
    cases rest with
    | nil => rfl
    | cons x y => have := he x y rfl; rw [List.dropWhile_cons_of_neg (by simpa using this)]
  rw [TakeP, e1, e2]
  exact ⟨v', s, rfl, chg_row h.row (Chg.of_below (S := fun _ => False) b) (fun _ _ q => q), h.qa.later b, h.chg.trans (Chg.of_below (S := kS3 kb mb v) b) (fun _ _ q => q), h.mvd, h.apt⟩
theorem TkS.row2 {B : Nat} {w wr w2 : World} {qb kb mb lim : Nat} {v s v' : Value} {r t rest : List En} {now : Int} (h : TkS B w qb kb mb lim v r now wr s t rest v') (c2 : Chg (kS3 kb mb v') wr w2) : w2.ownsRow w.heap.size 43 2 s t.length (dues t) :=
  chg_row h.row c2 (fun k e q => by
    obtain ⟨l0, hl0, _⟩ := h.qa.hq
    rcases q with q | q | q
    · subst q; exact hl0.kq.km.k.ne_row h.row (by decide) e
    · subst q; exact row_ne_map h.row hl0.kq.km.map e
    · exact h.apt k e q)
/-- One more. -/
theorem TkS.more {B : Nat} {w wr w1 w2 w3 : World} {qb kb mb lim : Nat} {v s v' v2 s' : Value} {r t rest : List En} {x : En} {now : Int} {o : Obj} (h : TkS B w qb kb mb lim v r now wr s t (x :: rest) v') (hx : x.2 ≤ now)
    (q2 : QA B w2 qb kb mb lim v2 rest) (c2 : Chg (kS3 kb mb v') wr w2) (m2 : Mvd wr v' v2) (hB : w.heap.size ≤ wr.heap.size)
    (hg : w1.grownBy w3 s.ownBlock) (hw1 : w1.heap = w2.heap.push o) (ho : w1.os = w2.os) (ht : w1.tape = w2.tape) (hu : w1.output = w2.output) (hr : w3.ownsRow w.heap.size 43 2 s' (t.length + 1) (dues t ++ [.string x.1, .int .i64 x.2])) (hs : s'.ownBlock = s.ownBlock ∨ s'.ownBlock = some w1.heap.size) :
    TkS B w qb kb mb lim v r now w3 s' (t ++ [x]) rest v2 := by
  have A2 : Apt s v2 := fun k e q => by
    have lo := own_old h.row e
    rcases m2 k q with z | z
    · exact h.apt k e z
    · omega
  have C3 : Chg (fun k => s.ownBlock = some k) w2 w3 := Chg.grown2 hg hw1 ho ht hu (fun _ e => e)
  obtain ⟨l2, hl2, p2⟩ := q2.hq
  have row2 : w2.ownsRow w.heap.size 43 2 s t.length (dues t) := chg_row h.row c2 (fun k e q => by
    obtain ⟨l0, hl0, _⟩ := h.qa.hq
    rcases q with q | q | q
    · subst q; exact hl0.kq.km.k.ne_row h.row (by decide) e
    · subst q; exact row_ne_map h.row hl0.kq.km.map e
    · exact h.apt k e q)
  have nk : ∀ k, kS3 kb mb v2 k → ¬ s.ownBlock = some k := fun k q e => by
    rcases q with q | q | q
    · subst q; exact hl2.kq.km.k.ne_row row2 (by decide) e
    · subst q; exact row_ne_map row2 hl2.kq.km.map e
    · exact A2 k e q
  have sz := c2.size
  have sz1 : w1.heap.size = w2.heap.size + 1 := by rw [hw1]; simp
  refine ⟨by rw [← h.eq]; simp, fun e he => ?_, by rw [dues_app, List.length_append]; exact hr, q2.chg C3 (fun q => q2.q.ne_row row2 (by decide) q) nk, ?_, fun k e => ?_, fun k e q => ?_⟩
  · rcases List.mem_append.1 he with z | z
    · exact h.all e z
    · rw [List.mem_singleton] at z; subst z; exact hx
  · refine (h.chg.mvd c2 h.mvd).trans C3 (fun j hj e => ?_)
    have := (own_old h.row e).1
    omega
  · rcases m2 k e with z | z
    · exact h.mvd k z
    · right; omega
  · rcases hs with z | z
    · rw [z] at e; exact A2 k e q
    · rw [z] at e
      injection e with e
      have := (q2.old k (.inr (.inr q))).2
      omega
set_option maxRecDepth 100000 in
set_option maxHeartbeats 8000000 in
theorem qtake_spec {B : Nat} {w : World} {qb kb mb lim : Nat} {v : Value} {r : List En} (h : QA B w qb kb mb lim v r) (hB : B ≤ w.heap.size) (now : Int) :
    Calls Try.prog 18 #[.pointer (some ⟨qb, 0, none⟩), .int .i64 now] w (TakeP B w qb kb mb lim v r now) := by
  obtain ⟨i0, hi0⟩ : ∃ i0, Hid (Try.prog.info? 43 = some i0 ∧ i0.zero = some (.agg #[.string ByteArray.empty, .int .i64 0]) ∧ i0.size = 2 ∧ i0.bytes = 24) := by
    obtain ⟨i0, h1, h2, h3, h4⟩ := info_parts info_due
    exact ⟨i0, h1, h2, h3, h4⟩
  have T0 : Hid (TkS B w qb kb mb lim v r now w (.slice none 0 0) [] r v) := ⟨rfl, by simp, World.ownsRow_nil _ _ _ _, h, Chg.refl _ _, Mvd.refl _ _, Apt.nil _⟩
  have rl : r.length ≤ 65536 := Nat.le_trans h.le h.mx
  clear h
  go_enter Try.func18, Try.ntmps18
  go_wp2_with fail
  go_loopw [5] (fun s5 wr => ∃ (t rest : List En) (v' : Value) (A : Option Addr) (c : Nat), s5 = .slice A t.length c ∧ t.length + rest.length ≤ r.length ∧ Hid (TkS B w qb kb mb lim v r now wr (.slice A t.length c) t rest v')) (fun s5 _ => r.length - lenOf s5)
  case atStart => exact ⟨[], r, v, none, 0, rfl, by simp, T0⟩
  case round =>
    obtain ⟨t, rest, v', A, c, rfl, hl, T⟩ := hrel
    have kn := qnext_spec T.out.qa
    obtain ⟨m, hm⟩ : ∃ m, m = t.length := ⟨_, rfl⟩
    have HM := hide hm
    rw [← hm] at hl T ⊢
    clear hm
    cases rest with
    | nil =>
      simp only [nxtV] at kn
      go_wp2_with (go_at_call 20; refine kn.mono ?_; rintro e w1 ⟨rfl, b1⟩; have z1 := b1.size)
      go_returns
      exact T.out.fin (by go_grown) (fun x y e => by cases e)
    | cons x rest =>
      simp only [nxtV] at kn
      rw [List.length_cons] at hl
      by_cases hx : x.2 ≤ now
      · have d1 : decide (now < x.2) = false := by rw [decide_eq_false_iff_not]; omega
        have ll := T.out.qa.q.lt
        have lB := T.out.chg.size
        have QA' := hide T.out.qa
        obtain ⟨l, hlq, p⟩ := T.out.qa.hq
        have pl := p.length_eq
        rw [List.length_cons] at pl
        have HL := hide hlq
        have HP := hide p
        have hq2 := fun (W : World) (b : Below wr.heap.size wr W) => (QA'.out.later b).q.cell 2 _ rfl
        have kp := fun (W : World) (b : Below wr.heap.size wr W) => hpop_spec (n := rest.length) ⟨HL.out.kq.later b, HL.out.heap⟩ (by omega) (Nat.le_trans (Nat.le_trans hB lB) b.size)
        have lo := QA'.out.old
        clear hlq p
        go_wp2_with (first
          | (go_at_call 20; refine kn.mono ?_; rintro e w1 ⟨rfl, b1⟩; have c2 := hq2 w1 b1; have z1 := b1.size; have l1 : qb < w1.heap.size := Nat.lt_of_lt_of_le ll z1)
          | (go_at_call 36; (with_reducible refine Calls.mono (kp _ (by go_grown)) ?_); rintro e w2 ⟨⟨r2, rfl⟩, pp⟩; have b2 : Below wr.heap.size wr (w1.alloc (.cells #[.string x.1, .int .i64 x.2] 43)) := (b1.alloc z1 _); obtain ⟨v2, q2, c3, m2⟩ := (QA'.out.later b2).pop ⟨HL.out.kq.later b2, HL.out.heap⟩ HP.out pp; have nl : ¬ kS3 kb mb v' w1.heap.size := (fun q => by have := (lo _ q).2; omega); have y0 : w2.cell? ⟨w1.heap.size, 0, none⟩ = some (.string x.1) := ((c3.cell (by simp) nl).trans (by simp [go_sem])); have y1 : w2.cell? ⟨w1.heap.size, 1, none⟩ = some (.int .i64 x.2) := ((c3.cell (by simp) nl).trans (by simp [go_sem])); have C3 := hide ((Chg.of_below (S := kS3 kb mb v') b2).trans c3 (fun _ _ q => q)); have M3 : Hid (Mvd wr v' v2) := (fun k e => (m2 k e).imp id (fun q => by simp at q; omega)); have Q2 := hide q2; have R2 := hide (T.out.row2 C3.out); have z3 := C3.out.size; clear pp q2 c3 m2 c2)
          | (at_builtin
             refine wpList_append_own_at _ rfl _ _ 27 rfl w.heap.size 43 i0 (.agg #[.string ByteArray.empty, .int .i64 0]) 2 24 Try.underlying27 hi0.out.1 hi0.out.2.1 hi0.out.2.2.1 hi0.out.2.2.2 ?a1 ?a2 (.slice A m c) m (dues t) ?a3 ?a4 ⟨w2.heap.size, 0, none⟩ 1 1 [.string x.1, .int .i64 x.2] ?a5 ?a6 ?a7 ?a8 ?a9 ?b1 ?b2 ?_
             case a1 => rfl
             case a2 => decide
             case a3 => rfl
             case a4 => (rw [HM.out]; have := R2.out; rw [HM.out] at this; exact this.alloc _)
             case a5 => rfl
             case a6 => rfl
             case a7 => exact cells_new' _ _ _ _ rfl
             case a8 => exact due_one _ _
             case a9 => (unfold maxLen; omega)
             case b1 => omega
             case b2 => (simp; omega)
             intro v3 w3 hown hgrow _ hat
             obtain ⟨A3, c3', rfl, _, _⟩ := own_form hown
             have hown' : w3.ownsRow w.heap.size 43 2 (.slice A3 (m + 1) c3') (t.length + 1) (dues t ++ [.string x.1, .int .i64 x.2]) := (by rw [← HM.out]; exact hown)
             have N3 := hide (T.out.more (o := .cells #[.string x.1, .int .i64 x.2] 43) hx Q2.out C3.out M3.out lB hgrow rfl rfl rfl rfl hown' hat)
             clear hown hown' hgrow hat y0 y1))
        go_roundw
        case rel => exact ⟨t ++ [x], rest, v2, A3, c3', by rw [List.length_append, ← HM.out]; rfl, by rw [List.length_append, ← HM.out]; simp; omega, by rw [List.length_append, ← HM.out]; exact N3⟩
        case measure => simp [lenOf]; omega
      · have d1 : decide (now < x.2) = true := by rw [decide_eq_true_eq]; omega
        go_wp2_with (go_at_call 20; refine kn.mono ?_; rintro e w1 ⟨rfl, b1⟩; have z1 := b1.size)
        go_returns
        exact T.out.fin (by go_grown) (fun x' y e => by injection e with e _; subst e; omega)
end Go.Proofs.Ytdfmfkibafcbcaa
