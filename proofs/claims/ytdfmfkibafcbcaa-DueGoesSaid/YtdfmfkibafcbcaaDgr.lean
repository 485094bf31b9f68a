/- due: a round of ranging over a queue: what it may write, and what it leaves (for DueGoes). -/
import Derived.Test.YtdfmfkibafcbcaaDgo
namespace Go.Proofs.Ytdfmfkibafcbcaa
set_option linter.unusedVariables false
set_option linter.unusedSimpArgs false
open Go.RowKit W Go.Maps
theorem LieE.cellsG {w : World} {g o : Nat} {L : List En} (h : LieE w g o L) (ne : L ≠ []) : ∃ ob : Obj, w.heap[g]? = some ob ∧ ob.isCells = true := by
  cases L with
  | nil => exact absurd rfl ne
  | cons x l => exact cells_of_cell (a := ⟨g, o + 0 * 2, none⟩) (h.at_ 0 (by simp)).1
/-- A list behind the turn of a block that is no cells. -/
theorem IsE.turn {w w' : World} {a : Option Addr} {L : List En} {row : Option Nat} (h : IsE w a L) (C : Chg (fun k => row = some k) w w') (hr : ∀ r, row = some r → ∃ o : Obj, w.heap[r]? = some o ∧ o.isCells = false) : IsE w' a L := by
  by_cases ne : L = []
  · exact .inl ne
  · rcases h with h | ⟨g, o, e, l⟩
    · exact absurd h ne
    · refine .inr ⟨g, o, e, l.chg C fun q => ?_⟩
      obtain ⟨ob, h1, h2⟩ := l.cellsG ne
      obtain ⟨o', h3, h4⟩ := hr g q
      rw [h1] at h3; cases h3; rw [h2] at h4; cases h4
theorem kf_of_chg {S : Nat → Prop} {B : Nat} {w w' : World} (C : Chg S w w') (hS : ∀ k o, S k → B ≤ k → w.heap[k]? = some o → o.isCells = true) : KeepsFrom B w w' :=
  ⟨C.size, fun k o hB hk hc => (C.block k (Array.getElem?_eq_some_iff.1 hk).1 (fun s => by have := hS k o s hB hk; rw [this] at hc; cases hc)).trans hk⟩
theorem kp_of_chg {S : Nat → Prop} {own : World → Nat → Prop} {w w' : World} (C : Chg S w w') (hS : ∀ k, S k → own w k) (ho : ∀ k, own w' k → own w k ∨ w.heap.size ≤ k) : KpO own w w' :=
  ⟨C.size, fun k cs t fr e n => (C.block k (blk_lt e) (fun s => n (hS k s))).trans e, ho⟩
theorem bw_cells {w : World} {b : Nat} {t : TypeId} {cs : Array Value} (h : Bw w b t cs) {o : Obj} (e : w.heap[b]? = some o) : o.isCells = true := by
  rw [show w.heap[b]? = _ from h] at e; cases e; rfl
theorem row_cells {w : World} {base e sz n k : Nat} {v : Value} {xs : List Value} (h : w.ownsRow base e sz v n xs) (q : v.ownBlock = some k) {o : Obj} (z : w.heap[k]? = some o) : o.isCells = true := by
  obtain ⟨_, cs, h1⟩ := own_blk h q
  rw [h1] at z; cases z; rfl
section
variable {W : World} {B0 Bl qb kb mb rb gb ob b5 b6 b7 b8 b9 : Nat} {i : Int} {key : ByteArray} {t : Int} {R0 : List En} {aO : Option Addr} {n0 cO : Nat} {wr w' w0 : World} {v v' s s' : Value} {a a' : Option Addr} {c c' : Nat} {r r' r2 pre pre' : List En} {Bx : Nat} {x : En}
theorem GO.turn (h : GO W B0 Bl qb kb mb rb gb ob b5 b6 b7 b8 b9 i key t R0 aO n0 cO wr v s a c r r' pre) (p : GP W B0 Bl qb kb mb rb gb ob aO) {row : Option Nat} (g : wr.grownBy w' row) (hr : ∀ r, row = some r → Bl ≤ r ∧ ∃ o : Obj, wr.heap[r]? = some o ∧ o.isCells = false) : GO W B0 Bl qb kb mb rb gb ob b5 b6 b7 b8 b9 i key t R0 aO n0 cO w' v s a c r r' pre := by
  have C : Chg (fun k => row = some k) wr w' := Chg.grown g (fun k e => e)
  have hr2 : ∀ r, row = some r → ∃ o : Obj, wr.heap[r]? = some o ∧ o.isCells = false := fun r e => (hr r e).2
  have nb : ∀ {b : Nat} {t' : TypeId} {cs : Array Value}, Bw wr b t' cs → ¬ row = some b := fun y e => by
    obtain ⟨o, h1, h2⟩ := hr2 _ e
    rw [bw_cells y h1] at h2; cases h2
  have nr : ∀ {base e sz n k : Nat} {u : Value} {xs : List Value}, wr.ownsRow base e sz u n xs → u.ownBlock = some k → ¬ row = some k := fun y q e => by
    obtain ⟨o, h1, h2⟩ := hr2 _ e
    rw [row_cells y q h1] at h2; cases h2
  obtain ⟨l1, h1, _⟩ := h.dj.qa.hq
  have n3 : ∀ k, kS3 kb mb v k → ¬ row = some k := by
    rintro k (z | z | z) e
    · exact nb h1.kq.km.k (by rw [← z]; exact e)
    · have := (hr k e).1; have := p.emb; omega
    · exact nr h1.kq.km.row z e
  refine ⟨⟨h.dj.qa.chg C (nb h.dj.qa.q) n3, ⟨h.dj.rq.r.chg C (nb h.dj.rq.r), h.dj.rq.is.turn C hr2, h.dj.rq.cap, h.dj.rq.capm, h.dj.rq.adr, h.dj.rq.nil, fun ad e => Nat.lt_of_lt_of_le (h.dj.rq.alt ad e) C.size⟩, h.dj.ks, h.dj.le, ?_, h.dj.na⟩, h.bx.chg C (nb h.bx.x5) (nb h.bx.x6) (nb h.bx.x7) (nb h.bx.x8) (nb h.bx.x9), h.xo.chg C (nb h.xo), h.xg.chg C (nb h.xg), chg_row h.row C (fun k e => nr h.row e), h.av, h.aa, h.old.turn C hr2, h.no⟩
  refine h.dj.bl.trans ⟨C.os, C.tape, C.output, C.size, fun k hk => C.block k (Nat.lt_of_lt_of_le hk h.dj.bl.size) (fun e => ?_)⟩
  have := (hr k e).1
  have := p.emb
  have := (h.dj.qa.old mb (.inr (.inl rfl))).1
  omega
/-- What a round's own blocks are, read off. -/
theorem GO.own (h : GO W B0 Bl qb kb mb rb gb ob b5 b6 b7 b8 b9 i key t R0 aO n0 cO wr v s a c r r' pre) (k : Nat) : ownG gb kb mb rb wr k ↔ (k = gb ∨ s.ownBlock = some k) ∨ (k = kb ∨ v.ownBlock = some k) ∨ k = mb ∨ k = rb := by
  obtain ⟨l1, h1, _⟩ := h.dj.qa.hq
  have cg : wr.cell? ⟨gb, 0, none⟩ = some s := h.xg.cell 0 _ rfl
  have ck : wr.cell? ⟨kb, 0, none⟩ = some v := h1.kq.km.k.cell 0 _ rfl
  have e1 : ∀ {b : Nat} {u : Value}, wr.cell? ⟨b, 0, none⟩ = some u → (ownB b wr k ↔ k = b ∨ u.ownBlock = some k) := fun {b u} e => by
    unfold ownB
    rw [e]
    constructor
    · rintro (q | ⟨s', q1, q2⟩)
      · exact .inl q
      · cases q1; exact .inr q2
    · rintro (q | q)
      · exact .inl q
      · exact .inr ⟨_, rfl, q⟩
  unfold ownG
  rw [e1 cg, e1 ck]
theorem GO.own_lt (h : GO W B0 Bl qb kb mb rb gb ob b5 b6 b7 b8 b9 i key t R0 aO n0 cO wr v s a c r r' pre) (p : GP W B0 Bl qb kb mb rb gb ob aO) (k : Nat) (q : ownG gb kb mb rb wr k) : k < wr.heap.size := by
  rcases (h.own k).1 q with (q | q) | (q | q) | q | q
  · rw [q]; exact h.xg.lt
  · exact (own_old h.row q).2
  · exact (h.dj.qa.old k (.inl q)).2
  · exact (h.dj.qa.old k (.inr (.inr q))).2
  · exact (h.dj.qa.old k (.inr (.inl q))).2
  · rw [q]; exact h.dj.rq.r.lt
/-- Between two states: what own blocks become. -/
theorem GO.own_mv {rA rB : List En} (h : GO W B0 Bl qb kb mb rb gb ob b5 b6 b7 b8 b9 i key t R0 aO n0 cO wr v s a c r r' pre) (k' : GO W B0 Bl qb kb mb rb gb ob b5 b6 b7 b8 b9 i key t R0 aO n0 cO w' v' s' a' c' rA rB pre') (mv : Mvd wr v v') (ms : Mvd wr s s') : ∀ k, ownG gb kb mb rb w' k → ownG gb kb mb rb wr k ∨ wr.heap.size ≤ k := by
  intro k q
  rw [h.own k]
  rcases (k'.own k).1 q with (q | q) | (q | q) | q | q
  · exact .inl (.inl (.inl q))
  · rcases ms k q with y | y
    · exact .inl (.inl (.inr y))
    · exact .inr y
  · exact .inl (.inr (.inl (.inl q)))
  · rcases mv k q with y | y
    · exact .inl (.inr (.inl (.inr y)))
    · exact .inr y
  · exact .inl (.inr (.inr (.inl q)))
  · exact .inl (.inr (.inr (.inr q)))
/-- In the midst of a round. -/
structure GR (W : World) (B0 Bl qb kb mb rb gb ob b5 b6 b7 b8 b9 : Nat) (i : Int) (key : ByteArray) (t : Int) (R0 : List En) (aO : Option Addr) (n0 cO : Nat) (w0 : World) (Bx : Nat) (x : En) (wr : World) (v s : Value) (a : Option Addr) (c : Nat) (r r' pre : List En) : Prop where
  go : GO W B0 Bl qb kb mb rb gb ob b5 b6 b7 b8 b9 i key t R0 aO n0 cO wr v s a c r r' pre
  kf : KeepsFrom Bl w0 wr
  kp : KpO (ownG gb kb mb rb) w0 wr
  bd : Bw wr Bx 43 #[.string x.1, .int .i64 x.2]
  nv : v.ownBlock ≠ some Bx
  ns : s.ownBlock ≠ some Bx
theorem GR.later (h : GR W B0 Bl qb kb mb rb gb ob b5 b6 b7 b8 b9 i key t R0 aO n0 cO w0 Bx x wr v s a c r r' pre) (p : GP W B0 Bl qb kb mb rb gb ob aO) (b : Below wr.heap.size wr w') : GR W B0 Bl qb kb mb rb gb ob b5 b6 b7 b8 b9 i key t R0 aO n0 cO w0 Bx x w' v s a c r r' pre := by
  have C := Chg.of_below (S := fun _ => False) b
  exact ⟨h.go.later b, h.kf.trans (kf_of_chg C (fun _ _ z => z.elim)), h.kp.trans (kp_of_chg C (fun _ z => z.elim) (h.go.own_mv (h.go.later b) (Mvd.refl _ _) (Mvd.refl _ _))), h.bd.later b, h.nv, h.ns⟩
theorem GR.q (h : GR W B0 Bl qb kb mb rb gb ob b5 b6 b7 b8 b9 i key t R0 aO n0 cO w0 Bx x wr v s a c r r' pre) (p : GP W B0 Bl qb kb mb rb gb ob aO) (d : DJ W qb kb mb rb 65536 w' v' a c r2 r') (C : Chg (kS3 kb mb v) wr w') (m : Mvd wr v v') : GR W B0 Bl qb kb mb rb gb ob b5 b6 b7 b8 b9 i key t R0 aO n0 cO w0 Bx x w' v' s a c r2 r' pre := by
  have g := h.go.q p d C m
  obtain ⟨l1, h1, _⟩ := h.go.dj.qa.hq
  have lt := h.bd.lt
  refine ⟨g, h.kf.trans (kf_of_chg C ?_), h.kp.trans (kp_of_chg C (fun k z => (h.go.own k).2 ?_) (h.go.own_mv g m (Mvd.refl _ _))), h.bd.chg C ?_, fun e => ?_, h.ns⟩
  · rintro k o (z | z | z) hB e
    · rw [z] at e; exact bw_cells h1.kq.km.k e
    · have := p.emb; omega
    · exact row_cells h1.kq.km.row z e
  · rcases z with z | z | z
    · exact .inr (.inl (.inl z))
    · exact .inr (.inr (.inl z))
    · exact .inr (.inl (.inr z))
  · rintro (z | z | z)
    · exact h.bd.ne h1.kq.km.k (by decide) z
    · exact h.bd.ne_map h1.kq.km.map z
    · exact h.nv z
  · rcases m Bx e with y | y
    · exact h.nv y
    · omega
theorem GR.rf (h : GR W B0 Bl qb kb mb rb gb ob b5 b6 b7 b8 b9 i key t R0 aO n0 cO w0 Bx x wr v s a c r r' pre) (p : GP W B0 Bl qb kb mb rb gb ob aO) (d : DJ W qb kb mb rb 65536 w' v a' c' r r2) (C : Chg (· = rb) wr w') (m : MvA wr a a') : GR W B0 Bl qb kb mb rb gb ob b5 b6 b7 b8 b9 i key t R0 aO n0 cO w0 Bx x w' v s a' c' r r2 pre := by
  have g := h.go.rf p d C m
  refine ⟨g, h.kf.trans (kf_of_chg C ?_), h.kp.trans (kp_of_chg C (fun k z => (h.go.own k).2 (.inr (.inr (.inr z)))) (h.go.own_mv g (Mvd.refl _ _) (Mvd.refl _ _))), h.bd.chg C (h.bd.ne h.go.dj.rq.r (by decide)), h.nv, h.ns⟩
  rintro k o z hB e
  have z : k = rb := z
  rw [z] at e
  exact bw_cells h.go.dj.rq.r e
theorem GR.got (h : GR W B0 Bl qb kb mb rb gb ob b5 b6 b7 b8 b9 i key t R0 aO n0 cO w0 Bx x wr v s a c r r' pre) (p : GP W B0 Bl qb kb mb rb gb ob aO) (C : Chg (fun k => k = gb ∨ s.ownBlock = some k) wr w') (m : Mvd wr s s') (xg : Bw w' gb 27 #[s']) (row : w'.ownsRow B0 43 2 s' pre'.length (dues pre')) : GR W B0 Bl qb kb mb rb gb ob b5 b6 b7 b8 b9 i key t R0 aO n0 cO w0 Bx x w' v s' a c r r' pre' := by
  have g := h.go.got p C m xg row
  have lt := h.bd.lt
  refine ⟨g, h.kf.trans (kf_of_chg C ?_), h.kp.trans (kp_of_chg C (fun k z => (h.go.own k).2 (.inl z)) (h.go.own_mv g (Mvd.refl _ _) m)), h.bd.chg C ?_, h.nv, fun e => ?_⟩
  · rintro k o (z | z) hB e
    · rw [z] at e; exact bw_cells h.go.xg e
    · exact row_cells h.go.row z e
  · rintro (z | z)
    · exact h.bd.ne h.go.xg (by decide) z
    · exact h.ns z
  · rcases m Bx e with y | y
    · exact h.ns y
    · omega
-- The calls of a round.
theorem gset (h : GR W B0 Bl qb kb mb rb gb ob b5 b6 b7 b8 b9 i key t R0 aO n0 cO w0 Bx x wr v s a c r r' pre) (p : GP W B0 Bl qb kb mb rb gb ob aO) (k : ByteArray) (hs : k.size ≤ maxLen) (u : Int) :
    Calls Try.prog 13 #[.pointer (some ⟨qb, 0, none⟩), .string k, .int .i64 u] wr fun e w' => ∃ v', e = .returned (.int .i64 (stC 65536 r k)) ∧ Hid (GR W B0 Bl qb kb mb rb gb ob b5 b6 b7 b8 b9 i key t R0 aO n0 cO w0 Bx x w' v' s a c (stR 65536 r k u) r' pre) := by
  refine (qset_spec h.go.dj.qa h.go.dj.bl.size k hs u).mono ?_
  rintro e w' ⟨v', rfl, q, C, m⟩
  exact ⟨v', rfl, h.q p (h.go.dj.q q C m) C m⟩
theorem grset (h : GR W B0 Bl qb kb mb rb gb ob b5 b6 b7 b8 b9 i key t R0 aO n0 cO w0 Bx x wr v s a c r r' pre) (p : GP W B0 Bl qb kb mb rb gb ob aO) (k : ByteArray) (u : Int) :
    Calls Try.prog 14 #[.pointer (some ⟨rb, 0, none⟩), .string k, .int .i64 u] wr fun e w' => ∃ a' c', e = .returned (.int .i64 (stC 65536 r' k)) ∧ Hid (GR W B0 Bl qb kb mb rb gb ob b5 b6 b7 b8 b9 i key t R0 aO n0 cO w0 Bx x w' v s a' c' r (stR 65536 r' k u) pre) := by
  refine (jrset h.go.dj p.erb k u).mono ?_
  rintro e w' ⟨a', c', rfl, d, C, m⟩
  exact ⟨a', c', rfl, h.rf p d.out C.out m.out⟩
theorem gdrop (h : GR W B0 Bl qb kb mb rb gb ob b5 b6 b7 b8 b9 i key t R0 aO n0 cO w0 Bx x wr v s a c r r' pre) (p : GP W B0 Bl qb kb mb rb gb ob aO) (k : ByteArray) (hs : k.size ≤ maxLen) :
    Calls Try.prog 16 #[.pointer (some ⟨qb, 0, none⟩), .string k] wr fun e w' => ∃ v', e = .returned (.bool (hasK r k)) ∧ Hid (GR W B0 Bl qb kb mb rb gb ob b5 b6 b7 b8 b9 i key t R0 aO n0 cO w0 Bx x w' v' s a c (delK r k) r' pre) := by
  refine (qdrop_spec h.go.dj.qa h.go.dj.bl.size k hs).mono ?_
  rintro e w' ⟨v', rfl, q, C, m⟩
  exact ⟨v', rfl, h.q p (h.go.dj.q q C m) C m⟩
theorem grdrop (h : GR W B0 Bl qb kb mb rb gb ob b5 b6 b7 b8 b9 i key t R0 aO n0 cO w0 Bx x wr v s a c r r' pre) (p : GP W B0 Bl qb kb mb rb gb ob aO) (k : ByteArray) :
    Calls Try.prog 17 #[.pointer (some ⟨rb, 0, none⟩), .string k] wr fun e w' => ∃ a' c', e = .returned (.bool (hasK r' k)) ∧ Hid (GR W B0 Bl qb kb mb rb gb ob b5 b6 b7 b8 b9 i key t R0 aO n0 cO w0 Bx x w' v s a' c' r (delK r' k) pre) := by
  refine (jrdrop h.go.dj p.erb k).mono ?_
  rintro e w' ⟨a', c', rfl, d, C, m⟩
  exact ⟨a', c', rfl, h.rf p d.out C.out m.out⟩
end
end Go.Proofs.Ytdfmfkibafcbcaa
