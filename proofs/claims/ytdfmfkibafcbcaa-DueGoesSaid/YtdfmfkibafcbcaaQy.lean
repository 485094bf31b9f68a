/- due: Drop, At, Next. -/
import Derived.Test.YtdfmfkibafcbcaaQz
namespace Go.Proofs.Ytdfmfkibafcbcaa
set_option linter.unusedVariables false
set_option linter.unusedSimpArgs false
open Go.RowKit W Go.Maps
def DropP (B : Nat) (w : World) (qb kb mb lim : Nat) (v : Value) (r : List En) (o : Value) (e : Ending) (w' : World) : Prop :=
  ∃ v', e = .returned o ∧ QA B w' qb kb mb lim v' r ∧ Chg (kS3 kb mb v) w w' ∧ Mvd w v v'
set_option maxRecDepth 100000 in
set_option maxHeartbeats 8000000 in
theorem qdrop_spec {B : Nat} {w : World} {qb kb mb lim : Nat} {v : Value} {r : List En} (h : QA B w qb kb mb lim v r) (hB : B ≤ w.heap.size) (key : ByteArray) (hs : key.size ≤ maxLen) :
    Calls Try.prog 16 #[.pointer (some ⟨qb, 0, none⟩), .string key] w (DropP B w qb kb mb lim v (delK r key) (.bool (hasK r key))) := by
  have km := qmade h
  have c2 := h.q.cell 2 _ rfl
  have nq := h.nq
  have HH := hide h
  obtain ⟨l, hl, p⟩ := h.hq
  have hz := lookI hl.kq.km.map key hs
  have d1 := hl.kq.km.k.cell 1 _ rfl
  have HP := hide p
  cases q : idxK l key with
  | none =>
    have hk : hasK r key = false := by rw [← hasK_perm p]; exact idxK_none.1 q
    have e1 : idxI l key = none := by show (idxK l key).map _ = _; rw [q]; rfl
    rw [e1] at hz
    simp only [Option.getD_none, Option.isSome_none] at hz
    rw [delK_none hk, hk]
    clear h hl p q hk e1
    go_enter Try.func16, Try.ntmps16
    go_wp2_with (go_at_call 24; refine km.mono ?_; rintro e w' ⟨rfl, rfl⟩)
    go_returns
    exact ⟨v, rfl, HH.out, Chg.refl _ _, Mvd.refl _ _⟩
  | some i =>
    obtain ⟨hi, hik⟩ := (idxK_some hl.kq.keys).1 q
    have hk : hasK r key = true := by rw [← hasK_perm p]; exact hasK_iff.2 ⟨_, List.getElem_mem hi, hik⟩
    have e1 : idxI l key = some (i : Int) := by show (idxK l key).map _ = _; rw [q]; rfl
    rw [e1] at hz
    simp only [Option.getD_some, Option.isSome_some] at hz
    rw [hk]
    have kr := hremove_spec (n := l.length - 1) (i := i) hl (by omega) (by omega) hB
    have ll := hl.kq.len
    have DE := hide (delK_erase hl.kq.keys hi)
    rw [hik] at DE
    have DP := hide (delK_perm p key)
    have DL := hide (delK_len HH.out.keys hk)
    clear h hl p q hk e1
    go_enter Try.func16, Try.ntmps16
    go_wp2_with (first
      | (go_at_call 24; refine km.mono ?_; rintro e w' ⟨rfl, rfl⟩)
      | (go_at_call 35; refine kr.mono ?_; rintro e w2 ⟨⟨r2, rfl⟩, v2, l2, q2, p2, c2', m2⟩))
    go_returns
    exact ⟨v2, rfl, ⟨HH.out.q.chg c2' nq, ⟨l2, q2, p2.trans (by rw [← DE.out]; exact DP.out)⟩, HH.out.srt.del key, HH.out.keys.del key, by have := HH.out.le; have := DL.out; omega, HH.out.mx, HH.out.bq⟩, c2', m2⟩
set_option maxRecDepth 100000 in
set_option maxHeartbeats 8000000 in
theorem qat_spec {B : Nat} {w : World} {qb kb mb lim : Nat} {v : Value} {r : List En} (h : QA B w qb kb mb lim v r) (key : ByteArray) (hs : key.size ≤ maxLen) :
    CalcN 21 #[.pointer (some ⟨qb, 0, none⟩), .string key] w (.tuple #[.int .i64 ((atK r key).getD 0), .bool (hasK r key)]) := by
  have km := qmade h
  have c2 := h.q.cell 2 _ rfl
  have HH := hide h
  obtain ⟨l, hl, p⟩ := h.hq
  have hz := lookI hl.kq.km.map key hs
  have d1 := hl.kq.km.k.cell 1 _ rfl
  have d0 := hl.kq.km.k.cell 0 _ rfl
  cases q : idxK l key with
  | none =>
    have hk : hasK r key = false := by rw [← hasK_perm p]; exact idxK_none.1 q
    have e1 : idxI l key = none := by show (idxK l key).map _ = _; rw [q]; rfl
    rw [e1] at hz
    simp only [Option.getD_none, Option.isSome_none] at hz
    rw [atK_none.2 hk, hk]
    clear h hl p q hk e1
    go_enter Try.func21, Try.ntmps21
    go_wp2_with (go_at_call 24; refine km.mono ?_; rintro e w' ⟨rfl, rfl⟩)
    go_returns
    exact ⟨rfl, rfl⟩
  | some i =>
    obtain ⟨hi, hik⟩ := (idxK_some hl.kq.keys).1 q
    have hk : hasK r key = true := by rw [← hasK_perm p]; exact hasK_iff.2 ⟨_, List.getElem_mem hi, hik⟩
    have e1 : idxI l key = some (i : Int) := by show (idxK l key).map _ = _; rw [q]; rfl
    rw [e1] at hz
    simp only [Option.getD_some, Option.isSome_some] at hz
    have ha : atK r key = some l[i].2 := (atK_some HH.out.keys).2 (p.subset (by rw [← hik]; exact List.getElem_mem hi))
    rw [hk, ha]
    obtain ⟨n, hn⟩ : ∃ n, n = l.length := ⟨_, rfl⟩
    obtain ⟨g, c, rfl, nc, gl, gB, fz⟩ := hl.kq.km.form n hn (by omega)
    obtain ⟨x0, x1⟩ := hl.kq.km.key hn hi
    have ll := hl.kq.len
    obtain ⟨a, hb⟩ : ∃ a, a = l[i].2 := ⟨_, rfl⟩
    rw [← hb] at x1 ⊢
    rw [← hn] at hi ll
    simp only [Option.getD_some]
    clear h hl p q hk e1 ha hb hn x0 fz hik
    go_enter Try.func21, Try.ntmps21
    go_wp2_with (go_at_call 24; refine km.mono ?_; rintro e w' ⟨rfl, rfl⟩)
    go_returns
    exact ⟨rfl, rfl⟩
/-- What Next tells. -/
def nxtV : List En → Value
  | [] => .tuple #[.agg #[.string ByteArray.empty, .int .i64 0], .bool false]
  | e :: _ => .tuple #[enV e, .bool true]
set_option maxRecDepth 100000 in
set_option maxHeartbeats 8000000 in
theorem qnext_spec {B : Nat} {w : World} {qb kb mb lim : Nat} {v : Value} {r : List En} (h : QA B w qb kb mb lim v r) :
    Calls Try.prog 20 #[.pointer (some ⟨qb, 0, none⟩)] w fun e w' => e = .returned (nxtV r) ∧ Below w.heap.size w w' := by
  have kl : ∀ W, Below w.heap.size w W → CalcN 10 #[.pointer (some ⟨qb, 0, none⟩)] W (.int .i64 (r.length : Int)) := fun W b => qlen (h.later b)
  have HH := hide h
  cases r with
  | nil =>
    simp only [nxtV]
    rw [show ((([] : List En).length : Nat) : Int) = 0 from rfl] at kl
    clear h
    go_enter Try.func20, Try.ntmps20
    go_wp2_with (go_at_call 10; (with_reducible refine Calls.mono (kl _ (by go_grown)) ?_); rintro e w' ⟨rfl, rfl⟩)
    go_returns
    exact ⟨rfl, by go_grown⟩
  | cons x r =>
    simp only [nxtV]
    have c2 := h.q.cell 2 _ rfl
    have lq := h.q.lt
    obtain ⟨l, hl, p⟩ := h.hq
    have ll := p.length_eq
    rw [List.length_cons] at ll
    have lk := hl.kq.km.k.lt
    have l6 := hl.kq.len
    obtain ⟨n, hn⟩ : ∃ n, n = l.length := ⟨_, rfl⟩
    have d0 := hl.kq.km.k.cell 0 _ rfl
    have top : l[0]'(by omega) = x := by
      refine sorted_head ordE HH.out.srt (p.subset (List.getElem_mem _)) fun c hc => ?_
      obtain ⟨k, hk, rfl⟩ := List.getElem_of_mem (p.symm.subset hc)
      have := hl.heap.top ordE k hk
      rw [fE_get hk, fE_get (by omega)] at this
      exact this
    obtain ⟨g, c, rfl, nc, gl, gB, fz⟩ := hl.kq.km.form n hn (by omega)
    obtain ⟨x0, x1⟩ := hl.kq.km.key hn (i := 0) (by omega)
    rw [top] at x0 x1
    rw [show 0 * 2 = 0 from rfl] at x0 x1
    have n0 : 0 < n := by omega
    have ne : (((x :: r).length : Nat) : Int) ≠ 0 := by simp; omega
    obtain ⟨m, hm⟩ : ∃ m, m = (x :: r).length := ⟨_, rfl⟩
    rw [← hm] at kl ne
    have nb : ((m : Int) == 0) = false := by simpa using ne
    have nb2 : (m == 0) = false := by simpa using ne
    clear h hl p top fz hn ll hm ne
    go_enter Try.func20, Try.ntmps20
    go_wp2_with (go_at_call 10; (with_reducible refine Calls.mono (kl _ (by go_grown)) ?_); rintro e w' ⟨rfl, rfl⟩)
    go_returns
    exact ⟨rfl, by go_grown⟩
end Go.Proofs.Ytdfmfkibafcbcaa
