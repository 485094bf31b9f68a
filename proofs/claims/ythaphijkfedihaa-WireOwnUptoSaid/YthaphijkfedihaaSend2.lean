/- wire: Stream.end. (gen_send2.py) -/
import Derived.Test.YthaphijkfedihaaSkeep
import Derived.Test.YthaphijkfedihaaWsp
import Derived.Test.YthaphijkfedihaaSame5
namespace Go.Proofs.Ythaphijkfedihaa
set_option linter.unusedVariables false
set_option linter.unusedSimpArgs false
open Go.RowKit W
def endL (lim : Nat) (t : List UInt8) : List UInt8 := if lim < (bareL t).length then [] else bareL t
def endN (lim : Nat) (t : List UInt8) : Int := if lim < (bareL t).length then 1 else 0
def EndPost (B g lim : Nat) (v : Value) (t : List UInt8) (lost : Int) (w : World) (e : Ending) (w' : World) : Prop :=
  ∃ x v', e = .returned (.tuple #[.string x, .bool (!(endL lim t).isEmpty)]) ∧ lst x = endL lim t ∧ SkV B w' g lim v' [] (lost + endN lim t) ∧ Chg (Sg g v) w w' ∧ NewOr w v v'
theorem bare_len (t : List UInt8) : t.length ≤ (bareL t).length + 1 ∧ (bareL t).length ≤ t.length := by
  unfold bareL
  split
  · simp; omega
  · omega
theorem end_long {lim : Nat} {t : List UInt8} (h : lim < (bareL t).length) : endL lim t = [] ∧ endN lim t = 1 := by unfold endL endN; rw [if_pos h, if_pos h]; exact ⟨rfl, rfl⟩
theorem end_fit {lim : Nat} {t : List UInt8} (h : ¬ lim < (bareL t).length) : endL lim t = bareL t ∧ endN lim t = 0 := by unfold endL endN; rw [if_neg h, if_neg h]; exact ⟨rfl, rfl⟩
theorem own_eq (A : Option Addr) (n m c : Nat) : (Value.slice A n c).ownBlock = (Value.slice A m c).ownBlock := by cases A <;> rfl
theorem own_none {w : World} {B n cap0 k : Nat} {A : Option Addr} {xs : List Value} (h : w.ownsRow B 5 1 (.slice A n cap0) n xs) : w.ownsRow B 5 1 (.slice A 0 cap0) (([] : List UInt8).take k).length (rowB (([] : List UInt8).take k)) := by
  rw [List.take_nil]
  rcases h.2 with ⟨e, _⟩ | ⟨h, cap, cur, e, hb, hh, hn, hm, hs, _⟩
  · injection e with e1 e2 e3
    subst e1 e3
    exact ⟨rfl, .inl ⟨rfl, rfl⟩⟩
  · injection e with e1 e2' e3
    subst e1 e3
    exact ⟨rfl, .inr ⟨_, _, cur, rfl, hb, hh, Nat.zero_le _, hm, hs, by simp [rowB]⟩⟩
theorem end_two {B g lim n cap0 : Nat} {A : Option Addr} {w w1 : World} {t : List UInt8} {lost : Int} (h : SkV B w g lim (.slice A n cap0) t lost) :
    SkV B ((w.setCell ⟨g, 2, none⟩ (.slice A 0 cap0)).setCell ⟨g, 3, none⟩ (.bool false)) g lim (.slice A 0 cap0) [] lost ∧ Chg (Sg g (.slice A n cap0)) w ((w.setCell ⟨g, 2, none⟩ (.slice A 0 cap0)).setCell ⟨g, 3, none⟩ (.bool false)) := by
  have ne := h.apart
  have hb := h.blk
  have hn : n = (t.take (lim + 1)).length := by obtain ⟨_, _, e, _⟩ := own_form h.own; injection e
  have ho := h.own
  rw [← hn] at ho
  refine ⟨⟨?_, ?_, h.le⟩, ?_⟩
  · have z : decide (lim + 1 < ([] : List UInt8).length) = false := decide_eq_false (by simp)
    rw [z]
    simp [World.setCell, Array.getElem?_modify, hb]
  · exact chg_row (chg_row (own_none ho) (Chg.set (S := (· = g)) _ rfl) (fun k hk e => ne (by rw [← e, own_eq A n 0]; exact hk))) (Chg.set (S := (· = g)) _ rfl) (fun k hk e => ne (by rw [← e, own_eq A n 0]; exact hk))
  · exact Chg.trans (Chg.set (S := Sg g _) _ (.inl rfl)) (Chg.set (S := Sg g _) _ (.inl rfl)) (fun _ _ q => q)
theorem end_three {B g lim n cap0 : Nat} {A : Option Addr} {w w1 : World} {t : List UInt8} {lost : Int} (h : SkV B w g lim (.slice A n cap0) t lost) :
    SkV B (((w.setCell ⟨g, 2, none⟩ (.slice A 0 cap0)).setCell ⟨g, 3, none⟩ (.bool false)).setCell ⟨g, 4, none⟩ (.int .i64 (lost + 1))) g lim (.slice A 0 cap0) [] (lost + 1) ∧ Chg (Sg g (.slice A n cap0)) w (((w.setCell ⟨g, 2, none⟩ (.slice A 0 cap0)).setCell ⟨g, 3, none⟩ (.bool false)).setCell ⟨g, 4, none⟩ (.int .i64 (lost + 1))) := by
  obtain ⟨h2, c2⟩ := end_two (w1 := w) h
  have ne := h2.apart
  have hb := h2.blk
  refine ⟨⟨?_, ?_, h2.le⟩, ?_⟩
  · rw [World.setCell, Array.getElem?_modify] 
    simp [hb]
  · exact chg_row h2.own (Chg.set (S := (· = g)) _ rfl) (fun k hk e => ne (by rw [← e]; exact hk))
  · exact Chg.trans c2 (Chg.set (S := Sg g _) _ (.inl rfl)) (fun _ _ q => q)
set_option maxRecDepth 100000 in
set_option maxHeartbeats 8000000 in
theorem end_more (B g lim : Nat) (v : Value) (t : List UInt8) (lost : Int) (w : World) (h : SkV B w g lim v t lost) (hl : lim ≤ 1024) (h0 : 0 ≤ lost) (h1 : lost ≤ 4000000000000) (big : lim + 1 < t.length) : Calls Try.prog 32 #[.pointer (some ⟨g, 0, none⟩)] w (EndPost B g lim v t lost w) := by
  obtain ⟨A, cap0, rfl, hc0, ib⟩ : ∃ A cap0, v = .slice A (t.take (lim + 1)).length cap0 ∧ (t.take (lim + 1)).length ≤ cap0 ∧ IsBytes w A (t.take (lim + 1)) := by
    obtain ⟨a, c, e, h1, _, h2⟩ := own_bytes h.own
    exact ⟨a, c, e, h1, h2⟩
  obtain ⟨c0, c1, c2, c3, c4, fz, lt⟩ := h.cell
  have f2 := fz 2
  have f3 := fz 3
  have f4 := fz 4
  have tl : (t.take (lim + 1)).length ≤ 1025 := by rw [List.length_take]; omega
  have kb := bare_spec A (t.take (lim + 1)) cap0 w ib (by omega) hc0
  have EL := hide (end_long (lim := lim) (t := t) (by have := bare_len t; omega))
  obtain ⟨ln, hln⟩ : ∃ y, y = (bareL (t.take (lim + 1))).length := ⟨_, rfl⟩
  have PK := hide h
  obtain ⟨n, hn⟩ : ∃ n, n = (t.take (lim + 1)).length := ⟨_, rfl⟩
  rw [← hn] at kb c2 hc0 tl PK ⊢
  have sl : ∀ v, (Instr.slice 35 (.slice A n cap0) none (some (.int .i64 0)) none).run Try.prog v = .ok (.slice A 0 cap0) v := by
    intro v
    have := run_slice_h (P := Try.prog) (w := v) 35 A n cap0 (by kernel_rfl) .i64 0 (by omega) (by omega)
    rw [size_b] at this
    simpa [Result.andThen, sliced, add0] using this
  have s1 : IntKind.i64.wrap (lost + 1) = lost + 1 := by rw [IntKind.wrap_i64]; omega
  have bg : decide (lim + 1 < t.length) = true := decide_eq_true big
  rw [bg] at c3
  have LN := hide hln
  clear bg big hln
  clear h ib hn fz c0
  go_enter Try.func32, Try.ntmps32
  go_wp2_with fail
  refine kb.mono ?_
  rintro e w1 ⟨a4, c4', rfl, hc4, i4, rfl⟩
  clear kb
  obtain ⟨x, hx, cv⟩ := bytes_text0 i4 c4'
  have cv1 := cv w (Below.refl _ _)
  rw [← LN.out]
  rw [← LN.out] at hc4 cv1
  clear i4 hx cv LN
  go_wp2_with fail
  refine bodyPost_ret (by simp [results, Try.results32, go_sem]; try rfl) rfl ?_
  refine ⟨_, .slice A 0 cap0, by rw [EL.out.1]; rfl, by rw [EL.out.1]; rfl, ?_⟩
  rw [EL.out.2]
  have E3 := end_three (w1 := w) PK.out
  exact ⟨E3.1, E3.2, .inl (own_eq A 0 n cap0)⟩
set_option maxRecDepth 100000 in
set_option maxHeartbeats 8000000 in
theorem end_big (B g lim : Nat) (v : Value) (t : List UInt8) (lost : Int) (w : World) (h : SkV B w g lim v t lost) (hl : lim ≤ 1024) (h0 : 0 ≤ lost) (h1 : lost ≤ 4000000000000) (big : ¬ lim + 1 < t.length) (bb : lim < (bareL t).length) : Calls Try.prog 32 #[.pointer (some ⟨g, 0, none⟩)] w (EndPost B g lim v t lost w) := by
  obtain ⟨A, cap0, rfl, hc0, ib⟩ : ∃ A cap0, v = .slice A (t.take (lim + 1)).length cap0 ∧ (t.take (lim + 1)).length ≤ cap0 ∧ IsBytes w A (t.take (lim + 1)) := by
    obtain ⟨a, c, e, h1, _, h2⟩ := own_bytes h.own
    exact ⟨a, c, e, h1, h2⟩
  obtain ⟨c0, c1, c2, c3, c4, fz, lt⟩ := h.cell
  have f2 := fz 2
  have f3 := fz 3
  have f4 := fz 4
  have tl : (t.take (lim + 1)).length ≤ 1025 := by rw [List.length_take]; omega
  have kb := bare_spec A (t.take (lim + 1)) cap0 w ib (by omega) hc0
  have EL := hide (end_long bb)
  have TK := List.take_of_length_le (l := t) (i := lim + 1) (by omega)
  rw [TK] at kb hc0 tl c2 h ⊢
  obtain ⟨ln, hln⟩ : ∃ y, y = (bareL t).length := ⟨_, rfl⟩
  have PK := hide h
  obtain ⟨n, hn⟩ : ∃ n, n = (t.take (lim + 1)).length := ⟨_, rfl⟩
  rw [TK] at hn
  rw [← hn] at kb c2 hc0 tl PK ⊢
  have sl : ∀ v, (Instr.slice 35 (.slice A n cap0) none (some (.int .i64 0)) none).run Try.prog v = .ok (.slice A 0 cap0) v := by
    intro v
    have := run_slice_h (P := Try.prog) (w := v) 35 A n cap0 (by kernel_rfl) .i64 0 (by omega) (by omega)
    rw [size_b] at this
    simpa [Result.andThen, sliced, add0] using this
  have s1 : IntKind.i64.wrap (lost + 1) = lost + 1 := by rw [IntKind.wrap_i64]; omega
  have bg : decide (lim + 1 < t.length) = false := decide_eq_false big
  rw [bg] at c3
  have LN := hide hln
  have b2 : lim < ln := by rw [hln]; exact bb
  clear bb TK
  clear bg big hln
  clear h ib hn fz c0
  go_enter Try.func32, Try.ntmps32
  go_wp2_with fail
  refine kb.mono ?_
  rintro e w1 ⟨a4, c4', rfl, hc4, i4, rfl⟩
  clear kb
  obtain ⟨x, hx, cv⟩ := bytes_text0 i4 c4'
  have cv1 := cv w (Below.refl _ _)
  rw [← LN.out]
  rw [← LN.out] at hc4 cv1
  clear i4 hx cv LN
  go_wp2_with fail
  refine bodyPost_ret (by simp [results, Try.results32, go_sem]; try rfl) rfl ?_
  refine ⟨_, .slice A 0 cap0, by rw [EL.out.1]; rfl, by rw [EL.out.1]; rfl, ?_⟩
  rw [EL.out.2]
  have E3 := end_three (w1 := w) PK.out
  exact ⟨E3.1, E3.2, .inl (own_eq A 0 n cap0)⟩
set_option maxRecDepth 100000 in
set_option maxHeartbeats 8000000 in
theorem end_ok (B g lim : Nat) (v : Value) (t : List UInt8) (lost : Int) (w : World) (h : SkV B w g lim v t lost) (hl : lim ≤ 1024) (h0 : 0 ≤ lost) (h1 : lost ≤ 4000000000000) (big : ¬ lim + 1 < t.length) (bb : ¬ lim < (bareL t).length) (ne : bareL t ≠ []) : Calls Try.prog 32 #[.pointer (some ⟨g, 0, none⟩)] w (EndPost B g lim v t lost w) := by
  obtain ⟨A, cap0, rfl, hc0, ib⟩ : ∃ A cap0, v = .slice A (t.take (lim + 1)).length cap0 ∧ (t.take (lim + 1)).length ≤ cap0 ∧ IsBytes w A (t.take (lim + 1)) := by
    obtain ⟨a, c, e, h1, _, h2⟩ := own_bytes h.own
    exact ⟨a, c, e, h1, h2⟩
  obtain ⟨c0, c1, c2, c3, c4, fz, lt⟩ := h.cell
  have f2 := fz 2
  have f3 := fz 3
  have f4 := fz 4
  have tl : (t.take (lim + 1)).length ≤ 1025 := by rw [List.length_take]; omega
  have kb := bare_spec A (t.take (lim + 1)) cap0 w ib (by omega) hc0
  have EL := hide (end_fit bb)
  have TK := List.take_of_length_le (l := t) (i := lim + 1) (by omega)
  rw [TK] at kb hc0 tl c2 h ⊢
  obtain ⟨ln, hln⟩ : ∃ y, y = (bareL t).length := ⟨_, rfl⟩
  have PK := hide h
  obtain ⟨n, hn⟩ : ∃ n, n = (t.take (lim + 1)).length := ⟨_, rfl⟩
  rw [TK] at hn
  rw [← hn] at kb c2 hc0 tl PK ⊢
  have sl : ∀ v, (Instr.slice 35 (.slice A n cap0) none (some (.int .i64 0)) none).run Try.prog v = .ok (.slice A 0 cap0) v := by
    intro v
    have := run_slice_h (P := Try.prog) (w := v) 35 A n cap0 (by kernel_rfl) .i64 0 (by omega) (by omega)
    rw [size_b] at this
    simpa [Result.andThen, sliced, add0] using this
  have bg : decide (lim + 1 < t.length) = false := decide_eq_false big
  rw [bg] at c3
  have LN := hide hln
  have b2 : ¬ lim < ln := by rw [hln]; exact bb
  clear bb TK
  clear bg big hln
  clear h ib hn fz c0
  go_enter Try.func32, Try.ntmps32
  go_wp2_with fail
  refine kb.mono ?_
  rintro e w1 ⟨a4, c4', rfl, hc4, i4, rfl⟩
  clear kb
  obtain ⟨x, hx, cv⟩ := bytes_text0 i4 c4'
  have cv1 := cv w (Below.refl _ _)
  rw [← LN.out]
  rw [← LN.out] at hc4 cv1
  have NE := hide ne
  have HX := hide hx
  have n1 : x.toList.isEmpty = false := by rw [ByteArray.toList_eq]; unfold lst at hx; rw [hx]; cases q : bareL t with | nil => exact absurd q ne | cons _ _ => rfl
  have n2 : ¬ x.toList = [] := by rw [ByteArray.toList_eq]; unfold lst at hx; rw [hx]; exact ne
  clear i4 hx cv LN ne
  go_wp2_with fail
  refine bodyPost_ret (by simp [results, Try.results32, go_sem]; try rfl) rfl ?_
  trace_state
  refine ⟨_, .slice A 0 cap0, ?_, by rw [EL.out.1]; exact HX.out, ?_⟩
  · rw [EL.out.1, show (bareL t).isEmpty = false from by simpa using NE.out]; rfl
  rw [EL.out.2, Int.add_zero]
  have E3 := end_two (w1 := w) PK.out
  exact ⟨E3.1, E3.2, .inl (own_eq A 0 n cap0)⟩
set_option maxRecDepth 100000 in
set_option maxHeartbeats 8000000 in
theorem end_nil (B g lim : Nat) (v : Value) (t : List UInt8) (lost : Int) (w : World) (h : SkV B w g lim v t lost) (hl : lim ≤ 1024) (h0 : 0 ≤ lost) (h1 : lost ≤ 4000000000000) (big : ¬ lim + 1 < t.length) (bb : ¬ lim < (bareL t).length) (ne : bareL t = []) : Calls Try.prog 32 #[.pointer (some ⟨g, 0, none⟩)] w (EndPost B g lim v t lost w) := by
  obtain ⟨A, cap0, rfl, hc0, ib⟩ : ∃ A cap0, v = .slice A (t.take (lim + 1)).length cap0 ∧ (t.take (lim + 1)).length ≤ cap0 ∧ IsBytes w A (t.take (lim + 1)) := by
    obtain ⟨a, c, e, h1, _, h2⟩ := own_bytes h.own
    exact ⟨a, c, e, h1, h2⟩
  obtain ⟨c0, c1, c2, c3, c4, fz, lt⟩ := h.cell
  have f2 := fz 2
  have f3 := fz 3
  have f4 := fz 4
  have tl : (t.take (lim + 1)).length ≤ 1025 := by rw [List.length_take]; omega
  have kb := bare_spec A (t.take (lim + 1)) cap0 w ib (by omega) hc0
  have EL := hide (end_fit bb)
  have TK := List.take_of_length_le (l := t) (i := lim + 1) (by omega)
  rw [TK] at kb hc0 tl c2 h ⊢
  obtain ⟨ln, hln⟩ : ∃ y, y = (bareL t).length := ⟨_, rfl⟩
  have PK := hide h
  obtain ⟨n, hn⟩ : ∃ n, n = (t.take (lim + 1)).length := ⟨_, rfl⟩
  rw [TK] at hn
  rw [← hn] at kb c2 hc0 tl PK ⊢
  have sl : ∀ v, (Instr.slice 35 (.slice A n cap0) none (some (.int .i64 0)) none).run Try.prog v = .ok (.slice A 0 cap0) v := by
    intro v
    have := run_slice_h (P := Try.prog) (w := v) 35 A n cap0 (by kernel_rfl) .i64 0 (by omega) (by omega)
    rw [size_b] at this
    simpa [Result.andThen, sliced, add0] using this
  have bg : decide (lim + 1 < t.length) = false := decide_eq_false big
  rw [bg] at c3
  have LN := hide hln
  have b2 : ¬ lim < ln := by rw [hln]; exact bb
  clear bb TK
  clear bg big hln
  clear h ib hn fz c0
  go_enter Try.func32, Try.ntmps32
  go_wp2_with fail
  refine kb.mono ?_
  rintro e w1 ⟨a4, c4', rfl, hc4, i4, rfl⟩
  clear kb
  obtain ⟨x, hx, cv⟩ := bytes_text0 i4 c4'
  have cv1 := cv w (Below.refl _ _)
  rw [← LN.out]
  rw [← LN.out] at hc4 cv1
  have NE := hide ne
  obtain rfl : x = ⟨#[]⟩ := by
    rw [ne] at hx
    obtain ⟨⟨y⟩⟩ := x
    unfold lst at hx
    simp only at hx
    rw [hx]
  have HX := hide hx
  clear i4 hx cv LN ne
  go_wp2_with fail
  refine bodyPost_ret (by simp [results, Try.results32, go_sem]; try rfl) rfl ?_
  trace_state
  refine ⟨_, .slice A 0 cap0, ?_, by rw [EL.out.1]; exact HX.out, ?_⟩
  · rw [EL.out.1, NE.out]; rfl
  rw [EL.out.2, Int.add_zero]
  have E3 := end_two (w1 := w) PK.out
  exact ⟨E3.1, E3.2, .inl (own_eq A 0 n cap0)⟩
theorem end_spec (B g lim : Nat) (v : Value) (t : List UInt8) (lost : Int) (w : World) (h : SkV B w g lim v t lost) (hl : lim ≤ 1024) (h0 : 0 ≤ lost) (h1 : lost ≤ 4000000000000) : Calls Try.prog 32 #[.pointer (some ⟨g, 0, none⟩)] w (EndPost B g lim v t lost w) := by
  by_cases big : lim + 1 < t.length
  · exact end_more B g lim v t lost w h hl h0 h1 big
  by_cases bb : lim < (bareL t).length
  · exact end_big B g lim v t lost w h hl h0 h1 big bb
  by_cases ne : bareL t = []
  · exact end_nil B g lim v t lost w h hl h0 h1 big bb ne
  · exact end_ok B g lim v t lost w h hl h0 h1 big bb ne
end Go.Proofs.Ythaphijkfedihaa
