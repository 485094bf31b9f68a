/- name: how a piece is tried: the closures. -/
import Derived.Test.YtagahoelojfhcaaDoorNpt
import Derived.Test.YtagahoelojfhcaaDoorNgo
import Derived.Test.YtagahoelojfhcaaDoorNma
import Derived.Test.YtagahoelojfhcaaDoorNch
import Derived.Test.YtagahoelojfhcaaDoorShelf
namespace Go.Proofs.YtagahoelojfhcaaDoor
set_option linter.unusedVariables false
set_option linter.unusedSimpArgs false
open Go.RowKit W
/-- A block of truths. -/
def Bo (w : World) (b : Nat) (T : List Bool) : Prop := w.heap[b]? = some (.cells (T.map Value.bool).toArray 4 (0, 0))
theorem Bo.at {w : World} {b : Nat} {T : List Bool} (h : Bo w b T) (i : Nat) (hi : i < T.length) : w.cell? ⟨b, i, none⟩ = some (.bool (T.getD i false)) := by
  unfold Bo at h
  rw [cell_of_row w b i _ _ (0, 0) h]
  simp [List.getD_eq_getElem?_getD, hi]
theorem Bo.free {w : World} {b : Nat} {T : List Bool} (h : Bo w b T) (i : Nat) : w.frozen? ⟨b, i, none⟩ = false := by
  unfold Bo at h
  simp [World.frozen?, h]
theorem Bo.put {w : World} {b : Nat} {T : List Bool} (h : Bo w b T) (i : Nat) : Bo (w.setCell ⟨b, i, none⟩ (.bool true)) b (T.set i true) := by
  unfold Bo at *
  rw [List.map_set]
  simp [World.setCell, Array.getElem?_modify, h]
theorem Bo.upd {B : Nat} {T : List Bool} {U : List TypeId} {w w' : World} {b : Nat} (h : Bo w b T) (u : Upd B U w w') (hb : b < B ∨ 4 ∉ U) : Bo w' b T := by
  unfold Bo at *
  rw [u.block b (blk_lt h) (hb.imp id (fun q cs t fr e => by rw [h] at e; injection e with e; injection e with _ e; rw [← e]; exact q))]
  exact h
/-- A piece is tried at a node; the places that it leads to are put down. -/
structure Tr (w0 W : World) (gb sb nb ab : Nat) (g : Gl) (a : Option Addr) (c : Nat) (s : ByteArray) (T : List Bool) : Prop where
  below : Below w0.heap.size w0 W
  al : IsTxts w0 a g.al
  g1 : W.cell? ⟨gb, 1, none⟩ = some (.string g.t)
  g2 : W.cell? ⟨gb, 2, none⟩ = some (.slice a g.al.length c)
  sc : W.cell? ⟨sb, 0, none⟩ = some (.string s)
  nc : W.cell? ⟨nb, 0, none⟩ = some (.slice (some ⟨ab, 0, none⟩) (s.size + 1) (s.size + 1))
  bo : Bo W ab T
  tl : T.length = s.size + 1
  lab : w0.heap.size ≤ ab
  ngb : gb ≠ ab
  nsb : sb ≠ ab
  nnb : nb ≠ ab
theorem Tr.drewN {w0 W : World} {gb sb nb ab : Nat} {g : Gl} {a : Option Addr} {c : Nat} {s : ByteArray} {T : List Bool} (h : Tr w0 W gb sb nb ab g a c s T) (n : Nat) : Tr w0 (W.drewN n) gb sb nb ab g a c s T :=
  ⟨below_drewN h.below n, h.al, h.g1, h.g2, h.sc, h.nc, h.bo, h.tl, h.lab, h.ngb, h.nsb, h.nnb⟩
theorem Tr.put {w0 W : World} {gb sb nb ab : Nat} {g : Gl} {a : Option Addr} {c : Nat} {s : ByteArray} {T : List Bool} (h : Tr w0 W gb sb nb ab g a c s T) (i : Nat) : Tr w0 (W.setCell ⟨ab, i, none⟩ (.bool true)) gb sb nb ab g a c s (T.set i true) := by
  have ne : ∀ b o, b ≠ ab → (W.setCell ⟨ab, i, none⟩ (.bool true)).cell? ⟨b, o, none⟩ = W.cell? ⟨b, o, none⟩ := fun b o q => World.cell?_of_block (Below.heap_setCell W ⟨ab, i, none⟩ _ b q)
  exact ⟨h.below.setCell h.lab _, h.al, (ne _ _ h.ngb).trans h.g1, (ne _ _ h.ngb).trans h.g2, (ne _ _ h.nsb).trans h.sc, (ne _ _ h.nnb).trans h.nc, h.bo.put i, by rw [List.length_set]; exact h.tl, h.lab, h.ngb, h.nsb, h.nnb⟩
theorem Tr.upd {w0 W : World} {gb sb nb ab : Nat} {g : Gl} {a : Option Addr} {c : Nat} {s : ByteArray} {T : List Bool} (h : Tr w0 W gb sb nb ab g a c s T) (i : Nat) : Upd ab [4] W (W.setCell ⟨ab, i, none⟩ (.bool true)) :=
  (Upd.refl _ _ _).set h.bo (Nat.le_refl _) (by simp) _
def handV (nb : Nat) : Value := .func (.func 40) #[] #[.pointer (some ⟨nb, 0, none⟩)]
def TrPost (w0 W : World) (gb sb nb ab : Nat) (g : Gl) (a : Option Addr) (c : Nat) (s : ByteArray) (T : List Bool) (e : Ending) (w' : World) : Prop :=
  e = .returned (.tuple #[]) ∧ Tr w0 w' gb sb nb ab g a c s T ∧ Upd ab [4] W w'
set_option maxRecDepth 100000 in
set_option maxHeartbeats 4000000 in
theorem hand_spec {w0 W : World} {gb sb nb ab : Nat} {g : Gl} {a : Option Addr} {c : Nat} {s : ByteArray} {T : List Bool} (h : Tr w0 W gb sb nb ab g a c s T) (i : Nat) (hi : i < s.size + 1) (hs : s.size ≤ 200) :
    Calls Tryd.prog 40 #[.int .i64 (i : Int), .pointer (some ⟨nb, 0, none⟩)] W (TrPost w0 W gb sb nb ab g a c s (T.set i true)) := by
  have H := hide h
  have nc := h.nc
  have b0 := h.bo.at i (by rw [h.tl]; exact hi)
  have bf := h.bo.free i
  have bl := blk_lt h.bo
  clear h
  go_enter Tryd.func40, Tryd.ntmps40
  go_wp2_with fail
  go_end0
  exact ⟨rfl, H.out.put i, H.out.upd i⟩
set_option maxRecDepth 100000 in
set_option maxHeartbeats 4000000 in
theorem any_spec {w0 W : World} {gb sb nb ab : Nat} {g : Gl} {a : Option Addr} {c : Nat} {s : ByteArray} {T : List Bool} (h : Tr w0 W gb sb nb ab g a c s T) (i : Nat) (hi : i < s.size + 1) (hs : s.size ≤ 200) (hk : g.k = 2) :
    Calls Tryd.prog 53 #[.int .i64 (i : Int), handV nb, .pointer (some ⟨sb, 0, none⟩)] W (TrPost w0 W gb sb nb ab g a c s (addR g s T i)) := by
  rw [addR_any hk]
  have H := hide h
  have tl := hide h.tl
  unfold handV
  clear h hk
  go_enter Tryd.func53, Tryd.ntmps53
  go_wp2_with fail
  go_loopw [5] (fun t wr => ∃ q : Nat, i ≤ q ∧ q ≤ s.size + 1 ∧ t = .int .i64 (q : Int) ∧ Hid (Tr w0 wr gb sb nb ab g a c s (anyR s T i q)) ∧ Hid (Upd ab [4] W wr)) (fun t _ => s.size + 1 - (intOf t).toNat)
  case atStart => exact ⟨i, by omega, by omega, rfl, hide (by rw [anyR_start _ _ _ tl.out]; exact H.out), hide (Upd.refl _ _ _)⟩
  case round =>
    obtain ⟨q, h1, h2, rfl, R, U⟩ := hrel
    have sc := R.out.sc
    by_cases hq : q ≤ s.size
    · have kh := hand_spec R.out q (by omega) hs
      rw [← anyR_step s T i q h1 hq] at kh
      clear H
      go_wp2_with (go_at_call 40; refine Calls.mono kh ?_; rintro e w2 ⟨rfl, t2, u2⟩; have T2 := hide t2; have U2 := hide u2; clear t2 u2)
      go_roundw
      case rel => exact ⟨q + 1, by omega, by omega, by go_num, T2, hide (U.out.trans U2.out)⟩
      case measure => simp [intOf]; omega
    · obtain rfl : q = s.size + 1 := by omega
      go_wp2_with fail
      go_end0
      exact ⟨rfl, R.out, U.out⟩
set_option maxRecDepth 100000 in
set_option maxHeartbeats 4000000 in
theorem one_spec {w0 W : World} {gb sb nb ab : Nat} {g : Gl} {a : Option Addr} {c : Nat} {s : ByteArray} {T : List Bool} (h : Tr w0 W gb sb nb ab g a c s T) (i : Nat) (hi : i < s.size + 1) (hs : s.size ≤ 200) (hk : g.k = 3) :
    Calls Tryd.prog 54 #[.int .i64 (i : Int), handV nb, .pointer (some ⟨sb, 0, none⟩)] W (TrPost w0 W gb sb nb ab g a c s (addR g s T i)) := by
  have H := hide h
  have sc := h.sc
  unfold handV
  by_cases hq : i < s.size
  · have kh := hand_spec h (i + 1) (by omega) hs
    rw [← addR_one (g := g) (i := i) h.tl (show i + 1 < s.size + 1 by omega) (fun j _ => by unfold goB; rw [hk]; simp [hq])] at kh
    clear h hk
    go_enter Tryd.func54, Tryd.ntmps54
    go_wp2_with (go_at_call 40; refine Calls.mono kh ?_; rintro e w2 ⟨rfl, t2, u2⟩; have T2 := hide t2; have U2 := hide u2; clear t2 u2)
    go_end0
    exact ⟨rfl, T2.out, U2.out⟩
  · rw [addR_none h.tl (fun j _ => by unfold goB; rw [hk]; simp [hq])]
    clear h hk
    go_enter Tryd.func54, Tryd.ntmps54
    go_wp2_with fail
    go_end0
    exact ⟨rfl, H.out, Upd.refl _ _ _⟩
theorem idx_has (l : List UInt8) (c : UInt8) : (0 ≤ Lib.indexByte l c) ↔ l.contains c = true := by
  induction l with
  | nil => simp [Lib.indexByte]
  | cons x r ih =>
    unfold Lib.indexByte
    by_cases e : x = c
    · subst e; simp
    · have e1 : (x == c) = false := by rw [beq_eq_false_iff_ne]; exact e
      have e2 : ¬ c = x := fun q => e q.symm
      rw [e1, if_neg (by decide)]
      have := Lib.indexByte_ge r c
      by_cases z : Lib.indexByte r c = -1
      · rw [if_pos (by rw [z]; rfl)]
        simp only [List.contains_cons]
        rw [z] at ih
        have : r.contains c = false := by cases h : r.contains c with | false => rfl | true => exact absurd (ih.2 h) (by decide)
        rw [this, show (c == x) = false by rw [beq_eq_false_iff_ne]; exact e2]; decide
      · rw [if_neg (by rw [beq_iff_eq]; exact z)]
        simp only [List.contains_cons]
        rw [show (c == x) = false by rw [beq_eq_false_iff_ne]; exact e2, Bool.false_or, ← ih]; omega
theorem byte_back (b : UInt8) : ((b.toNat : Int)).toNat.toUInt8 = b := by simp
set_option maxRecDepth 100000 in
set_option maxHeartbeats 4000000 in
theorem cls_spec {w0 W : World} {gb sb nb ab : Nat} {g : Gl} {a : Option Addr} {c : Nat} {s : ByteArray} {T : List Bool} (h : Tr w0 W gb sb nb ab g a c s T) (i : Nat) (hi : i < s.size + 1) (hs : s.size ≤ 200) (hk : g.k = 4) :
    Calls Tryd.prog 55 #[.int .i64 (i : Int), handV nb, .pointer (some ⟨sb, 0, none⟩), .pointer (some ⟨gb, 0, none⟩)] W (TrPost w0 W gb sb nb ab g a c s (addR g s T i)) := by
  have H := hide h
  have sc := h.sc
  have g1 := h.g1
  unfold handV
  by_cases hq : i < s.size
  · have d1 : decide (i < s.size) = true := by simpa using hq
    obtain ⟨r, hr⟩ : ∃ r, r = Lib.indexByte g.t.data.toList s[i] := ⟨_, rfl⟩
    have kx := fun w => Tryd.strings_IndexByte g.t (s[i].toNat : Int) w
    rw [byte_back, ← hr] at kx
    have ix := idx_has g.t.data.toList s[i]
    rw [← hr] at ix
    have nx1 := nx_lt hq
    by_cases r0 : 0 ≤ r
    · have kh := fun n => hand_spec (h.drewN n) (i + 1) (by omega) hs
      rw [← addR_one (g := g) (i := i) h.tl (show i + 1 < s.size + 1 by omega) (fun j _ => by unfold goB; rw [hk]; have := ix.1 r0; rw [nx1, this]; simp [hq])] at kh
      have d2 : decide (0 ≤ r) = true := by simpa using r0
      clear h hk ix hr nx1
      go_enter Tryd.func55, Tryd.ntmps55
      go_wp2_with fail
      go_quiet ((go_at_call 56; exact Calls.quiet_of_same (kx _)))
      go_wp2_with (go_at_call 40; refine Calls.mono (kh _) ?_; rintro e w2 ⟨rfl, t2, u2⟩; have T2 := hide t2; have U2 := hide u2; clear t2 u2)
      go_end0
      exact ⟨rfl, T2.out, (Upd.of_below (below_drewN (Below.refl _ _) _)).trans U2.out⟩
    · have r1 : g.t.data.toList.contains s[i] = false := by cases q : g.t.data.toList.contains s[i] with | false => rfl | true => exact absurd (ix.2 q) r0
      rw [addR_none h.tl (fun j _ => by unfold goB; rw [hk]; rw [nx1, r1]; simp)]
      have d2 : decide (0 ≤ r) = false := by simpa using r0
      clear h hk ix hr nx1 r1
      go_enter Tryd.func55, Tryd.ntmps55
      go_wp2_with fail
      go_quiet ((go_at_call 56; exact Calls.quiet_of_same (kx _)))
      go_wp2_with fail
      go_end0
      exact ⟨rfl, H.out.drewN _, Upd.of_below (below_drewN (Below.refl _ _) _)⟩
  · have d1 : decide (i < s.size) = false := by simpa using hq
    rw [addR_none h.tl (fun j _ => by unfold goB; rw [hk]; simp [hq])]
    clear h hk
    go_enter Tryd.func55, Tryd.ntmps55
    go_wp2_with fail
    go_quiet (fail)
    go_wp2_with fail
    go_end0
    exact ⟨rfl, H.out.drewN _, Upd.of_below (below_drewN (Below.refl _ _) _)⟩
theorem pre_lib (x s : ByteArray) (i : Nat) : Lib.hasPrefix (s.extract i s.size).data.toList x.data.toList = preB x s i := by
  unfold Lib.hasPrefix preB
  rw [Lib.extract_to_end]
set_option maxRecDepth 100000 in
set_option maxHeartbeats 4000000 in
theorem txt_spec {w0 W : World} {gb sb nb ab : Nat} {g : Gl} {a : Option Addr} {c : Nat} {s : ByteArray} {T : List Bool} (h : Tr w0 W gb sb nb ab g a c s T) (i : Nat) (hi : i < s.size + 1) (hs : s.size ≤ 200) (h2 : g.k ≠ 2) (h3 : g.k ≠ 3) (h4 : g.k ≠ 4) (h5 : g.k ≠ 5) :
    Calls Tryd.prog 59 #[.int .i64 (i : Int), handV nb, .pointer (some ⟨sb, 0, none⟩), .pointer (some ⟨gb, 0, none⟩)] W (TrPost w0 W gb sb nb ab g a c s (addR g s T i)) := by
  have H := hide h
  have sc := h.sc
  have g1 := h.g1
  have go : ∀ j, goB g s i j = (preB g.t s i && decide (j = i + g.t.size)) := fun j => by unfold goB; rw [if_neg h2, if_neg h3, if_neg h4, if_neg h5]
  have kx := fun w => Tryd.strings_HasPrefix (s.extract i s.size) g.t w
  rw [pre_lib] at kx
  have le : i ≤ s.size := by omega
  unfold handV
  by_cases hq : preB g.t s i = true
  · have lp := pre_le hq le
    have kh := fun n => hand_spec (h.drewN n) (i + g.t.size) (by omega) hs
    rw [← addR_one (g := g) (i := i) h.tl (show i + g.t.size < s.size + 1 by omega) (fun j _ => by rw [go, hq, Bool.true_and])] at kh
    rw [hq] at kx
    clear h go h2 h3 h4 h5 hq
    go_enter Tryd.func59, Tryd.ntmps59
    go_wp2_with fail
    go_quiet ((go_at_call 58; exact Calls.quiet_of_same (kx _)))
    go_wp2_with (go_at_call 40; refine Calls.mono (kh _) ?_; rintro e w2 ⟨rfl, t2, u2⟩; have T2 := hide t2; have U2 := hide u2; clear t2 u2)
    go_end0
    exact ⟨rfl, T2.out, (Upd.of_below (below_drewN (Below.refl _ _) _)).trans U2.out⟩
  · have hq' : preB g.t s i = false := by simpa using hq
    rw [addR_none h.tl (fun j _ => by rw [go, hq', Bool.false_and])]
    rw [hq'] at kx
    clear h go h2 h3 h4 h5 hq hq'
    go_enter Tryd.func59, Tryd.ntmps59
    go_wp2_with fail
    go_quiet ((go_at_call 58; exact Calls.quiet_of_same (kx _)))
    go_wp2_with fail
    go_end0
    exact ⟨rfl, H.out.drewN _, Upd.of_below (below_drewN (Below.refl _ _) _)⟩
set_option maxRecDepth 100000 in
set_option maxHeartbeats 4000000 in
theorem alt_spec {w0 W : World} {gb sb nb ab : Nat} {g : Gl} {a : Option Addr} {c : Nat} {s : ByteArray} {T : List Bool} (h : Tr w0 W gb sb nb ab g a c s T) (i : Nat) (hi : i < s.size + 1) (hs : s.size ≤ 200) (hk : g.k = 5) (hn : g.al.length ≤ 140737488355328) :
    Calls Tryd.prog 57 #[.int .i64 (i : Int), handV nb, .pointer (some ⟨gb, 0, none⟩), .pointer (some ⟨sb, 0, none⟩)] W (TrPost w0 W gb sb nb ab g a c s (addR g s T i)) := by
  rw [addR_alts hk]
  have H := hide h
  have tl := hide h.tl
  have g2 := h.g2
  obtain ⟨n, hnn⟩ : ∃ n, n = g.al.length := ⟨_, rfl⟩
  have HN := hide hnn
  rw [← hnn] at g2 hn
  have le : i ≤ s.size := by omega
  unfold handV
  clear h hk hnn
  go_enter Tryd.func57, Tryd.ntmps57
  go_wp2_with fail
  go_loopw [11] (fun t wr => ∃ q : Nat, q ≤ n ∧ t = .int .i64 (q : Int) ∧ Hid (Tr w0 wr gb sb nb ab g a c s (altR s T i (g.al.take q))) ∧ Hid (Upd ab [4] W wr)) (fun t _ => n - (intOf t).toNat)
  case atStart => exact ⟨0, by omega, rfl, hide (by rw [List.take_zero, altR_nil _ _ _ tl.out]; exact H.out), hide (Upd.refl _ _ _)⟩
  case round =>
    obtain ⟨q, h1, rfl, R, U⟩ := hrel
    have sc := R.out.sc
    by_cases hq : q < n
    · have qa : q < g.al.length := by have := HN.out; omega
      obtain ⟨b, o, rfl, LA⟩ := R.out.al.resolve_left (by intro e; rw [e] at qa; simp at qa)
      have c0 := (R.out.below.cell (p := ⟨b, o + q, none⟩) LA.lt).trans (LA.cell q qa)
      have tk : g.al.take (q + 1) = g.al.take q ++ [g.al[q]] := by rw [List.take_succ_eq_append_getElem qa]
      obtain ⟨x, hx⟩ : ∃ x, x = g.al[q] := ⟨_, rfl⟩
      rw [← hx] at c0 tk
      have TK := hide tk
      have kx := fun w => Tryd.strings_HasPrefix (s.extract i s.size) x w
      rw [pre_lib] at kx
      clear hx tk LA H
      by_cases hp : preB x s i = true
      · have lp := pre_le hp le
        have kh := hand_spec R.out (i + x.size) (by omega) hs
        rw [← altR_yes s T i _ x hp le, ← TK.out] at kh
        rw [hp] at kx
        clear hp
        go_wp2_with first
          | (go_at_call 58; refine (kx _).mono ?_; rintro e w1 ⟨rfl, rfl⟩)
          | (go_at_call 40; refine Calls.mono kh ?_; rintro e w2 ⟨rfl, t2, u2⟩; have T2 := hide t2; have U2 := hide u2; clear t2 u2)
        go_roundw
        case rel => exact ⟨q + 1, by omega, by go_num, T2, hide (U.out.trans U2.out)⟩
        case measure => simp [intOf]; omega
      · have hp' : preB x s i = false := by simpa using hp
        have R2 : Hid (Tr w0 wr gb sb nb ab g (some ⟨b, o, none⟩) c s (altR s T i (g.al.take (q + 1)))) := by
          show Tr _ _ _ _ _ _ _ _ _ _ _
          rw [TK.out, altR_no s T i _ x hp']; exact R.out
        rw [hp'] at kx
        clear hp hp'
        go_wp2_with (go_at_call 58; refine (kx _).mono ?_; rintro e w1 ⟨rfl, rfl⟩)
        go_roundw
        case rel => exact ⟨q + 1, by omega, by go_num, R2, U⟩
        case measure => simp [intOf]; omega
    · obtain rfl : q = n := by omega
      have R2 : Hid (Tr w0 wr gb sb nb ab g a c s (altR s T i g.al)) := by
        have := R.out; rw [HN.out, List.take_length] at this; exact this
      go_wp2_with fail
      go_end0
      exact ⟨rfl, R2.out, U.out⟩
end Go.Proofs.YtagahoelojfhcaaDoor
