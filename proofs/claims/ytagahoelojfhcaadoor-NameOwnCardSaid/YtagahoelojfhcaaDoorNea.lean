/- name: the reference's reader: more, fail, text. -/
import Derived.Test.YtagahoelojfhcaaDoorNrd
import Derived.Test.YtagahoelojfhcaaDoorNra
namespace Go.Proofs.YtagahoelojfhcaaDoor
set_option linter.unusedVariables false
set_option linter.unusedSimpArgs false
open Go.RowKit W
/-- The reference's reader: its text, its place, its fault. -/
structure Re (w : World) (rb : Nat) (s : ByteArray) (i : Nat) (d : Int) : Prop where
  blk : w.heap[rb]? = some (.cells #[.string s, .int .i64 i, .int .i64 d] 55 (0, 0))
  le : i ≤ s.size
theorem Re.c0 {w : World} {rb i : Nat} {s : ByteArray} {d : Int} (h : Re w rb s i d) : w.cell? ⟨rb, 0, none⟩ = some (.string s) := by simp [World.cell?, h.blk]
theorem Re.c1 {w : World} {rb i : Nat} {s : ByteArray} {d : Int} (h : Re w rb s i d) : w.cell? ⟨rb, 1, none⟩ = some (.int .i64 i) := by simp [World.cell?, h.blk]
theorem Re.c2 {w : World} {rb i : Nat} {s : ByteArray} {d : Int} (h : Re w rb s i d) : w.cell? ⟨rb, 2, none⟩ = some (.int .i64 d) := by simp [World.cell?, h.blk]
theorem Re.f1 {w : World} {rb i : Nat} {s : ByteArray} {d : Int} (h : Re w rb s i d) : w.frozen? ⟨rb, 1, none⟩ = false := by simp [World.frozen?, h.blk]
theorem Re.f2 {w : World} {rb i : Nat} {s : ByteArray} {d : Int} (h : Re w rb s i d) : w.frozen? ⟨rb, 2, none⟩ = false := by simp [World.frozen?, h.blk]
theorem Re.lt {w : World} {rb i : Nat} {s : ByteArray} {d : Int} (h : Re w rb s i d) : rb < w.heap.size := blk_lt h.blk
theorem Re.later {w w' : World} {rb i : Nat} {s : ByteArray} {d : Int} (h : Re w rb s i d) (b : Below w.heap.size w w') : Re w' rb s i d := ⟨(b.block rb h.lt).trans h.blk, h.le⟩
theorem Re.drewN {w : World} {rb i : Nat} {s : ByteArray} {d : Int} (h : Re w rb s i d) (n : Nat) : Re (w.drewN n) rb s i d := ⟨h.blk, h.le⟩
theorem Re.upd {B : Nat} {T : List TypeId} {w w' : World} {rb i : Nat} {s : ByteArray} {d : Int} (h : Re w rb s i d) (b : Upd B T w w') (ht : 55 ∉ T) : Re w' rb s i d := ⟨b.blk h.blk ht, h.le⟩
theorem Re.put {w : World} {rb i : Nat} {s : ByteArray} {d : Int} (h : Re w rb s i d) (j : Nat) (hj : j ≤ s.size) {x : Int} (hx : x = (j : Int)) : Re (w.setCell ⟨rb, 1, none⟩ (.int .i64 x)) rb s j d := by
  subst hx
  refine ⟨?_, hj⟩
  simp [World.setCell, Array.getElem?_modify, h.blk]
theorem Re.bad {w : World} {rb i : Nat} {s : ByteArray} {d : Int} (h : Re w rb s i d) (c : Int) : Re (w.setCell ⟨rb, 2, none⟩ (.int .i64 c)) rb s i c := by
  refine ⟨?_, h.le⟩
  simp [World.setCell, Array.getElem?_modify, h.blk]
theorem Re.chg {w : World} {rb i : Nat} {s : ByteArray} {d : Int} (h : Re w rb s i d) (o : Nat) (u : Value) : Upd rb [55] w (w.setCell ⟨rb, o, none⟩ u) :=
  (Upd.refl _ _ _).set h.blk (Nat.le_refl _) (by simp) u
/-- The reader has gone on; else nothing that was there has changed. -/
structure Ge (w w' : World) (rb : Nat) (s : ByteArray) (j : Nat) (d : Int) : Prop where
  rd : Re w' rb s j d
  upd : Upd rb [55] w w'
theorem Ge.trans {a b c : World} {rb i j : Nat} {s : ByteArray} {d d' : Int} (h : Ge a b rb s i d) (k : Ge b c rb s j d') : Ge a c rb s j d' := ⟨k.rd, h.upd.trans k.upd⟩
theorem Ge.later {a b c : World} {rb i : Nat} {s : ByteArray} {d : Int} (h : Ge a b rb s i d) (k : Below b.heap.size b c) : Ge a c rb s i d := ⟨h.rd.later k, h.upd.trans (.of_below k)⟩
theorem Ge.put {a b : World} {rb i : Nat} {s : ByteArray} {d : Int} (h : Ge a b rb s i d) (j : Nat) (hj : j ≤ s.size) {x : Int} (hx : x = (j : Int)) : Ge a (b.setCell ⟨rb, 1, none⟩ (.int .i64 x)) rb s j d := ⟨h.rd.put j hj hx, h.upd.trans (h.rd.chg _ _)⟩
theorem Ge.bad {a b : World} {rb i : Nat} {s : ByteArray} {d : Int} (h : Ge a b rb s i d) (c : Int) : Ge a (b.setCell ⟨rb, 2, none⟩ (.int .i64 c)) rb s i c := ⟨h.rd.bad c, h.upd.trans (h.rd.chg _ _)⟩
theorem Ge.refl {w : World} {rb i : Nat} {s : ByteArray} {d : Int} (h : Re w rb s i d) : Ge w w rb s i d := ⟨h, .refl _ _ _⟩
theorem Ge.drewN {a b : World} {rb i : Nat} {s : ByteArray} {d : Int} (h : Ge a b rb s i d) (n : Nat) : Ge a (b.drewN n) rb s i d := h.later (below_drewN (Below.refl _ _) n)
def isB (s : ByteArray) (i b : Nat) : Bool := decide ((nx s i).toNat = b)
theorem isB_lt {s : ByteArray} {i b : Nat} (hb : 0 < b) (h : isB s i b = true) : i < s.size := lt_of_nx (by intro e; unfold isB at h; rw [e] at h; simp at h; omega)
set_option maxRecDepth 100000 in
set_option maxHeartbeats 4000000 in
theorem more_spec {w : World} {rb i : Nat} {s : ByteArray} {d : Int} (h : Re w rb s i d) (hs : s.size ≤ 400) (b : Nat) (hb : 0 < b ∧ b < 256) (t : Bool) (ht : isB s i b = t) :
    Calls Tryd.prog 48 #[.pointer (some ⟨rb, 0, none⟩), .int .u8 (b : Int)] w fun e w' => e = .returned (.bool t) ∧ ∃ n, w' = w.drewN n := by
  have c0 := h.c0
  have c1 := h.c1
  have le := h.le
  have HT := hide ht
  clear h ht
  by_cases hlt : i < s.size
  · have e0 : (nx s i).toNat = s[i].toNat := by rw [nx_lt hlt]
    have d1 : decide ((i : Int) < (s.size : Int)) = true := by rw [decide_eq_true_eq]; omega
    by_cases e : s[i].toNat = b
    · have F : Hid (t = true) := by have := HT.out; show _ = _; rw [← this]; unfold isB; rw [e0]; simp [e]
      have e1 : (((s[i].toNat : Nat) : Int) == (b : Int)) = true := by rw [e]; simp
      have e2 : (s[i].toNat == b) = true := by rw [e]; simp
      clear e0
      go_enter Tryd.func48, Tryd.ntmps48
      go_wp2_with fail
      go_quiet (fail)
      go_wp2_with fail
      go_returns
      exact ⟨by rw [F.out]; rfl, _, rfl⟩
    · have F : Hid (t = false) := by have := HT.out; show _ = _; rw [← this]; unfold isB; rw [e0]; simp [e]
      have e1 : (((s[i].toNat : Nat) : Int) == (b : Int)) = false := by rw [beq_eq_false_iff_ne]; omega
      have e2 : (s[i].toNat == b) = false := by rw [beq_eq_false_iff_ne]; omega
      clear e0
      go_enter Tryd.func48, Tryd.ntmps48
      go_wp2_with fail
      go_quiet (fail)
      go_wp2_with fail
      go_returns
      exact ⟨by rw [F.out]; rfl, _, rfl⟩
  · have F : Hid (t = false) := by
      have := HT.out; show _ = _; rw [← this]
      cases q : isB s i b with
      | false => rfl
      | true => exact absurd (isB_lt hb.1 q) hlt
    have d1 : decide ((i : Int) < (s.size : Int)) = false := by rw [decide_eq_false_iff_not]; omega
    go_enter Tryd.func48, Tryd.ntmps48
    go_wp2_with fail
    go_quiet (fail)
    go_wp2_with fail
    go_returns
    exact ⟨by rw [F.out]; rfl, _, rfl⟩
set_option maxRecDepth 100000 in
set_option maxHeartbeats 4000000 in
theorem fail_spec {w : World} {rb i : Nat} {s : ByteArray} (h : Re w rb s i 0) (c : Int) :
    Calls Tryd.prog 24 #[.pointer (some ⟨rb, 0, none⟩), .int .i64 c] w fun e w' => e = .returned (.tuple #[]) ∧ Ge w w' rb s i c := by
  have c2 := h.c2
  have f2 := h.f2
  have H := hide h
  clear h
  go_enter Tryd.func24, Tryd.ntmps24
  go_wp2_with fail
  go_end0
  exact ⟨rfl, (Ge.refl H.out).bad c⟩
theorem rbyte_at (s : ByteArray) (j : Nat) (t : Bool) (ht : nB (nx s j) = t) (w : World) : CalcN 31 #[.int .u8 (nx s j).toNat] w (.bool t) := by
  have := rbyte_spec ((nx s j).toNat : Int) (nx_int s j).1 (nx_int s j).2 w
  rw [← ht]; exact this
set_option maxRecDepth 100000 in
set_option maxHeartbeats 4000000 in
theorem rtext_spec {w : World} {rb i : Nat} {s : ByteArray} {d : Int} (h : Re w rb s i d) (hs : s.size ≤ 400) : Calls Tryd.prog 35 #[.pointer (some ⟨rb, 0, none⟩)] w fun e w' =>
    e = .returned (.string (s.extract i (textE s (s.size + 1) i))) ∧ Ge w w' rb s (textE s (s.size + 1) i) d := by
  obtain ⟨E, hE⟩ : ∃ E, textE s (s.size + 1) i = E := ⟨_, rfl⟩
  rw [hE]
  have HE := hide hE
  clear hE
  have HS := hide hs
  have H := hide h
  have c1 := h.c1
  have le := h.le
  clear h
  go_enter Tryd.func35, Tryd.ntmps35
  go_wp2_with fail
  go_loopg [] (s.size - i) (fun k wr => ∃ j, j + k = s.size ∧ i ≤ j ∧ Ge w wr rb s j d ∧ Hid (textE s (s.size + 1) j = E))
  case atStart => exact ⟨i, by omega, Nat.le_refl _, Ge.refl H.out, HE⟩
  case round =>
    obtain ⟨j, hj, hij, g, D⟩ := hrel
    have G := hide g
    have c0 := g.rd.c0
    have c1 := g.rd.c1
    have f1 := g.rd.f1
    have jl := g.rd.le
    clear g H HE
    by_cases hlt : j < s.size
    · have d1 : decide ((j : Int) < (s.size : Int)) = true := by rw [decide_eq_true_eq]; omega
      have e0 : (nx s j).toNat = s[j].toNat := by rw [nx_lt hlt]
      cases hb : nB (nx s j)
      · have kb := rbyte_at s j false hb
        rw [e0] at kb
        have F : Hid (j = E) := by have := D.out; rw [textE_stop hb] at this; exact this
        clear D hb e0
        go_wp2_with fail
        go_quiet ((go_at_call 31; exact quiet_calc (kb _)))
        go_wp2_with fail
        go_quiet (fail)
        go_wp2_with fail
        go_returns
        exact ⟨by rw [← F.out]; rfl, by rw [← F.out]; exact (G.out.drewN _).drewN _⟩
      · have kb := rbyte_at s j true hb
        rw [e0] at kb
        have lt := nB_lt hb
        have F : Hid (textE s (s.size + 1) (j + 1) = E) := by have := D.out; rw [← textE_step (by omega) hb] at this; exact this
        clear D hb e0
        go_wp2_with fail
        go_quiet ((go_at_call 31; exact quiet_calc (kb _)))
        go_wp2_with fail
        go_roundg (gk - 1)
        case measure => omega
        case rel => exact ⟨j + 1, by omega, by omega, (G.out.drewN _).put (j + 1) lt (by omega), F⟩
    · have d1 : decide ((j : Int) < (s.size : Int)) = false := by rw [decide_eq_false_iff_not]; omega
      have F : Hid (j = E) := by have := D.out; rw [textE_stop (by rw [nx_ge (by omega)]; exact nB0)] at this; exact this
      clear D
      go_wp2_with fail
      go_quiet (fail)
      go_wp2_with fail
      go_quiet (fail)
      go_wp2_with fail
      go_returns
      exact ⟨by rw [← F.out]; rfl, by rw [← F.out]; exact (G.out.drewN _).drewN _⟩
end Go.Proofs.YtagahoelojfhcaaDoor
