/- name: the reader: next, text. -/
import Derived.Test.YtagahoelojfhcaaDoorNm
import Derived.Deep.LoopGhost
namespace Go.Proofs.YtagahoelojfhcaaDoor
set_option linter.unusedVariables false
set_option linter.unusedSimpArgs false
open Go.RowKit W
/-- A reader that stands at a place of its text. -/
structure Rd (w : World) (rb : Nat) (s : ByteArray) (i : Nat) : Prop where
  blk : w.heap[rb]? = some (.cells #[.string s, .int .i64 i] 44 (0, 0))
  le : i ≤ s.size
theorem Rd.c0 {w : World} {rb i : Nat} {s : ByteArray} (h : Rd w rb s i) : w.cell? ⟨rb, 0, none⟩ = some (.string s) := by simp [World.cell?, h.blk]
theorem Rd.c1 {w : World} {rb i : Nat} {s : ByteArray} (h : Rd w rb s i) : w.cell? ⟨rb, 1, none⟩ = some (.int .i64 i) := by simp [World.cell?, h.blk]
theorem Rd.f1 {w : World} {rb i : Nat} {s : ByteArray} (h : Rd w rb s i) : w.frozen? ⟨rb, 1, none⟩ = false := by simp [World.frozen?, h.blk]
theorem Rd.lt {w : World} {rb i : Nat} {s : ByteArray} (h : Rd w rb s i) : rb < w.heap.size := blk_lt h.blk
theorem Rd.drewN {w : World} {rb i : Nat} {s : ByteArray} (h : Rd w rb s i) (n : Nat) : Rd (w.drewN n) rb s i := ⟨h.blk, h.le⟩
theorem Rd.later {w w' : World} {rb i : Nat} {s : ByteArray} (h : Rd w rb s i) (b : Below w.heap.size w w') : Rd w' rb s i := ⟨(b.block rb h.lt).trans h.blk, h.le⟩
theorem Rd.upd {B : Nat} {T : List TypeId} {w w' : World} {rb i : Nat} {s : ByteArray} (h : Rd w rb s i) (b : Upd B T w w') (ht : 44 ∉ T) : Rd w' rb s i := ⟨b.blk h.blk ht, h.le⟩
theorem Rd.put {w : World} {rb i : Nat} {s : ByteArray} (h : Rd w rb s i) (j : Nat) (hj : j ≤ s.size) {x : Int} (hx : x = (j : Int)) : Rd (w.setCell ⟨rb, 1, none⟩ (.int .i64 x)) rb s j := by
  subst hx
  refine ⟨?_, hj⟩
  simp [World.setCell, Array.getElem?_modify, h.blk]
theorem Rd.chg {w : World} {rb i : Nat} {s : ByteArray} (h : Rd w rb s i) (u : Value) : Upd rb [44] w (w.setCell ⟨rb, 1, none⟩ u) :=
  (Upd.refl _ _ _).set h.blk (Nat.le_refl _) (by simp) u
/-- The reader has gone on; else nothing that was there has changed. -/
structure Go1 (w w' : World) (rb : Nat) (s : ByteArray) (j : Nat) : Prop where
  rd : Rd w' rb s j
  upd : Upd rb [44] w w'
theorem Go1.trans {a b c : World} {rb i j : Nat} {s : ByteArray} (h : Go1 a b rb s i) (k : Go1 b c rb s j) : Go1 a c rb s j := ⟨k.rd, h.upd.trans k.upd⟩
theorem Go1.later {a b c : World} {rb i : Nat} {s : ByteArray} (h : Go1 a b rb s i) (k : Below b.heap.size b c) : Go1 a c rb s i := ⟨h.rd.later k, h.upd.trans (.of_below k)⟩
theorem Go1.put {a b : World} {rb i : Nat} {s : ByteArray} (h : Go1 a b rb s i) (j : Nat) (hj : j ≤ s.size) {x : Int} (hx : x = (j : Int)) : Go1 a (b.setCell ⟨rb, 1, none⟩ (.int .i64 x)) rb s j := ⟨h.rd.put j hj hx, h.upd.trans (h.rd.chg _)⟩
theorem Go1.refl {w : World} {rb i : Nat} {s : ByteArray} (h : Rd w rb s i) : Go1 w w rb s i := ⟨h, .refl _ _ _⟩
theorem Go1.drewN {a b : World} {rb i : Nat} {s : ByteArray} (h : Go1 a b rb s i) (n : Nat) : Go1 a (b.drewN n) rb s i := h.later (below_drewN (Below.refl _ _) n)
theorem nx_int (s : ByteArray) (i : Nat) : 0 ≤ ((nx s i).toNat : Int) ∧ ((nx s i).toNat : Int) < 256 := by have := (nx s i).toNat_lt; omega
set_option maxRecDepth 100000 in
set_option maxHeartbeats 4000000 in
theorem next_spec {w : World} {rb i : Nat} {s : ByteArray} (h : Rd w rb s i) (hs : s.size ≤ 400) : Calls Tryd.prog 21 #[.pointer (some ⟨rb, 0, none⟩)] w fun e w' => e = .returned (.int .u8 (nx s i).toNat) ∧ ∃ n, w' = w.drewN n := by
  have c0 := h.c0
  have c1 := h.c1
  have le := h.le
  clear h
  by_cases hlt : i < s.size
  · have e : (nx s i).toNat = s[i].toNat := by rw [nx_lt hlt]
    have ne : ((i : Int) == (s.size : Int)) = false := by rw [beq_eq_false_iff_ne]; omega
    rw [e]
    clear e
    go_enter Tryd.func21, Tryd.ntmps21
    go_wp2_with fail
    go_quiet (fail)
    go_wp2_with fail
    go_quiet (fail)
    go_wp2_with fail
    go_returns
    exact ⟨rfl, _, World.drewN_drewN ..⟩
  · obtain rfl : i = s.size := by omega
    rw [nx_ge (Nat.le_refl _)]
    go_enter Tryd.func21, Tryd.ntmps21
    go_wp2_with fail
    go_quiet (fail)
    go_wp2_with fail
    go_returns
    exact ⟨rfl, _, rfl⟩
theorem next_at {w : World} {rb i : Nat} {s : ByteArray} (h : Rd w rb s i) (hs : s.size ≤ 400) (x : Int) (hx : ((nx s i).toNat : Int) = x) : Calls Tryd.prog 21 #[.pointer (some ⟨rb, 0, none⟩)] w fun e w' => e = .returned (.int .u8 x) ∧ ∃ n, w' = w.drewN n := by
  rw [← hx]; exact next_spec h hs
/-- A call's world under a name. -/
theorem abs_calls {P : Program} {f : Nat} {args : Array Value} {Q : Ending → World → Prop} {w : World} (F : World → Prop) (hF : F w) (h : ∀ W, F W → Calls P f args W Q) : Calls P f args w Q := h w hF
theorem nbyte_at (s : ByteArray) (j : Nat) (t : Bool) (ht : nB (nx s j) = t) (w : World) : CalcN 18 #[.int .u8 (nx s j).toNat] w (.bool t) := by
  have := nbyte_spec ((nx s j).toNat : Int) (nx_int s j).1 (nx_int s j).2 w
  rw [← ht]; exact this
theorem class_at (s : ByteArray) (j : Nat) (t : Bool) (ht : cB (nx s j) = t) (w : World) : CalcN 27 #[.int .u8 (nx s j).toNat] w (.bool t) := by
  have := class_spec ((nx s j).toNat : Int) (nx_int s j).1 (nx_int s j).2 w
  rw [← ht]; exact this
theorem family_at (s : ByteArray) (j : Nat) (t : Int) (ht : fB (nx s j) = t) (w : World) : CalcN 41 #[.int .u8 (nx s j).toNat] w (.int .u8 t) := by
  have := family_spec ((nx s j).toNat : Int) (nx_int s j).1 (nx_int s j).2 w
  rw [← ht]; exact this
set_option maxRecDepth 100000 in
set_option maxHeartbeats 4000000 in
theorem text_spec {w : World} {rb i : Nat} {s : ByteArray} (h : Rd w rb s i) (hs : s.size ≤ 400) : Calls Tryd.prog 34 #[.pointer (some ⟨rb, 0, none⟩)] w fun e w' =>
    e = .returned (.string (s.extract i (textE s (s.size + 1) i))) ∧ Go1 w w' rb s (textE s (s.size + 1) i) := by
  obtain ⟨E, hE⟩ : ∃ E, textE s (s.size + 1) i = E := ⟨_, rfl⟩
  rw [hE]
  have HE := hide hE
  clear hE
  have HS := hide hs
  have H := hide h
  have c1 := h.c1
  have le := h.le
  clear h
  go_enter Tryd.func34, Tryd.ntmps34
  go_wp2_with fail
  go_loopg [] (s.size - i) (fun k wr => ∃ j, j + k = s.size ∧ i ≤ j ∧ Go1 w wr rb s j ∧ Hid (textE s (s.size + 1) j = E))
  case atStart => exact ⟨i, by omega, Nat.le_refl _, Go1.refl H.out, HE⟩
  case round =>
    obtain ⟨j, hj, hij, g, D⟩ := hrel
    have G := hide g
    have kn := next_spec g.rd hs
    have c0 := g.rd.c0
    have c1 := g.rd.c1
    have f1 := g.rd.f1
    have jl := g.rd.le
    clear g H HE
    cases hb : nB (nx s j)
    · have kb := nbyte_at s j false hb
      have F : Hid (j = E) := by have := D.out; rw [textE_stop hb] at this; exact this
      clear D hb
      go_wp2_with fail
      refine kn.mono ?_
      rintro e w1 ⟨rfl, n, rfl⟩
      go_wp2_with fail
      refine (kb _).mono ?_
      rintro e w1 ⟨rfl, rfl⟩
      go_wp2_with fail
      go_quiet (fail)
      go_wp2_with fail
      go_returns
      exact ⟨by rw [← F.out]; rfl, by rw [← F.out]; exact (G.out.drewN _).drewN _⟩
    · have kb := nbyte_at s j true hb
      have lt := nB_lt hb
      have F : Hid (textE s (s.size + 1) (j + 1) = E) := by have := D.out; rw [← textE_step (by omega) hb] at this; exact this
      clear D hb
      go_wp2_with fail
      refine kn.mono ?_
      rintro e w1 ⟨rfl, n, rfl⟩
      go_wp2_with fail
      refine (kb _).mono ?_
      rintro e w1 ⟨rfl, rfl⟩
      go_wp2_with fail
      go_roundg (gk - 1)
      case measure => omega
      case rel => exact ⟨j + 1, by omega, by omega, (G.out.drewN _).put (j + 1) lt (by omega), F⟩
def itemV : Option (UInt8 × UInt8) → Value
  | some (a, b) => .tuple #[.int .u8 (a.toNat : Int), .int .u8 (b.toNat : Int), .int .i64 0]
  | none => .tuple #[.int .u8 0, .int .u8 0, .int .i64 31]
def ItemPost (w : World) (rb i : Nat) (s : ByteArray) (e : Ending) (w' : World) : Prop := e = .returned (itemV (itemA s i).2) ∧ Go1 w w' rb s (itemA s i).1
set_option maxRecDepth 100000 in
set_option maxHeartbeats 4000000 in
theorem item_spec {w : World} {rb i : Nat} {s : ByteArray} (h : Rd w rb s i) (hs : s.size ≤ 400) : Calls Tryd.prog 47 #[.pointer (some ⟨rb, 0, none⟩)] w (ItemPost w rb i s) := by
  have HS := hide hs
  have H := hide h
  have lei := h.le
  have kn := next_spec h hs
  clear h
  cases hb : cB (nx s i)
  · have kb := class_at s i false hb
    have F : Hid (itemA s i = (i, none)) := by show _ = _; unfold itemA; simp only; rw [hb]; rfl
    clear hb
    go_enter Tryd.func47, Tryd.ntmps47
    go_wp2_with fail
    refine kn.mono ?_
    rintro e w1 ⟨rfl, n, rfl⟩
    go_wp2_with fail
    refine (kb _).mono ?_
    rintro e w1 ⟨rfl, rfl⟩
    go_wp2_with fail
    go_returns
    exact ⟨by rw [F.out]; rfl, by rw [F.out]; exact (Go1.refl H.out).drewN _⟩
  · have kb := class_at s i true hb
    have lt := cB_lt hb
    have c1 := H.out.c1
    have f1 := H.out.f1
    obtain ⟨c, hc⟩ : ∃ c, ((nx s i).toNat : Int) = c := ⟨_, rfl⟩
    have HC := hide hc
    have HB := hide hb
    have kf := fun t ht => family_at s i t ht
    rw [hc] at kn kb kf
    clear hb hc
    go_enter Tryd.func47, Tryd.ntmps47
    go_wp2_with fail
    refine kn.mono ?_
    rintro e w1 ⟨rfl, n, rfl⟩
    go_wp2_with fail
    refine (kb _).mono ?_
    rintro e w1 ⟨rfl, rfl⟩
    clear kn kb
    go_wp2_with fail
    refine abs_calls (fun W => Go1 w W rb s (i + 1)) (((Go1.refl H.out).drewN _).put (i + 1) lt (by omega)) ?_
    intro w2 g2
    have G2 := hide g2
    have kn := next_spec g2.rd hs
    have c1 := g2.rd.c1
    have f1 := g2.rd.f1
    clear g2 H
    by_cases m : nx s (i + 1) = 45
    · have e1 : (nx s (i + 1)).toNat = 45 := by rw [m]; rfl
      rw [e1] at kn
      have l1 : i + 1 < s.size := lt_of_nx (by rw [m]; decide)
      clear e1
      refine kn.mono ?_
      rintro e w3 ⟨rfl, n3, rfl⟩
      clear kn
      by_cases z : fB (nx s i) = 0
      · have F : Hid (itemA s i = (i + 1, none)) := by show _ = _; unfold itemA; simp only; rw [HB.out, if_pos rfl, if_pos m, if_pos z]
        have kf := kf 0 z
        clear z m
        go_wp2_with fail
        refine (kf _).mono ?_
        rintro e w4 ⟨rfl, rfl⟩
        go_wp2_with fail
        go_returns
        exact ⟨by rw [F.out]; rfl, by rw [F.out]; exact G2.out.drewN _⟩
      · obtain ⟨fc, hfc⟩ : ∃ fc, fB (nx s i) = fc := ⟨_, rfl⟩
        have kf := kf fc hfc
        have z1 : (fc == 0) = false := by rw [beq_eq_false_iff_ne, ← hfc]; exact z
        have ZZ := hide z
        have HF := hide hfc
        have MM := hide m
        clear z hfc m
        go_wp2_with fail
        refine (kf _).mono ?_
        rintro e w4 ⟨rfl, rfl⟩
        go_wp2_with fail
        refine abs_calls (fun W => Go1 w W rb s (i + 2)) ((G2.out.drewN _).put (i + 2) l1 (by omega)) ?_
        intro w5 g5
        have G5 := hide g5
        have kn := next_spec g5.rd hs
        have c1 := g5.rd.c1
        have f1 := g5.rd.f1
        have kg := fun t ht => family_at s (i + 2) t ht
        clear g5 G2
        obtain ⟨d, hd⟩ : ∃ d, ((nx s (i + 2)).toNat : Int) = d := ⟨_, rfl⟩
        obtain ⟨fd, hfd⟩ : ∃ fd, fB (nx s (i + 2)) = fd := ⟨_, rfl⟩
        rw [hd] at kn kg
        have kg := kg fd hfd
        have HD := hide hd
        have HFD := hide hfd
        clear hd hfd
        refine kn.mono ?_
        rintro e w6 ⟨rfl, n6, rfl⟩
        go_wp2_with fail
        refine (kg _).mono ?_
        rintro e w7 ⟨rfl, rfl⟩
        go_wp2_with fail
        refine (kf _).mono ?_
        rintro e w8 ⟨rfl, rfl⟩
        by_cases y : fd = fc
        · by_cases x : d < c
          · have F : Hid (itemA s i = (i + 2, none)) := by
              show _ = _; unfold itemA; simp only; rw [HB.out, if_pos rfl, if_pos MM.out, if_neg ZZ.out, if_neg]
              rintro ⟨_, q⟩
              have := UInt8.le_iff_toNat_le.1 q
              have := HD.out; have := HC.out; omega
            subst y
            go_wp2_with fail
            go_returns
            exact ⟨by rw [F.out]; rfl, by rw [F.out]; exact G5.out.drewN _⟩
          · have F : Hid (itemA s i = (i + 3, some (nx s i, nx s (i + 2)))) := by
              show _ = _; unfold itemA; simp only; rw [HB.out, if_pos rfl, if_pos MM.out, if_neg ZZ.out, if_pos ⟨by rw [HFD.out, HF.out, y], UInt8.le_iff_toNat_le.2 (by have := HD.out; have := HC.out; omega)⟩]
            have l2 : i + 2 < s.size := lt_of_nx (by intro e; have := HFD.out; rw [e, fB0] at this; rw [← this] at y; exact ZZ.out (HF.out.trans y.symm))
            subst y
            go_wp2_with fail
            go_returns
            exact ⟨by rw [F.out]; simp only [itemV, HD.out, HC.out]; rfl, by rw [F.out]; exact (G5.out.drewN _).put (i + 3) l2 (by omega)⟩
        · have y1 : (fd == fc) = false := by rw [beq_eq_false_iff_ne]; exact y
          have F : Hid (itemA s i = (i + 2, none)) := by
            show _ = _; unfold itemA; simp only; rw [HB.out, if_pos rfl, if_pos MM.out, if_neg ZZ.out, if_neg]
            rintro ⟨q, _⟩
            exact y (by rw [← HFD.out, ← HF.out]; exact q)
          go_wp2_with fail
          go_returns
          exact ⟨by rw [F.out]; rfl, by rw [F.out]; exact G5.out.drewN _⟩
    · have F : Hid (itemA s i = (i + 1, some (nx s i, nx s i))) := by show _ = _; unfold itemA; simp only; rw [HB.out, if_pos rfl, if_neg m]
      obtain ⟨x, hx⟩ : ∃ x, ((nx s (i + 1)).toNat : Int) = x := ⟨_, rfl⟩
      have n1 : (x == 45) = false := by rw [beq_eq_false_iff_ne, ← hx]; intro q; exact m (UInt8.toNat_inj.1 (show (nx s (i + 1)).toNat = 45 by omega))
      rw [hx] at kn
      clear hx m
      refine kn.mono ?_
      rintro e w3 ⟨rfl, n3, rfl⟩
      go_wp2_with fail
      go_returns
      exact ⟨by rw [F.out]; simp only [itemV, HC.out]; rfl, by rw [F.out]; exact G2.out.drewN _⟩
end Go.Proofs.YtagahoelojfhcaaDoor
