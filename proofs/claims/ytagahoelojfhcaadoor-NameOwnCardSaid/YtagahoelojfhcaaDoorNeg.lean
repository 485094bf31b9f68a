/- name: how long what is read can be; the reference's Same for equal patterns. -/
import Derived.Test.YtagahoelojfhcaaDoorNpt
import Derived.Test.YtagahoelojfhcaaDoorNst
import Derived.BigRegion
import Derived.Deep.CutRange
namespace Go.Proofs.YtagahoelojfhcaaDoor
set_option linter.unusedVariables false
set_option linter.unusedSimpArgs false
open Go.RowKit W
theorem choice_fit {s : ByteArray} {f i j : Nat} {acc l : List ByteArray} (h : choiceA s f i acc = (j, .ok l)) (ha : acc.length ≤ 15) : l.length ≤ 16 := by
  induction f generalizing i acc with
  | zero => cases h
  | succ f ih =>
    unfold choiceA at h
    simp only at h
    split at h
    · cases h; simp; omega
    · split at h
      · split at h
        · cases h
        · rename_i q; exact ih h (by simp at q ⊢; omega)
      · cases h
theorem piece_fit {s : ByteArray} {i j : Nat} {g : Gl} (h : pieceA s i = (j, .ok g)) : g.al.length ≤ 16 := by
  unfold pieceA at h
  simp only at h
  split at h
  · cases h; simp
  split at h
  · cases h; simp
  split at h
  · split at h
    · cases h
    · cases h; simp
  split at h
  · split at h
    · cases h
    · rename_i e; cases h; exact choice_fit e (by simp)
  split at h
  · cases h
  · cases h; simp
theorem node_fit {s : ByteArray} {f i j : Nat} {acc l : List Gl} (h : nodeA s f i acc = (j, .ok l)) (ha : ∀ g ∈ acc, g.al.length ≤ 16) : l.length + i ≤ acc.length + j ∧ ∀ g ∈ l, g.al.length ≤ 16 := by
  induction f generalizing i acc with
  | zero => cases h
  | succ f ih =>
    unfold nodeA at h
    split at h
    · split at h
      · cases h
      · rename_i k g e
        have gt := piece_gt e
        have := ih h (by
          intro x hx
          rcases List.mem_append.1 hx with hx | hx
          · exact ha x hx
          · rw [List.mem_singleton] at hx; subst hx; exact piece_fit e)
        refine ⟨?_, this.2⟩
        have := this.1
        simp at this
        omega
    · split at h
      · cases h
      · cases h; exact ⟨Nat.le_refl _, ha⟩
structure PtF (p : List (List Gl)) : Prop where
  n : p.length ≤ 16
  m : ∀ l ∈ p, l.length ≤ 400
  a : ∀ l ∈ p, ∀ g ∈ l, g.al.length ≤ 16
theorem pat_fit {s : ByteArray} (hs : s.size ≤ 400) {f i j : Nat} {acc p : List (List Gl)} (h : patA s f i acc = (j, .ok p)) (hi : i ≤ s.size) (hn : acc.length ≤ 15) (ha : PtF acc) : PtF p := by
  induction f generalizing i acc with
  | zero => cases h
  | succ f ih =>
    unfold patA at h
    split at h
    · cases h
    · rename_i k nd e
      have le := node_le (s := s) (f := s.size + 1) (acc := []) hi
      rw [e] at le
      have nf := node_fit e (by simp)
      have A : PtF (acc ++ [nd]) := ⟨by simp; omega, fun l hl => by
        rcases List.mem_append.1 hl with hl | hl
        · exact ha.m l hl
        · rw [List.mem_singleton] at hl; subst hl; have := nf.1; simp at this; simp at le; omega, fun l hl => by
        rcases List.mem_append.1 hl with hl | hl
        · exact ha.a l hl
        · rw [List.mem_singleton] at hl; subst hl; exact nf.2⟩
      split at h
      · cases h
      · rename_i q
        split at h
        · cases h; exact A
        · rename_i z
          simp at le
          exact ih h (by omega) (by simp; simp at q; have := q (by omega); omega) A
theorem comp_fit {s : ByteArray} {j : Nat} {p : List (List Gl)} (h : compA s = (j, .ok p)) : PtF p := by
  unfold compA at h
  split at h
  · cases h
  · exact pat_fit (by omega) h (by omega) (by simp) ⟨by simp, by simp, by simp⟩
/-- Two patterns' boxes, and the world behind them. -/
structure Kq (w : World) (a b : Option Addr) (n c d : Nat) (w' : World) : Prop where
  c0 : w'.cell? ⟨w.heap.size, 0, none⟩ = some (.slice a n c)
  c1 : w'.cell? ⟨w.heap.size + 1, 0, none⟩ = some (.slice b n d)
  below : Below w.heap.size w w'
  lt : w.heap.size + 1 < w'.heap.size
theorem Kq.later {w : World} {a b : Option Addr} {n c d : Nat} {X Y : World} (h : Kq w a b n c d X) (u : Below X.heap.size X Y) : Kq w a b n c d Y :=
  ⟨(u.cell (p := ⟨w.heap.size, 0, none⟩) (by have := h.lt; show w.heap.size < _; omega)).trans h.c0, (u.cell (p := ⟨w.heap.size + 1, 0, none⟩) h.lt).trans h.c1, h.below.trans (u.mono h.below.size), Nat.lt_of_lt_of_le h.lt u.size⟩
set_option maxRecDepth 100000 in
set_option maxHeartbeats 16000000 in
theorem rsame_spec (p : List (List Gl)) (pf : PtF p) (a b : Option Addr) (c d : Nat) (w : World) (ha : IsPt w a p) (hb : IsPt w b p) :
    Calls Tryd.prog 9 #[.agg #[.slice a p.length c], .agg #[.slice b p.length d]] w fun e w' => e = .returned (.bool true) ∧ Below w.heap.size w w' := by
  have HA := hide ha
  have HB := hide hb
  have PF := hide pf
  have pn := pf.n
  obtain ⟨n, hn⟩ : ∃ n, n = p.length := ⟨_, rfl⟩
  have HN := hide hn
  rw [← hn] at pn ⊢
  clear ha hb pf hn
  go_enter Tryd.func9, Tryd.ntmps9
  go_wp2_with fail
  go_loopw [5] (fun i wr => ∃ k : Nat, k ≤ n ∧ i = .int .i64 (k : Int) ∧ Hid (Kq w a b n c d wr)) (fun i _ => n - (intOf i).toNat)
  case atStart => exact ⟨0, by omega, rfl, hide ⟨by simp [go_sem], by simp [go_sem], by go_grown, by simp⟩⟩
  case round =>
    obtain ⟨k, hk, rfl, K⟩ := hrel
    have k0 := K.out.c0
    have k1 := K.out.c1
    by_cases hlt : k < n
    · have kp : k < p.length := by have := HN.out; omega
      obtain ⟨g1, o1, rfl, L1⟩ := HA.out.resolve_left (by intro e; rw [e] at kp; simp at kp)
      obtain ⟨g2, o2, rfl, L2⟩ := HB.out.resolve_left (by intro e; rw [e] at kp; simp at kp)
      obtain ⟨b1, c1, n1, i1, _⟩ := (L1.later K.out.below).cell k kp
      obtain ⟨b2, c2, n2, i2, _⟩ := (L2.later K.out.below).cell k kp
      have I1 := hide i1
      have I2 := hide i2
      have gm := PF.out.m p[k] (List.getElem_mem _)
      have GA := hide (PF.out.a p[k] (List.getElem_mem _))
      have L1H := hide (L1.later K.out.below)
      have L2H := hide (L2.later K.out.below)
      obtain ⟨gs, hgs⟩ : ∃ gs, gs = p[k] := ⟨_, rfl⟩
      rw [← hgs] at n1 n2 gm GA I1 I2
      obtain ⟨m, hm⟩ : ∃ m, m = gs.length := ⟨_, rfl⟩
      have HM := hide hm
      rw [← hm] at n1 n2 gm
      have N1 := hide n1
      have N2 := hide n2
      have lt1 := L1H.out.lt
      have lt2 := L2H.out.lt
      obtain ⟨wo, rfl⟩ : ∃ wo, wo = wr := ⟨_, rfl⟩
      clear hgs hm i1 i2 L1 L2
      go_wp2_with fail
      go_quiet (fail)
      go_wp2_with fail
      clear n1 n2 k0 k1
      go_loopw [6] (fun i w2 => ∃ q : Nat, q ≤ m ∧ i = .int .i64 (q : Int) ∧ Hid (Below wo.heap.size wo w2)) (fun i _ => m - (intOf i).toNat)
      case atStart => exact ⟨0, by omega, rfl, hide (below_drewN (Below.refl _ _) _)⟩
      case round =>
        obtain ⟨q, hq, rfl, B⟩ := hrel
        have K2 := hide (K.out.later B.out)
        have k0 := K2.out.c0
        have k1 := K2.out.c1
        have n1 := (B.out.cell (p := ⟨g1, o1 + k, none⟩) lt1).trans N1.out
        have n2 := (B.out.cell (p := ⟨g2, o2 + k, none⟩) lt2).trans N2.out
        have zb := B.out.size
        by_cases hql : q < m
        · have qg : q < gs.length := by have := HM.out; omega
          obtain ⟨h1, r1, rfl, J1⟩ := I1.out.resolve_left (by intro e; rw [e] at qg; simp at qg)
          obtain ⟨h2, r2, rfl, J2⟩ := I2.out.resolve_left (by intro e; rw [e] at qg; simp at qg)
          obtain ⟨x0, x1, bx, cx, x2, tx, _⟩ := (J1.later B.out).cell q qg
          obtain ⟨y0, y1, by_, cy, y2, ty, _⟩ := (J2.later B.out).cell q qg
          have TX := hide tx
          have TY := hide ty
          have al := GA.out gs[q] (List.getElem_mem _)
          obtain ⟨x, hx⟩ : ∃ x, x = gs[q] := ⟨_, rfl⟩
          rw [← hx] at x0 x1 x2 y0 y1 y2 TX TY al
          have kl := K2.out.lt
          have kl0 : w.heap.size < wr.heap.size := by omega
          have g1l : g1 < wr.heap.size := by omega
          have g2l : g2 < wr.heap.size := by omega
          have h1l := (J1.later B.out).lt
          have h2l := (J2.later B.out).lt
          have kst := fun W (u : Below wr.heap.size wr W) => same_texts x.al bx by_ cx cy W (TX.out.later u) (TY.out.later u) (by omega)
          have sn := str_neq_same x.t
          clear hx tx ty J1 J2
          go_upto_region 11 with (fail)
          go_cut [7, 8] from 46 to 81 (fun s7 s8 wx => ∃ X Y : Nat, s7 = .pointer (some ⟨X, 0, none⟩) ∧ s8 = .pointer (some ⟨Y, 0, none⟩) ∧ wx.cell? ⟨X, 0, none⟩ = some (.int .i64 x.k) ∧ wx.cell? ⟨X, 1, none⟩ = some (.string x.t) ∧ wx.cell? ⟨X, 2, none⟩ = some (.slice bx x.al.length cx) ∧ wx.cell? ⟨Y, 0, none⟩ = some (.int .i64 x.k) ∧ wx.cell? ⟨Y, 1, none⟩ = some (.string x.t) ∧ wx.cell? ⟨Y, 2, none⟩ = some (.slice by_ x.al.length cy) ∧ Hid (Below wr.heap.size wr wx))
          case first =>
            go_region
            all_goals
              go_wp2_with fail
              go_meet
              case rel => exact ⟨_, _, rfl, rfl, by simp [go_sem], by simp [go_sem], by simp [go_sem], by simp [go_sem], by simp [go_sem], by simp [go_sem], hide (by go_grown)⟩
          case rest =>
            obtain ⟨X, Y, rfl, rfl, u0, u1, u2, v0, v1, v2, B5⟩ := hcut
            have ks5 := kst _ B5.out
            clear x0 x1 x2 y0 y1 y2 n1 n2 k0 k1 kst
            go_wp2_with (go_at_call 5; refine Calls.mono ks5 ?_; rintro e w5 ⟨rfl, n5, rfl⟩)
            go_roundw
            case rel => exact ⟨q + 1, by omega, by go_num, hide (below_drewN (B.out.trans (B5.out.mono zb)) _)⟩
            case measure => simp [intOf]; omega
        · obtain rfl : q = m := by omega
          go_wp2_with fail
          go_roundw
          case rel => exact ⟨k + 1, by omega, by go_num, K2⟩
          case measure => simp [intOf]; omega
    · obtain rfl : k = n := by omega
      go_wp2_with fail
      go_returns
      exact ⟨rfl, K.out.below⟩
end Go.Proofs.YtagahoelojfhcaaDoor
