/- The reference of layer 1: its faces: RootN, Root. -/
import Derived.Test.YthcgkpmlfbjagaaLawmuls
import Derived.Test.YthcgkpmlfbjagaaLdiv
import Derived.Test.YthcgkpmlfbjagaaWroot
import Derived.Test.YthcgkpmlfbjagaaWalive
import Derived.Deep.DeepCutAuto
namespace Go.Proofs.Ythcgkpmlfbjagaa
set_option linter.unusedVariables false
open Go.RowKit W Lb
/-- A box of a number's two cells. -/
structure NBox (w : World) (r : Nat) (b : Bool) (v : Value) : Prop where
  r0 : w.cell? ⟨r, 0, none⟩ = some (.bool b)
  r1 : w.cell? ⟨r, 1, none⟩ = some v
  g0 : w.frozen? ⟨r, 0, none⟩ = false
  g1 : w.frozen? ⟨r, 1, none⟩ = false
  sh : w.shape? r = some (57, 2)
  lt : r < w.heap.size
theorem NBox.later {w w' : World} {r : Nat} {b : Bool} {v : Value} (h : NBox w r b v) (k : Below w.heap.size w w') : NBox w' r b v :=
  ⟨(k.cell (p := ⟨r, 0, none⟩) h.lt).trans h.r0, (k.cell (p := ⟨r, 1, none⟩) h.lt).trans h.r1, (k.frozen (p := ⟨r, 0, none⟩) h.lt).trans h.g0, (k.frozen (p := ⟨r, 1, none⟩) h.lt).trans h.g1, (shape_later k h.lt).trans h.sh, Nat.lt_of_lt_of_le h.lt k.size⟩
theorem NBox.ne {w : World} {r q : Nat} {b : Bool} {v : Value} (h : NBox w r b v) (hq : r ≠ q) (i : Nat) (x : Value) : NBox (w.setCell ⟨q, i, none⟩ x) r b v := by
  have hb : (w.setCell ⟨q, i, none⟩ x).heap[r]? = w.heap[r]? := Below.heap_setCell w _ x r hq
  exact ⟨(World.cell?_of_block (w := w) hb).trans h.r0, (World.cell?_of_block (w := w) hb).trans h.r1, (World.frozen?_of_block (w := w) hb).trans h.g0, (World.frozen?_of_block (w := w) hb).trans h.g1, by rw [shape_set]; exact h.sh, by have := h.lt; simpa [World.setCell] using this⟩
/-- The state of the loop: m bits are left; R so far. -/
structure RootN (w wr : World) (s : Bool) (pa : Option Addr) (ca : Nat) (la : List Int) (A : Int) (m : Nat) (pr : Option Addr) (cr : Nat) (lr : List Int) (R : Int) : Prop where
  a : NBox wr w.heap.size s (.slice pa la.length ca)
  z : NBox wr (w.heap.size + 1) false (.slice none 0 0)
  r : NBox wr (w.heap.size + 1 + 1) false (.slice pr lr.length cr)
  na : IsNum wr s pa ca la A
  nr : IsNum wr false pr cr lr R
  mm : m ≤ 8 * la.length + 9
  lo : 0 ≤ R
  sq : R * R ≤ A
  up : A < (R + p2 m) * (R + p2 m)
  below : Below w.heap.size w wr
theorem p2_mono {m n : Nat} (h : m ≤ n) : p2 m ≤ p2 n := by
  obtain ⟨k, rfl⟩ := Nat.exists_eq_add_of_le h
  rw [p2_add]
  have a := p2_pos m; have b := p2_pos k
  have : p2 m * 1 ≤ p2 m * p2 k := Int.mul_le_mul_of_nonneg_left (by omega) (by omega)
  omega
theorem few_root {a R p : Int} {l : List Int} (r0 : 0 ≤ R) (h : R * R ≤ a) (e : val l = a) (o : Ok l) (hl : l.length ≤ 17) (p0 : 0 < p) (hp : p ≤ p2 150) : Lb.ab (R + p) < pw 18 := by
  have a1 := val_lt' o hl
  have e17 : pw 17 = p2 272 := by rw [← p2_pw]
  have e18 : pw 18 = p2 288 := by rw [← p2_pw]
  have r1 : R < p2 136 := by
    apply Decidable.byContradiction; intro g
    have : p2 136 * p2 136 ≤ R * R := Int.mul_le_mul (by omega) (by omega) (Int.le_of_lt (p2_pos _)) r0
    have : p2 136 * p2 136 = p2 272 := by rw [← p2_add]
    omega
  have e136 := p2_mono (show 136 ≤ 150 by decide)
  have e151 : p2 151 = 2 * p2 150 := rfl
  have e288 := p2_mono (show 151 ≤ 288 by decide)
  unfold Lb.ab; split <;> omega
theorem few_sq {a R p : Int} {l : List Int} (r0 : 0 ≤ R) (h : R * R ≤ a) (e : val l = a) (o : Ok l) (hl : l.length ≤ 17) (p0 : 0 < p) (hp : p ≤ p2 150) : Lb.ab ((R + p) * (R + p)) < pw 38 := by
  have f := few_root r0 h e o hl p0 hp
  have e1 : Lb.ab (R + p) = R + p := by unfold Lb.ab; rw [if_neg (by omega)]
  rw [e1] at f
  have q := prod_lt (show 0 ≤ R + p by omega) (show 0 ≤ R + p by omega) f f
  have m := pw_mono (show 18 + 18 + 1 ≤ 38 by decide)
  have n := Int.mul_nonneg (show 0 ≤ R + p by omega) (show 0 ≤ R + p by omega)
  unfold Lb.ab; rw [if_neg (by omega)]; omega
theorem num_pos {w : World} {p : Option Addr} {c : Nat} {l : List Int} {z : Int} (L : Limbs w (.slice p l.length c) l) (M : Mag l z) (h : 0 ≤ z) : IsNum w false p c l z := by
  refine ⟨?_, L, ?_⟩
  · rw [decide_eq_false (by omega)]
  · have e : Lb.ab z = z := by unfold Lb.ab; rw [if_neg (by omega)]
    rw [e]; exact M
theorem limbs_bit (w : World) (n i : Nat) (x : Int) (hm : n ≤ maxLen) : Limbs (w.alloc (.cells ((madeCells #[.int .u32 0] n).setIfInBounds i (.int .u32 x)) 88)) (.slice (some ⟨w.heap.size, 0, none⟩) n n) ((List.replicate n 0).set i x) := by
  have := World.ownsRow_lit (size := 1) (e := 88) w ((madeCells #[.int .u32 0] n).setIfInBounds i (.int .u32 x)) n (Nat.le_refl _) hm (by simp [size_madeCells])
  rw [Array.toList_setIfInBounds, toList_madeCells_one] at this
  refine (Limbs.of_own (base := w.heap.size) (n := n) ?_).1
  rw [List.map_set, List.map_replicate]; exact this
theorem root_cmp {x y : Int} : (cmpI x y ≤ 0) ↔ x ≤ y := by unfold cmpI; split <;> (try split) <;> omega
theorem root_up {A R : Int} {k : Nat} (h : A < (R + p2 (k + 1)) * (R + p2 (k + 1))) : A < (R + p2 k + p2 k) * (R + p2 k + p2 k) := by
  have e : R + p2 k + p2 k = R + p2 (k + 1) := by show _ = R + 2 * p2 k; omega
  rw [e]; exact h
theorem root_next {w v : World} {s : Bool} {pa pr p1 : Option Addr} {ca cr c1 : Nat} {la lr l1 : List Int} {A T : Int} {k : Nat} (ha : NBox v w.heap.size s (.slice pa la.length ca)) (hz : NBox v (w.heap.size + 1) false (.slice none 0 0)) (hr : NBox v (w.heap.size + 1 + 1) false (.slice pr lr.length cr))
    (na : IsNum v s pa ca la A) (nt : IsNum v false p1 c1 l1 T) (bl : Below w.heap.size w v) (mm : k ≤ 8 * la.length + 9) (t0 : 0 ≤ T) (sq : T * T ≤ A) (up : A < (T + p2 k) * (T + p2 k)) :
    RootN w ((v.setCell ⟨w.heap.size + 1 + 1, 0, none⟩ (.bool false)).setCell ⟨w.heap.size + 1 + 1, 1, none⟩ (.slice p1 l1.length c1)) s pa ca la A k p1 c1 l1 T := by
  obtain ⟨q0, q1, q2, q3, q4, q5⟩ := hr
  have ne : (57 : TypeId) ≠ 88 := by decide
  refine ⟨(ha.ne (by omega) _ _).ne (by omega) _ _, (hz.ne (by omega) _ _).ne (by omega) _ _, ⟨?_, ?_, ?_, ?_, ?_, ?_⟩, (na.set q4 ne _).set (by rw [shape_set]; exact q4) ne _, (nt.set q4 ne _).set (by rw [shape_set]; exact q4) ne _, mm, t0, sq, up, (bl.setCell (by show w.heap.size ≤ w.heap.size + 1 + 1; omega) _).setCell (by show w.heap.size ≤ w.heap.size + 1 + 1; omega) _⟩
  · simp [go_sem, q0, q5]
  · refine World.cell?_setCell_same' _ _ _ ?_; simp [go_sem, q1]
  · simp [go_sem, q2]
  · simp [go_sem, q3]
  · rw [shape_set, shape_set]; exact q4
  · simpa [World.setCell] using q5
set_option maxRecDepth 100000 in
set_option maxHeartbeats 8000000 in
theorem rootN_spec (s : Bool) (pa : Option Addr) (ca : Nat) (la : List Int) (A : Int) (w : World) (H : IsNum w s pa ca la A) (a0 : 0 ≤ A) (hl : la.length ≤ 17) :
    Calls Try.prog 58 #[.agg #[.bool s, .slice pa la.length ca]] w fun e w' => ∃ R, NumPost w R e w' ∧ 0 ≤ R ∧ R * R ≤ A ∧ A < (R + 1) * (R + 1) := by
  have HH := hide H
  have eA : Lb.ab A = A := by unfold Lb.ab; rw [if_neg (by omega)]
  have st := root_start la H.mag.ok
  rw [H.mag.val, eA] at st
  have ST := hide st
  have A0 := hide a0
  have VA : Hid (val la = A ∧ Ok la) := ⟨by rw [H.mag.val, eA], H.mag.ok⟩
  clear H st eA a0
  go_enter Try.func58, Try.ntmps58
  go_wp2_with fail
  go_loopw [4] (fun i wr => ∃ (m : Nat) (pr : Option Addr) (cr : Nat) (lr : List Int) (R : Int), i = .int .i64 ((m : Int) - 1) ∧ RootN w wr s pa ca la A m pr cr lr R) (fun i _ => (intOf i + 1).toNat)
  case atStart =>
    refine ⟨8 * la.length + 9, none, 0, [], 0, by go_num, ⟨?_, ?_, ?_, ?_, ?_, ?_⟩, ⟨?_, ?_, ?_, ?_, ?_, ?_⟩, ⟨?_, ?_, ?_, ?_, ?_, ?_⟩, HH.out.later ?_, isNum_zero _, by omega, by omega, by have := A0.out; omega, ST.out, ?_⟩
    all_goals first | (go_grown; done) | (refine shape_top _ _ _ _ ?_; (first | rfl | (simp; done)); done) | (refine (shape_old _ _ ?_).trans (shape_top _ _ _ _ ?_) <;> first | rfl | (simp; done) | (simp; omega)) | (refine (shape_old _ _ ?_).trans ((shape_old _ _ ?_).trans (shape_top _ _ _ _ ?_)) <;> first | rfl | (simp; done) | (simp; omega)) | (simp [go_sem]; done) | (simp; done) | (simp; omega)
  case round =>
    obtain ⟨m, pr, cr, lr, R, rfl, inv⟩ := hrel
    have I := hide inv
    clear inv
    rcases m with _ | k
    · have e0 : ((0 : Nat) : Int) - 1 = -1 := by omega
      rw [e0]
      clear e0
      obtain ⟨q0, q1, q2, q3, q4, q5⟩ := I.out.r
      obtain ⟨z0, z1, z2, z3, z4, z5⟩ := I.out.z
      have F := hide (num_end I.out.nr I.out.below z4 (by omega))
      have FR : Hid (0 ≤ R ∧ R * R ≤ A ∧ A < (R + 1) * (R + 1)) := ⟨I.out.lo, I.out.sq, I.out.up⟩
      clear I q4 z4
      go_wp2_with fail
      refine bodyPost_ret (by simp [results, Try.results58, go_sem, q0, q1, z0, z1, z2, z3, z5, q5]; try rfl) rfl ?_
      exact ⟨R, F.out _ _, FR.out⟩
    · have ei : ((k + 1 : Nat) : Int) - 1 = k := by omega
      rw [ei]
      clear ei
      have mm := I.out.mm
      obtain ⟨n, hn⟩ : ∃ n, n = k / 16 + 1 := ⟨_, rfl⟩
      have en : (k : Int) / 16 + 1 = n := by omega
      have kn : k / 16 < n := by omega
      have n1 : n ≤ 20 := by omega
      have hmk := run_make_row' (P := Try.prog) 55 88 (.int .u32 0) 4 Try.underlying55 info_u32 rfl .i64 .i64 n (by omega) (by omega)
      have ep : p2 (k % 16) = 2 ^ (k % 16) := p2_pow _
      have pl := p2_le (k % 16) (by omega)
      have pp := p2_pos (k % 16)
      have RW := hide (limbs_bit wr n (k / 16) (p2 (k % 16)) (by unfold maxLen; omega))
      have OB := hide (ok_set (show Ok (List.replicate n 0) by intro y hy; have := List.eq_of_mem_replicate hy; subst this; exact ⟨by omega, by omega⟩) (k / 16) (x := p2 (k % 16)) (by omega) (by omega))
      have hc0 : (madeCells #[Value.int .u32 0] n)[k / 16]? = some (.int .u32 0) := by rw [← Array.getElem?_toList, toList_madeCells_one]; simp [List.getElem?_replicate, kn]
      obtain ⟨x, hx⟩ : ∃ x, x = p2 (k % 16) := ⟨_, rfl⟩
      have j1 : (2 : Int) ^ (k % 16) = x := by rw [← ep, hx]
      have j2 : IntKind.u32.wrap (2 ^ (k % 16)) = x := by rw [j1, IntKind.wrap_u32]; omega
      have j3 : x % 4294967296 = x := by omega
      have ks : k % 16 < 32 := by omega
      have BV : Hid (val ((List.replicate n 0).set (k / 16) (p2 (k % 16))) = p2 k) := by
        show _ = _
        rw [val_set _ _ (by simp; omega), val_rep, ← p2_pw]
        have : (List.replicate n (0 : Int)).getD (k / 16) 0 = 0 := by simp [List.getD_eq_getElem?_getD, List.getElem?_replicate]; split <;> rfl
        rw [this, Int.zero_add, Int.sub_zero, ← p2_add]; congr 1; omega
      rw [← hx] at RW BV OB
      obtain ⟨q0, q1, q2, q3, q4, q5⟩ := I.out.r
      clear hx ep pl pp hn
      go_upto_region 7 with (fail)
      clear hmk hc0 j1 j2 j3
      refine abs_wp (fun W => Limbs W (.slice (some ⟨wr.heap.size, 0, none⟩) n n) ((List.replicate n 0).set (k / 16) x) ∧ Hid (Below wr.heap.size wr W)) ?_ ?_
      · exact ⟨RW.out, (Below.refl _ _).alloc (Nat.le_refl _) _⟩
      rintro W ⟨LB, BW⟩
      clear RW
      have J := hide (And.intro (I.out.a.later BW.out) (And.intro (I.out.z.later BW.out) (And.intro (I.out.r.later BW.out) (And.intro (I.out.na.later BW.out) (And.intro (I.out.nr.later BW.out) (I.out.below.trans (BW.out.mono I.out.below.size)))))))
      have P := hide (And.intro I.out.lo (And.intro I.out.sq I.out.up))
      clear I BW q0 q1 q2 q3 q4 q5
      obtain ⟨q0, q1, q2, q3, q4, q5⟩ := J.out.2.2.1
      have lenR : lr.length ≤ 18 := by
        have := few_root (p := 1) P.out.1 P.out.2.1 VA.out.1 VA.out.2 hl (by omega) (by have := p2_pos 150; omega)
        have h2 : Lb.ab R < pw 18 := by have := P.out.1; unfold Lb.ab at *; split <;> (try split at this) <;> omega
        exact J.out.2.2.2.2.1.few 18 h2
      have ka := addL_spec (.slice pr lr.length cr) (.slice (some ⟨wr.heap.size, 0, none⟩) n n) lr _ W J.out.2.2.2.2.1.lim LB J.out.2.2.2.2.1.mag.ok OB.out (by omega) (by simp; omega)
      rw [J.out.2.2.2.2.1.mag.val, BV.out] at ka
      have eR : Lb.ab R = R := by have := P.out.1; unfold Lb.ab; rw [if_neg (by omega)]
      rw [eR] at ka
      clear LB OB BV eR
      go_wp2_with fail
      refine ka.mono ?_
      clear ka
      rintro e w1 ⟨v1, l1, rfl, L1, M1, h1, f1⟩
      obtain ⟨p1, c1, rfl⟩ := L1.form
      have T0 : 0 ≤ R + p2 k := by have := P.out.1; have := p2_pos k; omega
      have NT : IsNum w1 false p1 c1 l1 (R + p2 k) := num_pos L1 M1 T0
      have lenT : l1.length ≤ 18 := NT.few 18 (few_root P.out.1 P.out.2.1 VA.out.1 VA.out.2 hl (p2_pos k) (p2_mono (by omega)))
      have J1 := hide (And.intro (J.out.1.later h1) (And.intro (J.out.2.1.later h1) (And.intro (J.out.2.2.1.later h1) (And.intro (J.out.2.2.2.1.later h1) (And.intro (J.out.2.2.2.2.1.later h1) (J.out.2.2.2.2.2.trans (h1.mono J.out.2.2.2.2.2.size)))))))
      have NTH := hide NT
      clear J L1 M1 h1 f1 NT q0 q1 q2 q3 q4 q5 lenR T0
      obtain ⟨a0', a1', a2', a3', a4', a5'⟩ := J1.out.1
      obtain ⟨q0, q1, q2, q3, q4, q5⟩ := J1.out.2.2.1
      go_upto_region 8 with (fail)
      refine abs_wp (fun W => NBox W w1.heap.size false (.slice p1 l1.length c1) ∧ Hid (Below w1.heap.size w1 W)) ?_ ?_
      · refine ⟨⟨?_, ?_, ?_, ?_, ?_, ?_⟩, (by show Below _ _ _; go_grown)⟩
        all_goals first | (refine shape_top _ _ _ _ ?_; (first | rfl | (simp; done)); done) | (simp [go_sem]; done) | (simp; done)
      rintro W2 ⟨TB, BW⟩
      clear a0' a1' a2' a3' a4' a5' q0 q1 q2 q3 q4 q5
      have lt1 := TB.lt
      have J2 := hide (And.intro (J1.out.1.later BW.out) (And.intro (J1.out.2.1.later BW.out) (And.intro (J1.out.2.2.1.later BW.out) (And.intro (J1.out.2.2.2.1.later BW.out) (And.intro (J1.out.2.2.2.2.1.later BW.out) (And.intro (J1.out.2.2.2.2.2.trans (BW.out.mono J1.out.2.2.2.2.2.size)) (NTH.out.later BW.out)))))))
      have lt2 := J1.out.2.2.1.lt
      clear J1 BW NTH
      obtain ⟨x0, x1, x2, x3, x4, x5⟩ := J2.out.1
      have TBH := hide TB
      have NRH := hide J2.out.2.2.2.2.1
      obtain ⟨t0, t1, t2, t3, t4, t5⟩ := TB
      have KMU := fun w' (K : Keeps W2.heap.size W2 w') => mulN_spec false false p1 p1 c1 c1 l1 l1 (R + p2 k) (R + p2 k) w' (J2.out.2.2.2.2.2.2.later K.below) (J2.out.2.2.2.2.2.2.later K.below) (by omega) (by omega)
      have few := few_sq P.out.1 P.out.2.1 VA.out.1 VA.out.2 hl (p2_pos k) (p2_mono (show k ≤ 150 by omega))
      have KCM := fun (sx : Bool) (px : Option Addr) (cx : Nat) (lx : List Int) (w' : World) (K : Keeps W2.heap.size W2 w') (N : IsNum w' sx px cx lx ((R + p2 k) * (R + p2 k))) => cmpN_spec sx s px pa cx ca lx la _ A w' N (J2.out.2.2.2.1.later K.below) (by have := N.few 38 few; omega) (by omega)
      obtain ⟨d, hd⟩ : ∃ d, d = cmpI ((R + p2 k) * (R + p2 k)) A := ⟨_, rfl⟩
      rw [← hd] at KCM
      have HD := hide hd
      clear hd few
      have K0 := Keeps.start (Nat.le_refl W2.heap.size)
      have K1 := K0.drew
      have y1 : w.heap.size < W2.heap.size := x5
      have y2 : w1.heap.size < W2.heap.size := t5
      by_cases hle : d ≤ 0
      · go_region_held3 (fun w' => w'.cell? ⟨w1.heap.size, 0, none⟩ = some (.bool false) ∧ w'.cell? ⟨w1.heap.size, 1, none⟩ = some (.slice p1 l1.length c1) ∧ w'.cell? ⟨w.heap.size, 0, none⟩ = some (.bool s) ∧ w'.cell? ⟨w.heap.size, 1, none⟩ = some (.slice pa la.length ca) ∧ Keeps W2.heap.size W2 w') ((refine (fun K => ⟨Keeps.cell K t0 y2, Keeps.cell K t1 y2, Keeps.cell K x0 y1, Keeps.cell K x1 y1, K⟩) (?_ : Keeps W2.heap.size W2 _); (repeat (first | assumption | refine Keeps.alloc ?_ _ | refine Keeps.drew ?_ | refine Keeps.setCell ?_ (by first | (simp; done) | omega | (simp; omega)) _))))
          (first
          | (go_at_call 51; (with_reducible refine (KMU _ (by repeat (first | assumption | refine Keeps.alloc ?_ _ | refine Keeps.drew ?_ | refine Keeps.setCell ?_ (by first | (simp; done) | omega | (simp; omega)) _))).mono ?_); rintro e v20 ⟨sx, px, cx, lx, rfl, NX, hb20⟩; have K20 := Keeps.call (B := W2.heap.size) (W := W2) (by repeat (first | assumption | refine Keeps.alloc ?_ _ | refine Keeps.drew ?_ | refine Keeps.setCell ?_ (by first | (simp; done) | omega | (simp; omega)) _)) hb20)
          | (go_at_call 46; (with_reducible refine (KCM _ _ _ _ _ (by repeat (first | assumption | refine Keeps.alloc ?_ _ | refine Keeps.drew ?_ | refine Keeps.setCell ?_ (by first | (simp; done) | omega | (simp; omega)) _)) (NX.later (by repeat (first | exact Below.refl _ _ | assumption | refine Below.setCell ?_ (by first | (simp; done) | omega | (simp; omega)) _ | refine Below.drew ?_ | refine below_drewN ?_ _ | refine Below.alloc ?_ (by first | (simp; done) | omega | (simp; omega)) _)))).mono ?_); rintro e v21 ⟨rfl, hb21⟩; have K21 := Keeps.call (B := W2.heap.size) (W := W2) (by repeat (first | assumption | refine Keeps.alloc ?_ _ | refine Keeps.drew ?_ | refine Keeps.setCell ?_ (by first | (simp; done) | omega | (simp; omega)) _)) hb21))
        all_goals
          have KZ := hide (And.intro (J2.out.1.later K21.below) (And.intro (J2.out.2.1.later K21.below) (And.intro (J2.out.2.2.1.later K21.below) (And.intro (J2.out.2.2.2.1.later K21.below) (And.intro (J2.out.2.2.2.2.2.2.later K21.below) (J2.out.2.2.2.2.2.1.trans (K21.below.mono J2.out.2.2.2.2.2.1.size)))))))
          have T1 := hide (TBH.out.later K21.below)
          obtain ⟨t0', t1', t2', t3', t4', t5'⟩ := TBH.out.later K21.below
          obtain ⟨q0, q1, q2, q3, q4, q5⟩ := KZ.out.2.2.1
          have SQ : Hid ((R + p2 k) * (R + p2 k) ≤ A) := root_cmp.1 (by rw [← HD.out]; exact hle)
          have FIN := hide (root_next (w := w) (k := k) KZ.out.1 KZ.out.2.1 KZ.out.2.2.1 KZ.out.2.2.2.1 KZ.out.2.2.2.2.1 KZ.out.2.2.2.2.2 (by omega) (by have := P.out.1; have := p2_pos k; omega) SQ.out (root_up P.out.2.2))
          clear K20 K21 KZ J2 KMU KCM HD NX T1 TBH P VA x0 x1 x2 x3 x4 x5 t0 t1 t2 t3 t4 t5 SQ q4 t4'
          go_wp2_with fail
          go_roundw
          case rel => exact ⟨k, _, _, _, _, by go_num, FIN.out⟩
          case measure => simp [intOf]
      · go_region_held3 (fun w' => w'.cell? ⟨w1.heap.size, 0, none⟩ = some (.bool false) ∧ w'.cell? ⟨w1.heap.size, 1, none⟩ = some (.slice p1 l1.length c1) ∧ w'.cell? ⟨w.heap.size, 0, none⟩ = some (.bool s) ∧ w'.cell? ⟨w.heap.size, 1, none⟩ = some (.slice pa la.length ca) ∧ Keeps W2.heap.size W2 w') ((refine (fun K => ⟨Keeps.cell K t0 y2, Keeps.cell K t1 y2, Keeps.cell K x0 y1, Keeps.cell K x1 y1, K⟩) (?_ : Keeps W2.heap.size W2 _); (repeat (first | assumption | refine Keeps.alloc ?_ _ | refine Keeps.drew ?_ | refine Keeps.setCell ?_ (by first | (simp; done) | omega | (simp; omega)) _))))
          (first
          | (go_at_call 51; (with_reducible refine (KMU _ (by repeat (first | assumption | refine Keeps.alloc ?_ _ | refine Keeps.drew ?_ | refine Keeps.setCell ?_ (by first | (simp; done) | omega | (simp; omega)) _))).mono ?_); rintro e v20 ⟨sx, px, cx, lx, rfl, NX, hb20⟩; have K20 := Keeps.call (B := W2.heap.size) (W := W2) (by repeat (first | assumption | refine Keeps.alloc ?_ _ | refine Keeps.drew ?_ | refine Keeps.setCell ?_ (by first | (simp; done) | omega | (simp; omega)) _)) hb20)
          | (go_at_call 46; (with_reducible refine (KCM _ _ _ _ _ (by repeat (first | assumption | refine Keeps.alloc ?_ _ | refine Keeps.drew ?_ | refine Keeps.setCell ?_ (by first | (simp; done) | omega | (simp; omega)) _)) (NX.later (by repeat (first | exact Below.refl _ _ | assumption | refine Below.setCell ?_ (by first | (simp; done) | omega | (simp; omega)) _ | refine Below.drew ?_ | refine below_drewN ?_ _ | refine Below.alloc ?_ (by first | (simp; done) | omega | (simp; omega)) _)))).mono ?_); rintro e v21 ⟨rfl, hb21⟩; have K21 := Keeps.call (B := W2.heap.size) (W := W2) (by repeat (first | assumption | refine Keeps.alloc ?_ _ | refine Keeps.drew ?_ | refine Keeps.setCell ?_ (by first | (simp; done) | omega | (simp; omega)) _)) hb21))
        all_goals
          have KZ := hide (And.intro (J2.out.1.later K21.below) (And.intro (J2.out.2.1.later K21.below) (And.intro (J2.out.2.2.1.later K21.below) (And.intro (J2.out.2.2.2.1.later K21.below) (And.intro (J2.out.2.2.2.2.2.2.later K21.below) (J2.out.2.2.2.2.2.1.trans (K21.below.mono J2.out.2.2.2.2.2.1.size)))))))
          have SQ : Hid (A < (R + p2 k) * (R + p2 k)) := by have := mt root_cmp.2 (by rw [← HD.out]; omega); show _ < _; omega
          have FIN : Hid (RootN w v21 s pa ca la A k pr cr lr R) := ⟨KZ.out.1, KZ.out.2.1, KZ.out.2.2.1, KZ.out.2.2.2.1, NRH.out.later K21.below, by omega, P.out.1, P.out.2.1, SQ.out, KZ.out.2.2.2.2.2⟩
          clear K20 K21 KZ J2 KMU KCM HD NX TBH P VA x0 x1 x2 x3 x4 x5 t0 t1 t2 t3 t4 t5 SQ
          go_wp2_with fail
          go_roundw
          case rel => exact ⟨k, _, _, _, _, by go_num, FIN.out⟩
          case measure => simp [intOf]
set_option maxRecDepth 100000 in
set_option maxHeartbeats 4000000 in
theorem rroot_pos (a b x : Int) (ia : IsW (a, b)) (n : ¬ a < 0) (hx : 0 ≤ x) (h1 : x * x ≤ V a b) (h2 : V a b < (x + 1) * (x + 1)) (w : World) :
    Calls Try.prog 37 #[.agg #[.int .i64 a, .int .u64 b]] w fun e w' => e = sumRes x ∧ Below w.heap.size w w' := by
  have kfa := from_spec a b ia
  have fa := isW_fits ia
  have v0 : Hid (0 ≤ V a b) := by show 0 ≤ V a b; obtain ⟨⟨_, _⟩, _, _⟩ := ia; unfold V; omega
  have UQ : Hid (∀ R, 0 ≤ R ∧ R * R ≤ V a b ∧ V a b < (R + 1) * (R + 1) → R = x) := fun R h => root_uniq h.1 hx h.2.1 h.2.2 h1 h2
  have FX : Hid (Fits x) := by
    obtain ⟨c, d⟩ := fa
    refine ⟨by omega, ?_⟩
    apply Decidable.byContradiction; intro g
    have : 170141183460469231731687303715884105728 * 170141183460469231731687303715884105728 ≤ x * x := Int.mul_le_mul (by omega) (by omega) (by omega) hx
    omega
  clear h1 h2 hx
  go_enter Try.func37, Try.ntmps37
  go_wp2_with fail
  refine (kfa _).mono ?_
  rintro e w1 ⟨s0, p0, q0, l0, rfl, N0, hb1⟩
  have B1 : Below w.heap.size w w1 := Below.trans (by repeat (first | exact Below.refl _ _ | assumption | refine Below.setCell ?_ (by first | (simp; done) | omega | (simp; omega)) _ | refine Below.drew ?_ | refine below_drewN ?_ _ | refine Below.alloc ?_ (by first | (simp; done) | omega | (simp; omega)) _)) (hb1.mono (by first | (simp; done) | omega | (simp; omega)))
  obtain ⟨r0, g0, zr⟩ := live (.int .i64 0) hb1 (w.heap.size + 1) 0 (by first | (simp; done) | omega | (simp; omega)) (by simp [go_sem]) (by simp [go_sem])
  obtain ⟨r1, g1, zr⟩ := live (.int .u64 0) hb1 (w.heap.size + 1) 1 (by first | (simp; done) | omega | (simp; omega)) (by simp [go_sem]) (by simp [go_sem])
  have zR := Nat.lt_of_lt_of_le (Nat.lt_succ_self w.heap.size) (show w.heap.size + 1 ≤ w1.heap.size by omega)
  have K1 := Keeps.start (Nat.le_refl w1.heap.size)
  have L0 := N0.few 9 (few_fits fa)
  go_wp2_with fail
  refine (rootN_spec _ _ _ _ _ _ N0 v0.out (by omega)).mono ?_
  rintro e w2 ⟨R, ⟨s1, p1, q1, l1, rfl, N1, hb2⟩, hR⟩
  have K2 := Keeps.call (B := w1.heap.size) (W := w1) (by repeat (first | assumption | refine Keeps.alloc ?_ _ | refine Keeps.drew ?_ | refine Keeps.setCell ?_ (by first | (simp; done) | omega | (simp; omega)) _)) hb2
  obtain rfl := UQ.out R hR
  have L1 := N1.few 9 (few_fits FX.out)
  go_wp2_with fail
  refine (over_spec _ _ _ _ _ _ N1 (by omega)).mono ?_
  rintro e w3 ⟨rfl, hb3⟩
  have K3 := Keeps.call (B := w1.heap.size) (W := w1) (by repeat (first | assumption | refine Keeps.alloc ?_ _ | refine Keeps.drew ?_ | refine Keeps.setCell ?_ (by first | (simp; done) | omega | (simp; omega)) _)) hb3
  have rr0 := K3.cell r0 zr
  have gg0 := K3.free g0 zr
  have rr1 := K3.cell r1 zr
  have gg1 := K3.free g1 zr
  have zz : w.heap.size + 1 < w3.heap.size := by have := K3.size; omega
  have BE : Below w.heap.size w w3 := B1.trans (K3.below.mono B1.size)
  clear hb1 hb2 hb3
  go_wp2_with fail
  refine bodyPost_ret (by simp [results, Try.results37, go_sem, rr0, gg0, rr1, gg1, zz]; try rfl) rfl ?_
  refine ⟨rfl, ?_⟩
  repeat (first | exact Below.refl _ _ | assumption | refine Below.setCell ?_ (by first | (simp; done) | omega | (simp; omega)) _ | refine Below.drew ?_ | refine below_drewN ?_ _ | refine Below.alloc ?_ (by first | (simp; done) | omega | (simp; omega)) _)
theorem rroot_neg (a b : Int) (n : a < 0) (w : World) :
    Calls Try.prog 37 #[.agg #[.int .i64 a, .int .u64 b]] w fun e w' => e = .returned (.tuple #[.agg #[.int .i64 0, .int .u64 0], .int .i64 13]) ∧ Below w.heap.size w w' := by
  go_enter Try.func37, Try.ntmps37
  go_wp2_with fail
  go_returns
  exact ⟨rfl, by go_grown⟩
set_option maxHeartbeats 4000000 in
theorem roots_walk (a b x1 x0 er : Int)
    (k0 : ∀ w, Calls Try.prog 25 #[] w fun e w' => e = .returned (.bool true) ∧ Below w.heap.size w w')
    (k1 : ∀ w, Calls Try.prog 36 #[.agg #[.int .i64 a, .int .u64 b]] w fun e w' => e = .returned (.tuple #[.agg #[.int .i64 x1, .int .u64 x0], .int .i64 er]) ∧ Below w.heap.size w w')
    (k2 : ∀ w, Calls Try.prog 37 #[.agg #[.int .i64 a, .int .u64 b]] w fun e w' => e = .returned (.tuple #[.agg #[.int .i64 x1, .int .u64 x0], .int .i64 er]) ∧ Below w.heap.size w w')
    (w : World) : Calls Try.prog 8 #[.agg #[.int .i64 a, .int .u64 b]] w fun e w' => e = .returned (.bool true) ∧ Below w.heap.size w w' := by
  go_enter Try.func8, Try.ntmps8
  go_wp2_with fail
  refine (k1 _).mono ?_
  rintro e w1 ⟨rfl, h1⟩
  have B1 : Below w.heap.size w w1 := Below.trans (by go_grown) (h1.mono (by first | (simp; done) | omega | (simp; omega)))
  have y1 := B1.size
  have A0 := box2 h1 (w.heap.size) (.int .i64 a) (.int .u64 b) (by first | assumption | (simp [go_sem]; done) | (simp [go_sem]; done)) (by first | assumption | (simp [go_sem]; done) | (simp [go_sem]; done)) (by first | assumption | (simp [go_sem]; done) | (simp [go_sem]; done)) (by first | assumption | (simp [go_sem]; done) | (simp [go_sem]; done)) (by first | assumption | omega | (simp; done) | (simp; omega))
  obtain ⟨A0c0, A0c1, A0f0, A0f1, A0z⟩ := A0
  clear h1 k1
  go_wp2_with fail
  refine (k2 _).mono ?_
  rintro e w2 ⟨rfl, h2⟩
  have B2 : Below w.heap.size w w2 := Below.trans (by go_grown) (h2.mono (by first | (simp; done) | omega | (simp; omega)))
  have y2 := B2.size
  have B0 := box2 h2 (w1.heap.size) (.int .i64 x1) (.int .u64 x0) (by first | assumption | (simp [go_sem]; done) | (simp [go_sem, A0c0, A0c1, A0f0, A0f1, A0z]; done)) (by first | assumption | (simp [go_sem]; done) | (simp [go_sem, A0c0, A0c1, A0f0, A0f1, A0z]; done)) (by first | assumption | (simp [go_sem]; done) | (simp [go_sem, A0c0, A0c1, A0f0, A0f1, A0z]; done)) (by first | assumption | (simp [go_sem]; done) | (simp [go_sem, A0c0, A0c1, A0f0, A0f1, A0z]; done)) (by first | assumption | omega | (simp; done) | (simp; omega))
  clear A0c0 A0c1 A0f0 A0f1 A0z
  obtain ⟨B0c0, B0c1, B0f0, B0f1, B0z⟩ := B0
  clear h2 k2 B1
  go_wp2_with fail
  refine (k0 _).mono ?_
  rintro e w3 ⟨rfl, h3⟩
  have B3 : Below w.heap.size w w3 := Below.trans (by go_grown) (h3.mono (by first | (simp; done) | omega | (simp; omega)))
  have y3 := B3.size
  clear B0c0 B0c1 B0f0 B0f1 B0z
  clear h3 k0 B2
  go_wp2_with fail
  go_returns
  exact ⟨rfl, by go_grown⟩
theorem V_zero (x : Int) : V 0 x = x := by unfold V; omega
theorem root_ex (m : Int) (a : 0 ≤ m) (b : m < 340282366920938463463374607431768211456) : ∃ r, RootAt m r 0 := by
  have go : ∀ (k : Nat) (r : Int), RootAt m r k → ∃ r, RootAt m r 0 := by
    intro k
    induction k with
    | zero => exact fun r h => ⟨r, h⟩
    | succ k ih =>
      intro r h
      by_cases s : (r + 2 ^ k) * (r + 2 ^ k) ≤ m
      · exact ih _ (h.yes s)
      · exact ih _ (h.no (by omega))
  exact go 64 0 (RootAt.start m a b)
theorem root_le {m r q : Int} (h : RootAt m r 0) (g : RootAt m q 0) : r ≤ q := by
  obtain ⟨_, a, _, _, s, _⟩ := h
  obtain ⟨_, b, _, _, _, u⟩ := g
  rw [Int.pow_zero] at u
  by_cases l : r ≤ q
  · exact l
  · have : (q + 1) * (q + 1) ≤ r * r := Int.mul_le_mul (by omega) (by omega) (by omega) a
    omega
theorem law_WideRoots (a0 b0 : Int) (wa0 : (Lit.int .i64 a0).wf = true) (wb0 : (Lit.int .u64 b0).wf = true) (w : World) :
    Calls Try.prog 8 #[.agg #[.int .i64 a0, .int .u64 b0]] w fun e w' => e = .returned (.bool true) ∧ Below w.heap.size w w' := by
  have i : IsW (a0, b0) := ⟨hi_of_wf wa0, lo_of_wf wb0⟩
  have fa : Fits (V a0 b0) := fits_V i.a i.b
  have ks := sign_spec a0 b0 i.b
  have ka := amount_spec a0 b0 i.b i.a
  have ib := i.b
  have ia := i.a
  by_cases n : a0 < 0
  · have vn : V a0 b0 < 0 := by obtain ⟨_, _⟩ := ib; obtain ⟨_, _⟩ := ia; unfold V; omega
    have c := cmp_lt vn
    rw [c] at ks
    exact roots_walk a0 b0 _ _ _ alive_ok (root_neg a0 b0 _ (by omega) ks) (rroot_neg a0 b0 n) w
  · have vn : ¬ V a0 b0 < 0 := by obtain ⟨_, _⟩ := ib; obtain ⟨_, _⟩ := ia; unfold V; omega
    have c0 : ¬ cmpI (V a0 b0) 0 < 0 := by rcases cmp_cases (V a0 b0) 0 with ⟨h, e⟩ | ⟨h, e⟩ | ⟨h, e⟩ <;> omega
    have ea : W.ab (V a0 b0) = V a0 b0 := by unfold W.ab; rw [if_neg vn]
    have a1 := fa.b
    obtain ⟨x, rx⟩ := root_ex (V a0 b0) (by omega) (by omega)
    have kR : ∀ w, Calls Try.prog 36 #[.agg #[.int .i64 a0, .int .u64 b0]] w fun e w' => e = .returned (.tuple #[.agg #[.int .i64 0, .int .u64 x], .int .i64 0]) ∧ Below w.heap.size w w' := fun w => by
      refine (root_pos a0 b0 _ _ _ _ c0 (lo_ab fa) (isLo_lo _) ks ka w).mono ?_
      rintro e w' ⟨⟨r, rfl, hr⟩, hb⟩
      rw [V_hi_lo, ea] at hr
      have e1 : r = x := Int.le_antisymm (root_le hr rx) (root_le rx hr)
      rw [e1]
      exact ⟨rfl, hb⟩
    obtain ⟨_, x0, x1, _, sq, up⟩ := rx
    rw [Int.pow_zero] at x1 up
    have fx : Fits x := ⟨by omega, by omega⟩
    have kr := fun w => rroot_pos a0 b0 x i n x0 sq up w
    unfold sumRes at kr
    rw [resV_fits fx, resE_fits fx, show hi x = 0 by unfold hi; omega, show lo x = x by unfold lo; omega] at kr
    exact roots_walk a0 b0 _ _ _ alive_ok kR kr w
end Go.Proofs.Ythcgkpmlfbjagaa
