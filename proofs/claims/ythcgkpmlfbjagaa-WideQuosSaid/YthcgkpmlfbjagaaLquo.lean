/- The reference of layer 1: its faces: QuoN, Quo. -/
import Derived.Test.YthcgkpmlfbjagaaLdiv
import Derived.Test.YthcgkpmlfbjagaaLwrap
namespace Go.Proofs.Ythcgkpmlfbjagaa
set_option linter.unusedVariables false
open Go.RowKit W Lb
theorem quo_end {w w1 : World} {s1 s2 : Bool} {p1 p2 : Option Addr} {c1 c2 : Nat} {l1 l2 : List Int} {x y : Int} (N1 : IsNum w1 s1 p1 c1 l1 x) (N2 : IsNum w1 s2 p2 c2 l2 y) (hb : Below w.heap.size w w1) {r1 r2 m1 m2 : Nat} (h1 : w1.shape? r1 = some (57, m1)) (h2 : w1.shape? r2 = some (57, m2)) (g1 : w.heap.size ≤ r1) (g2 : w.heap.size ≤ r2) (a b c d : Value) :
    IsNum ((((w1.setCell ⟨r1, 0, none⟩ a).setCell ⟨r1, 1, none⟩ b).setCell ⟨r2, 0, none⟩ c).setCell ⟨r2, 1, none⟩ d) s1 p1 c1 l1 x ∧ IsNum ((((w1.setCell ⟨r1, 0, none⟩ a).setCell ⟨r1, 1, none⟩ b).setCell ⟨r2, 0, none⟩ c).setCell ⟨r2, 1, none⟩ d) s2 p2 c2 l2 y ∧
     Below w.heap.size w ((((w1.setCell ⟨r1, 0, none⟩ a).setCell ⟨r1, 1, none⟩ b).setCell ⟨r2, 0, none⟩ c).setCell ⟨r2, 1, none⟩ d) := by
  have ne : (57 : TypeId) ≠ 88 := by decide
  have k1 : ∀ a, (w1.setCell ⟨r1, 0, none⟩ a).shape? r1 = some (57, m1) := fun a => by rw [shape_set]; exact h1
  have k2 : ∀ a b, ((w1.setCell ⟨r1, 0, none⟩ a).setCell ⟨r1, 1, none⟩ b).shape? r2 = some (57, m2) := fun a b => by rw [shape_set, shape_set]; exact h2
  have k3 : ∀ a b c, (((w1.setCell ⟨r1, 0, none⟩ a).setCell ⟨r1, 1, none⟩ b).setCell ⟨r2, 0, none⟩ c).shape? r2 = some (57, m2) := fun a b c => by rw [shape_set]; exact k2 a b
  exact ⟨(((N1.set h1 ne _).set (k1 _) ne _).set (k2 _ _) ne _).set (k3 _ _ _) ne _, (((N2.set h1 ne _).set (k1 _) ne _).set (k2 _ _) ne _).set (k3 _ _ _) ne _, (((hb.setCell g1 _).setCell g1 _).setCell g2 _).setCell g2 _⟩
def QuoPost (w : World) (x y : Int) (e : Ending) (w' : World) : Prop := ∃ s1 p1 c1 l1 s2 p2 c2 l2, e = .returned (.tuple #[.agg #[.bool s1, .slice p1 l1.length c1], .agg #[.bool s2, .slice p2 l2.length c2]]) ∧ IsNum w' s1 p1 c1 l1 x ∧ IsNum w' s2 p2 c2 l2 y ∧ Below w.heap.size w w'
set_option maxRecDepth 100000 in
set_option maxHeartbeats 8000000 in
theorem quoN_walk (s s' : Bool) (pa pb : Option Addr) (ca cb : Nat) (la lb : List Int) (x y z B : Int) (w : World) (pz : 0 < B)
    (KD : ∀ w', Below w.heap.size w w' → Calls Try.prog 73 #[.slice pa la.length ca, .slice pb lb.length cb] w' (DivPost w' z B))
    (KM : ∀ (sg : Bool) (m r : Int), mkZ sg m = r → m ≤ z ∨ m < B → ∀ pv cv lv w', Limbs w' (.slice pv lv.length cv) lv → Mag lv m → Calls Try.prog 45 #[.bool sg, .slice pv lv.length cv] w' (NumPost w' r))
    (hx : mkZ (s != s') (z / B) = x) (hy : mkZ s (z % B) = y) (zz0 : 0 ≤ z) :
    Calls Try.prog 53 #[.agg #[.bool s, .slice pa la.length ca], .agg #[.bool s', .slice pb lb.length cb]] w (QuoPost w x y) := by
  have q1 : z / B ≤ z ∨ z / B < B := .inl (Int.ediv_le_self B zz0)
  have q2 : z % B ≤ z ∨ z % B < B := .inr (Int.emod_lt_of_pos z pz)
  have KQ0 := hide (fun (sg : Bool) (h : sg = (s != s')) => KM sg (z / B) x (by rw [h]; exact hx) q1)
  have KR0 := hide (KM s (z % B) y hy q2)
  clear KM hx hy zz0 q1 q2 pz
  go_enter Try.func53, Try.ntmps53
  go_wp2_with fail
  refine (KD _ (by go_grown)).mono ?_
  clear KD
  rintro e w1 ⟨v1, l1, v2, l2, rfl, L1, M1, L2, M2, h1⟩
  obtain ⟨x1, y1, rfl⟩ := L1.form
  obtain ⟨x2, y2, rfl⟩ := L2.form
  obtain ⟨bc, bf, bs⟩ := bcell h1
  simp only [World.size_alloc] at bc bf bs
  have B1 : Below w.heap.size w w1 := Below.trans (by go_grown) (h1.mono (by first | (simp; done) | omega | (simp; omega)))
  have sh1 : w1.shape? (w.heap.size + 1 + 1) = some (57, 2) := (shape_later h1 (by simp; try omega)).trans ((shape_old _ _ (by simp; try omega)).trans (shape_top _ _ _ _ (by simp)))
  have sh2 : w1.shape? (w.heap.size + 1 + 1 + 1) = some (57, 2) := (shape_later h1 (by simp; try omega)).trans (shape_top _ _ _ _ (by simp))
  have LL := hide (And.intro L1 (And.intro M1 (And.intro L2 M2)))
  have SH := hide (And.intro sh1 sh2)
  clear L1 M1 L2 M2 h1 sh1 sh2
  go_upto_region 2 with (fail)
  refine abs_wp (fun W => (W.cell? ⟨w.heap.size, 0, none⟩ = some (.bool s) ∧ W.cell? ⟨w.heap.size, 1, none⟩ = some (.slice pa la.length ca) ∧ W.cell? ⟨w.heap.size + 1, 0, none⟩ = some (.bool s') ∧ W.cell? ⟨w.heap.size + 1, 1, none⟩ = some (.slice pb lb.length cb)) ∧ (W.cell? ⟨w.heap.size + 1 + 1, 0, none⟩ = some (.bool false) ∧ W.cell? ⟨w.heap.size + 1 + 1, 1, none⟩ = some (.slice none 0 0) ∧ W.cell? ⟨w.heap.size + 1 + 1 + 1, 0, none⟩ = some (.bool false) ∧ W.cell? ⟨w.heap.size + 1 + 1 + 1, 1, none⟩ = some (.slice none 0 0)) ∧ (W.frozen? ⟨w.heap.size + 1 + 1, 0, none⟩ = false ∧ W.frozen? ⟨w.heap.size + 1 + 1, 1, none⟩ = false ∧ W.frozen? ⟨w.heap.size + 1 + 1 + 1, 0, none⟩ = false ∧ W.frozen? ⟨w.heap.size + 1 + 1 + 1, 1, none⟩ = false) ∧ w.heap.size + 1 + 1 + 1 < W.heap.size ∧ Below w.heap.size w W ∧ Hid (Below w1.heap.size w1 W)) ?_ ?_
  · refine ⟨⟨?_, ?_, ?_, ?_⟩, ⟨?_, ?_, ?_, ?_⟩, ⟨?_, ?_, ?_, ?_⟩, ?_, ?_, ?_⟩
    all_goals first | (simp [go_sem, bc, bf]; done) | omega | exact B1 | exact Below.refl _ _
  rintro W ⟨⟨c0, c1, c2, c3⟩, ⟨r0, r1, r2, r3⟩, ⟨g0, g1, g2, g3⟩, zW, BW, HW⟩
  clear bc bf bs B1
  have KQ : ∀ (sg : Bool), sg = (s != s') → ∀ w', Keeps W.heap.size W w' → Calls Try.prog 45 #[.bool sg, .slice x1 l1.length y1] w' (NumPost w' x) := fun sg h w' K => KQ0.out sg h x1 y1 l1 w' ((LL.out.1.later HW.out).later K.below) LL.out.2.1
  have KR : ∀ w', Keeps W.heap.size W w' → Calls Try.prog 45 #[.bool s, .slice x2 l2.length y2] w' (NumPost w' y) := fun w' K => KR0.out x2 y2 l2 w' ((LL.out.2.2.1.later HW.out).later K.below) LL.out.2.2.2
  have K0 := Keeps.start (Nat.le_refl W.heap.size)
  have K1 := K0.drew
  have J0 : Keeps (w.heap.size + 1 + 1) W W := Keeps.start (by omega)
  have J1 := J0.drew
  go_region_held3 (fun w' => w'.cell? ⟨w.heap.size, 0, none⟩ = some (.bool s) ∧ w'.cell? ⟨w.heap.size, 1, none⟩ = some (.slice pa la.length ca) ∧ w'.cell? ⟨w.heap.size + 1, 0, none⟩ = some (.bool s') ∧ w'.cell? ⟨w.heap.size + 1, 1, none⟩ = some (.slice pb lb.length cb) ∧ Keeps (w.heap.size + 1 + 1) W w') ((refine (fun K => ⟨Keeps.cell K c0 (by omega), Keeps.cell K c1 (by omega), Keeps.cell K c2 (by omega), Keeps.cell K c3 (by omega), K⟩) (?_ : Keeps (w.heap.size + 1 + 1) W _); (repeat (first | assumption | refine Keeps.alloc ?_ _ | refine Keeps.drew ?_ | refine Keeps.setCell ?_ (by first | (simp; done) | omega | (simp; omega)) _))))
    (first
    | (go_at_call 45; (with_reducible refine (KQ _ (by cases s <;> cases s' <;> first | rfl | decide | simp) _ (by repeat (first | assumption | refine Keeps.alloc ?_ _ | refine Keeps.drew ?_ | refine Keeps.setCell ?_ (by first | (simp; done) | omega | (simp; omega)) _))).mono ?_); rintro e v20 ⟨t1, p1, q1, m1, rfl, N1, hb20⟩; have K20 := Keeps.call (B := W.heap.size) (W := W) (by repeat (first | assumption | refine Keeps.alloc ?_ _ | refine Keeps.drew ?_ | refine Keeps.setCell ?_ (by first | (simp; done) | omega | (simp; omega)) _)) hb20; have J20 : Keeps (w.heap.size + 1 + 1) W v20 := ⟨K20.below.mono (by omega), by omega⟩)
    | (go_at_call 45; (with_reducible refine (KR _ (by repeat (first | assumption | refine Keeps.alloc ?_ _ | refine Keeps.drew ?_ | refine Keeps.setCell ?_ (by first | (simp; done) | omega | (simp; omega)) _))).mono ?_); rintro e v21 ⟨t2, p2, q2, m2, rfl, N2, hb21⟩; have K21 := Keeps.call (B := W.heap.size) (W := W) (by repeat (first | assumption | refine Keeps.alloc ?_ _ | refine Keeps.drew ?_ | refine Keeps.setCell ?_ (by first | (simp; done) | omega | (simp; omega)) _)) hb21; have J21 : Keeps (w.heap.size + 1 + 1) W v21 := ⟨K21.below.mono (by omega), by omega⟩; have N3 := N1.later (w' := v21) (by have := hb21; first | exact this | exact (Below.drew (Below.refl _ _)).trans this); have rr0 := K21.cell r0 (by omega); have gg0 := K21.free g0 (by omega); have rr1 := K21.cell r1 (by omega); have gg1 := K21.free g1 (by omega); have rr2 := K21.cell r2 (by omega); have gg2 := K21.free g2 (by omega); have rr3 := K21.cell r3 (by omega); have gg3 := K21.free g3 (by omega); have zz : w.heap.size + 1 + 1 + 1 < v21.heap.size := (by have := K21.size; omega)))
  all_goals
    have F := hide (quo_end (w := w) N3 N2 (BW.trans (K21.below.mono BW.size)) ((shape_later K21.below (by omega)).trans ((shape_later HW.out (heap_of_shape SH.out.1)).trans SH.out.1)) ((shape_later K21.below (by omega)).trans ((shape_later HW.out (heap_of_shape SH.out.2)).trans SH.out.2)) (by omega) (by omega))
    have zz2 : w.heap.size + 1 + 1 < v21.heap.size := by omega
    clear K20 K21 N1 N2 N3 KQ KR LL SH HW KQ0 KR0
    go_wp2_with fail
    refine bodyPost_ret (by simp [results, Try.results53, go_sem, rr0, rr1, rr2, rr3, gg0, gg1, gg2, gg3, zz, zz2]; try rfl) rfl ?_
    exact ⟨_, _, _, _, _, _, _, _, rfl, F.out _ _ _ _⟩
end Go.Proofs.Ythcgkpmlfbjagaa
