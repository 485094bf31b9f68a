/- The reference of layer 1: AddN. -/
import Derived.Test.YthcgkpmlfbjagaaLnum
namespace Go.Proofs.Ythcgkpmlfbjagaa
set_option linter.unusedVariables false
open Go.RowKit W Lb
set_option maxHeartbeats 4000000 in
theorem addN_same (s s' : Bool) (pa pb : Option Addr) (ca cb : Nat) (la lb : List Int) (z m : Int) (w : World) (ss : s = s')
    (KA : ∀ w', Keeps w.heap.size w w' → Calls Try.prog 67 #[.slice pa la.length ca, .slice pb lb.length cb] w' (MagPost w' m))
    (KM : ∀ pv cv lv w', Limbs w' (.slice pv lv.length cv) lv → Mag lv m → Calls Try.prog 45 #[.bool s, .slice pv lv.length cv] w' (NumPost w' z))
    : Calls Try.prog 47 #[.agg #[.bool s, .slice pa la.length ca], .agg #[.bool s', .slice pb lb.length cb]] w (NumPost w z) := by
  have KA0 := hide KA
  clear KA
  subst ss
  go_enter Try.func47, Try.ntmps47
  go_wp2_with fail
  refine abs_wp (fun W => W.cell? ⟨w.heap.size, 0, none⟩ = some (.bool s) ∧ W.cell? ⟨w.heap.size, 1, none⟩ = some (.slice pa la.length ca) ∧ W.cell? ⟨w.heap.size + 1, 0, none⟩ = some (.bool s) ∧ W.cell? ⟨w.heap.size + 1, 1, none⟩ = some (.slice pb lb.length cb) ∧ W.cell? ⟨w.heap.size + 1 + 1, 0, none⟩ = some (.bool false) ∧ W.cell? ⟨w.heap.size + 1 + 1, 1, none⟩ = some (.slice none 0 0) ∧ W.frozen? ⟨w.heap.size + 1 + 1, 0, none⟩ = false ∧ W.frozen? ⟨w.heap.size + 1 + 1, 1, none⟩ = false ∧ W.shape? (w.heap.size + 1 + 1) = some (57, 2) ∧ w.heap.size + 1 + 1 < W.heap.size ∧ Below w.heap.size w W) ?_ ?_
  · refine ⟨?_, ?_, ?_, ?_, ?_, ?_, ?_, ?_, ?_, ?_, ?_⟩
    all_goals first | (exact shape_top _ _ _ _ (by simp)) | (go_grown; done) | (simp [go_sem]; done) | (simp; done) | (simp; omega)
  rintro W ⟨c00, c01, c10, c11, r0, r1, g0, g1, hr, zW, BW⟩
  have KA : ∀ w', Keeps W.heap.size W w' → Calls Try.prog 67 #[.slice pa la.length ca, .slice pb lb.length cb] w' (MagPost w' m) := fun w' K => KA0.out w' ⟨BW.trans (K.below.mono BW.size), Nat.le_refl _⟩
  have K0 := Keeps.start (Nat.le_refl W.heap.size)
  have K1 := K0.drew
  have J0 : Keeps (w.heap.size + 1 + 1) W W := Keeps.start (by omega)
  have J1 := J0.drew
  have z0 : w.heap.size < W.heap.size := by omega
  have z1 : w.heap.size + 1 < W.heap.size := by omega
  have z2 : w.heap.size + 1 + 1 < W.heap.size := by omega
  go_region_held3 (fun w' => w'.cell? ⟨w.heap.size, 0, none⟩ = some (.bool s) ∧ w'.cell? ⟨w.heap.size, 1, none⟩ = some (.slice pa la.length ca) ∧ w'.cell? ⟨w.heap.size + 1, 0, none⟩ = some (.bool s) ∧ w'.cell? ⟨w.heap.size + 1, 1, none⟩ = some (.slice pb lb.length cb) ∧ Keeps (w.heap.size + 1 + 1) W w') ((refine (fun K => ⟨Keeps.cell K c00 (by omega), Keeps.cell K c01 (by omega), Keeps.cell K c10 (by omega), Keeps.cell K c11 (by omega), K⟩) (?_ : Keeps (w.heap.size + 1 + 1) W _); (repeat (first | assumption | refine Keeps.alloc ?_ _ | refine Keeps.drew ?_ | refine Keeps.setCell ?_ (by first | (simp; done) | omega | (simp; omega)) _))))
    (first
    | (go_at_call 67; refine (KA _ (by repeat (first | assumption | refine Keeps.alloc ?_ _ | refine Keeps.drew ?_ | refine Keeps.setCell ?_ (by first | (simp; done) | omega | (simp; omega)) _))).mono ?_; rintro e v20 ⟨va, lv, rfl, LV, MV, hb20, fr20⟩; obtain ⟨pv, cv, rfl⟩ := LV.form; have K20 := Keeps.call (B := W.heap.size) (W := W) (by repeat (first | assumption | refine Keeps.alloc ?_ _ | refine Keeps.drew ?_ | refine Keeps.setCell ?_ (by first | (simp; done) | omega | (simp; omega)) _)) hb20; obtain ⟨bc20, bf20, bs20⟩ := bcell hb20; (try simp only [World.size_alloc, World.size_drew] at bc20 bf20 bs20); have J20 : Keeps (w.heap.size + 1 + 1) W v20 := ⟨K20.below.mono (by omega), by omega⟩; (try (have ov200 : W.heap.size < v20.heap.size := by omega)); (try (have ov201 : W.heap.size ≤ v20.heap.size := by omega)); (try (have ov202 : ¬ W.heap.size = v20.heap.size := by omega)); (try (have ov203 : ¬ v20.heap.size = W.heap.size := by omega)); (try (have ov204 : W.heap.size + 1 < v20.heap.size := by omega)); (try (have ov205 : W.heap.size + 1 ≤ v20.heap.size := by omega)); (try (have ov206 : ¬ W.heap.size + 1 = v20.heap.size := by omega)); (try (have ov207 : ¬ v20.heap.size = W.heap.size + 1 := by omega)))
    | (go_at_call 45; refine (KM _ _ _ _ (by first | exact LV | exact LV.later (by go_grown)) MV).mono ?_; rintro e v21 ⟨s2, p2, c2, l2, rfl, N2, hb21⟩; have K21 := Keeps.call (B := W.heap.size) (W := W) (by repeat (first | assumption | refine Keeps.alloc ?_ _ | refine Keeps.drew ?_ | refine Keeps.setCell ?_ (by first | (simp; done) | omega | (simp; omega)) _)) hb21; have J21 : Keeps (w.heap.size + 1 + 1) W v21 := ⟨K21.below.mono (by omega), by omega⟩; have rr0 := K21.cell r0 z2; have rr1 := K21.cell r1 z2; have gg0 := K21.free g0 z2; have gg1 := K21.free g1 z2; have zz : w.heap.size + 1 + 1 < v21.heap.size := (by have := K21.size; omega); clear bc20 bf20 bs20))
  all_goals
    have F := hide (num_end N2 (BW.trans (K21.below.mono BW.size)) ((shape_later K21.below z2).trans hr) (by omega))
    clear K20 K21 N2 KA KM
    go_wp2_with fail
    refine bodyPost_ret (by simp [results, Try.results47, go_sem, rr0, rr1, gg0, gg1, zz]; try rfl) rfl ?_
    exact F.out _ _
set_option maxHeartbeats 4000000 in
theorem addN_ge (s s' : Bool) (pa pb : Option Addr) (ca cb : Nat) (la lb : List Int) (z m : Int) (w : World) (x y : Int) (ss : (s == s') = false) (h : 0 ≤ cmpI x y)
    (KC : ∀ w', Below w.heap.size w w' → Calls Try.prog 66 #[.slice pa la.length ca, .slice pb lb.length cb] w' (CmpPost w' x y))
    (KA : ∀ w', Keeps w.heap.size w w' → Calls Try.prog 68 #[.slice pa la.length ca, .slice pb lb.length cb] w' (MagPost w' m))
    (KM : ∀ pv cv lv w', Limbs w' (.slice pv lv.length cv) lv → Mag lv m → Calls Try.prog 45 #[.bool s, .slice pv lv.length cv] w' (NumPost w' z))
    : Calls Try.prog 47 #[.agg #[.bool s, .slice pa la.length ca], .agg #[.bool s', .slice pb lb.length cb]] w (NumPost w z) := by
  have KA0 := hide KA
  clear KA
  go_enter Try.func47, Try.ntmps47
  go_wp2_with fail
  refine (KC _ (by go_grown)).mono ?_
  rintro e w1 ⟨rfl, hb⟩
  obtain ⟨bc, bf, bs⟩ := bcell hb
  simp only [World.size_alloc] at bc bf bs
  have B : Below w.heap.size w w1 := Below.trans (by go_grown) (hb.mono (by first | (simp; done) | omega | (simp; omega)))
  have hr1 : w1.shape? (w.heap.size + 1 + 1) = some (57, 2) := (shape_later hb (by simp)).trans (shape_top _ _ _ _ (by simp))
  have zz1 : w.heap.size + 1 + 1 < w1.heap.size := by omega
  generalize cmpI x y = d at *
  clear KC hb
  go_wp2_with fail
  refine abs_wp (fun W => W.cell? ⟨w.heap.size, 0, none⟩ = some (.bool s) ∧ W.cell? ⟨w.heap.size, 1, none⟩ = some (.slice pa la.length ca) ∧ W.cell? ⟨w.heap.size + 1, 0, none⟩ = some (.bool s') ∧ W.cell? ⟨w.heap.size + 1, 1, none⟩ = some (.slice pb lb.length cb) ∧ W.cell? ⟨w.heap.size + 1 + 1, 0, none⟩ = some (.bool false) ∧ W.cell? ⟨w.heap.size + 1 + 1, 1, none⟩ = some (.slice none 0 0) ∧ W.frozen? ⟨w.heap.size + 1 + 1, 0, none⟩ = false ∧ W.frozen? ⟨w.heap.size + 1 + 1, 1, none⟩ = false ∧ W.shape? (w.heap.size + 1 + 1) = some (57, 2) ∧ w.heap.size + 1 + 1 < W.heap.size ∧ Below w.heap.size w W) ?_ ?_
  · refine ⟨?_, ?_, ?_, ?_, ?_, ?_, ?_, ?_, ?_, ?_, ?_⟩
    all_goals first | (exact hr1) | (exact B) | (exact zz1) | (simp [go_sem, bc, bf]; done) | (go_grown; done) | (simp [go_sem]; done) | (simp; done) | (simp; omega)
  rintro W ⟨c00, c01, c10, c11, r0, r1, g0, g1, hr, zW, BW⟩
  have KA : ∀ w', Keeps W.heap.size W w' → Calls Try.prog 68 #[.slice pa la.length ca, .slice pb lb.length cb] w' (MagPost w' m) := fun w' K => KA0.out w' ⟨BW.trans (K.below.mono BW.size), Nat.le_refl _⟩
  have K0 := Keeps.start (Nat.le_refl W.heap.size)
  have K1 := K0.drew
  have J0 : Keeps (w.heap.size + 1 + 1) W W := Keeps.start (by omega)
  have J1 := J0.drew
  have z0 : w.heap.size < W.heap.size := by omega
  have z1 : w.heap.size + 1 < W.heap.size := by omega
  have z2 : w.heap.size + 1 + 1 < W.heap.size := by omega
  go_region_held3 (fun w' => w'.cell? ⟨w.heap.size, 0, none⟩ = some (.bool s) ∧ w'.cell? ⟨w.heap.size, 1, none⟩ = some (.slice pa la.length ca) ∧ w'.cell? ⟨w.heap.size + 1, 0, none⟩ = some (.bool s') ∧ w'.cell? ⟨w.heap.size + 1, 1, none⟩ = some (.slice pb lb.length cb) ∧ Keeps (w.heap.size + 1 + 1) W w') ((refine (fun K => ⟨Keeps.cell K c00 (by omega), Keeps.cell K c01 (by omega), Keeps.cell K c10 (by omega), Keeps.cell K c11 (by omega), K⟩) (?_ : Keeps (w.heap.size + 1 + 1) W _); (repeat (first | assumption | refine Keeps.alloc ?_ _ | refine Keeps.drew ?_ | refine Keeps.setCell ?_ (by first | (simp; done) | omega | (simp; omega)) _))))
    (first
    | (go_at_call 68; refine (KA _ (by repeat (first | assumption | refine Keeps.alloc ?_ _ | refine Keeps.drew ?_ | refine Keeps.setCell ?_ (by first | (simp; done) | omega | (simp; omega)) _))).mono ?_; rintro e v20 ⟨va, lv, rfl, LV, MV, hb20, fr20⟩; obtain ⟨pv, cv, rfl⟩ := LV.form; have K20 := Keeps.call (B := W.heap.size) (W := W) (by repeat (first | assumption | refine Keeps.alloc ?_ _ | refine Keeps.drew ?_ | refine Keeps.setCell ?_ (by first | (simp; done) | omega | (simp; omega)) _)) hb20; obtain ⟨bc20, bf20, bs20⟩ := bcell hb20; (try simp only [World.size_alloc, World.size_drew] at bc20 bf20 bs20); have J20 : Keeps (w.heap.size + 1 + 1) W v20 := ⟨K20.below.mono (by omega), by omega⟩; (try (have ov200 : W.heap.size < v20.heap.size := by omega)); (try (have ov201 : W.heap.size ≤ v20.heap.size := by omega)); (try (have ov202 : ¬ W.heap.size = v20.heap.size := by omega)); (try (have ov203 : ¬ v20.heap.size = W.heap.size := by omega)); (try (have ov204 : W.heap.size + 1 < v20.heap.size := by omega)); (try (have ov205 : W.heap.size + 1 ≤ v20.heap.size := by omega)); (try (have ov206 : ¬ W.heap.size + 1 = v20.heap.size := by omega)); (try (have ov207 : ¬ v20.heap.size = W.heap.size + 1 := by omega)))
    | (go_at_call 45; refine (KM _ _ _ _ (by first | exact LV | exact LV.later (by go_grown)) MV).mono ?_; rintro e v21 ⟨s2, p2, c2, l2, rfl, N2, hb21⟩; have K21 := Keeps.call (B := W.heap.size) (W := W) (by repeat (first | assumption | refine Keeps.alloc ?_ _ | refine Keeps.drew ?_ | refine Keeps.setCell ?_ (by first | (simp; done) | omega | (simp; omega)) _)) hb21; have J21 : Keeps (w.heap.size + 1 + 1) W v21 := ⟨K21.below.mono (by omega), by omega⟩; have rr0 := K21.cell r0 z2; have rr1 := K21.cell r1 z2; have gg0 := K21.free g0 z2; have gg1 := K21.free g1 z2; have zz : w.heap.size + 1 + 1 < v21.heap.size := (by have := K21.size; omega); clear bc20 bf20 bs20))
  all_goals
    have F := hide (num_end N2 (BW.trans (K21.below.mono BW.size)) ((shape_later K21.below z2).trans hr) (by omega))
    clear K20 K21 N2 KA KM
    go_wp2_with fail
    refine bodyPost_ret (by simp [results, Try.results47, go_sem, rr0, rr1, gg0, gg1, zz]; try rfl) rfl ?_
    exact F.out _ _
set_option maxHeartbeats 4000000 in
theorem addN_lt (s s' : Bool) (pa pb : Option Addr) (ca cb : Nat) (la lb : List Int) (z m : Int) (w : World) (x y : Int) (ss : (s == s') = false) (h : ¬ 0 ≤ cmpI x y)
    (KC : ∀ w', Below w.heap.size w w' → Calls Try.prog 66 #[.slice pa la.length ca, .slice pb lb.length cb] w' (CmpPost w' x y))
    (KA : ∀ w', Keeps w.heap.size w w' → Calls Try.prog 68 #[.slice pb lb.length cb, .slice pa la.length ca] w' (MagPost w' m))
    (KM : ∀ pv cv lv w', Limbs w' (.slice pv lv.length cv) lv → Mag lv m → Calls Try.prog 45 #[.bool s', .slice pv lv.length cv] w' (NumPost w' z))
    : Calls Try.prog 47 #[.agg #[.bool s, .slice pa la.length ca], .agg #[.bool s', .slice pb lb.length cb]] w (NumPost w z) := by
  have KA0 := hide KA
  clear KA
  go_enter Try.func47, Try.ntmps47
  go_wp2_with fail
  refine (KC _ (by go_grown)).mono ?_
  rintro e w1 ⟨rfl, hb⟩
  obtain ⟨bc, bf, bs⟩ := bcell hb
  simp only [World.size_alloc] at bc bf bs
  have B : Below w.heap.size w w1 := Below.trans (by go_grown) (hb.mono (by first | (simp; done) | omega | (simp; omega)))
  have hr1 : w1.shape? (w.heap.size + 1 + 1) = some (57, 2) := (shape_later hb (by simp)).trans (shape_top _ _ _ _ (by simp))
  have zz1 : w.heap.size + 1 + 1 < w1.heap.size := by omega
  generalize cmpI x y = d at *
  clear KC hb
  go_wp2_with fail
  refine abs_wp (fun W => W.cell? ⟨w.heap.size, 0, none⟩ = some (.bool s) ∧ W.cell? ⟨w.heap.size, 1, none⟩ = some (.slice pa la.length ca) ∧ W.cell? ⟨w.heap.size + 1, 0, none⟩ = some (.bool s') ∧ W.cell? ⟨w.heap.size + 1, 1, none⟩ = some (.slice pb lb.length cb) ∧ W.cell? ⟨w.heap.size + 1 + 1, 0, none⟩ = some (.bool false) ∧ W.cell? ⟨w.heap.size + 1 + 1, 1, none⟩ = some (.slice none 0 0) ∧ W.frozen? ⟨w.heap.size + 1 + 1, 0, none⟩ = false ∧ W.frozen? ⟨w.heap.size + 1 + 1, 1, none⟩ = false ∧ W.shape? (w.heap.size + 1 + 1) = some (57, 2) ∧ w.heap.size + 1 + 1 < W.heap.size ∧ Below w.heap.size w W) ?_ ?_
  · refine ⟨?_, ?_, ?_, ?_, ?_, ?_, ?_, ?_, ?_, ?_, ?_⟩
    all_goals first | (exact hr1) | (exact B) | (exact zz1) | (simp [go_sem, bc, bf]; done) | (go_grown; done) | (simp [go_sem]; done) | (simp; done) | (simp; omega)
  rintro W ⟨c00, c01, c10, c11, r0, r1, g0, g1, hr, zW, BW⟩
  have KA : ∀ w', Keeps W.heap.size W w' → Calls Try.prog 68 #[.slice pb lb.length cb, .slice pa la.length ca] w' (MagPost w' m) := fun w' K => KA0.out w' ⟨BW.trans (K.below.mono BW.size), Nat.le_refl _⟩
  have K0 := Keeps.start (Nat.le_refl W.heap.size)
  have K1 := K0.drew
  have J0 : Keeps (w.heap.size + 1 + 1) W W := Keeps.start (by omega)
  have J1 := J0.drew
  have z0 : w.heap.size < W.heap.size := by omega
  have z1 : w.heap.size + 1 < W.heap.size := by omega
  have z2 : w.heap.size + 1 + 1 < W.heap.size := by omega
  go_region_held3 (fun w' => w'.cell? ⟨w.heap.size, 0, none⟩ = some (.bool s) ∧ w'.cell? ⟨w.heap.size, 1, none⟩ = some (.slice pa la.length ca) ∧ w'.cell? ⟨w.heap.size + 1, 0, none⟩ = some (.bool s') ∧ w'.cell? ⟨w.heap.size + 1, 1, none⟩ = some (.slice pb lb.length cb) ∧ Keeps (w.heap.size + 1 + 1) W w') ((refine (fun K => ⟨Keeps.cell K c00 (by omega), Keeps.cell K c01 (by omega), Keeps.cell K c10 (by omega), Keeps.cell K c11 (by omega), K⟩) (?_ : Keeps (w.heap.size + 1 + 1) W _); (repeat (first | assumption | refine Keeps.alloc ?_ _ | refine Keeps.drew ?_ | refine Keeps.setCell ?_ (by first | (simp; done) | omega | (simp; omega)) _))))
    (first
    | (go_at_call 68; refine (KA _ (by repeat (first | assumption | refine Keeps.alloc ?_ _ | refine Keeps.drew ?_ | refine Keeps.setCell ?_ (by first | (simp; done) | omega | (simp; omega)) _))).mono ?_; rintro e v20 ⟨va, lv, rfl, LV, MV, hb20, fr20⟩; obtain ⟨pv, cv, rfl⟩ := LV.form; have K20 := Keeps.call (B := W.heap.size) (W := W) (by repeat (first | assumption | refine Keeps.alloc ?_ _ | refine Keeps.drew ?_ | refine Keeps.setCell ?_ (by first | (simp; done) | omega | (simp; omega)) _)) hb20; obtain ⟨bc20, bf20, bs20⟩ := bcell hb20; (try simp only [World.size_alloc, World.size_drew] at bc20 bf20 bs20); have J20 : Keeps (w.heap.size + 1 + 1) W v20 := ⟨K20.below.mono (by omega), by omega⟩; (try (have ov200 : W.heap.size < v20.heap.size := by omega)); (try (have ov201 : W.heap.size ≤ v20.heap.size := by omega)); (try (have ov202 : ¬ W.heap.size = v20.heap.size := by omega)); (try (have ov203 : ¬ v20.heap.size = W.heap.size := by omega)); (try (have ov204 : W.heap.size + 1 < v20.heap.size := by omega)); (try (have ov205 : W.heap.size + 1 ≤ v20.heap.size := by omega)); (try (have ov206 : ¬ W.heap.size + 1 = v20.heap.size := by omega)); (try (have ov207 : ¬ v20.heap.size = W.heap.size + 1 := by omega)))
    | (go_at_call 45; refine (KM _ _ _ _ (by first | exact LV | exact LV.later (by go_grown)) MV).mono ?_; rintro e v21 ⟨s2, p2, c2, l2, rfl, N2, hb21⟩; have K21 := Keeps.call (B := W.heap.size) (W := W) (by repeat (first | assumption | refine Keeps.alloc ?_ _ | refine Keeps.drew ?_ | refine Keeps.setCell ?_ (by first | (simp; done) | omega | (simp; omega)) _)) hb21; have J21 : Keeps (w.heap.size + 1 + 1) W v21 := ⟨K21.below.mono (by omega), by omega⟩; have rr0 := K21.cell r0 z2; have rr1 := K21.cell r1 z2; have gg0 := K21.free g0 z2; have gg1 := K21.free g1 z2; have zz : w.heap.size + 1 + 1 < v21.heap.size := (by have := K21.size; omega); clear bc20 bf20 bs20))
  all_goals
    have F := hide (num_end N2 (BW.trans (K21.below.mono BW.size)) ((shape_later K21.below z2).trans hr) (by omega))
    clear K20 K21 N2 KA KM
    go_wp2_with fail
    refine bodyPost_ret (by simp [results, Try.results47, go_sem, rr0, rr1, gg0, gg1, zz]; try rfl) rfl ?_
    exact F.out _ _
end Go.Proofs.Ythcgkpmlfbjagaa
