/- The reference of layer 2: taken, Read, Parse. (gen_mtaken.py) -/
import Derived.Test.YtdjehbagnkfkpaaDoorMtake
import Derived.Test.YtdjehbagnkfkpaaDoorMworth
import Derived.Test.YtdjehbagnkfkpaaDoorMsig
import Derived.Test.YtdjehbagnkfkpaaDoorMparse
namespace Go.Proofs.YtdjehbagnkfkpaaDoor
set_option linter.unusedVariables false
set_option linter.unusedSimpArgs false
open Go.RowKit W
theorem idx_cons {c : UInt8} (l : List UInt8) (h : c ≠ 46) : Lib.indexByte (c :: l) 46 = if Lib.indexByte l 46 = -1 then -1 else Lib.indexByte l 46 + 1 := by
  have n : (c == 46) = false := by simpa using h
  rw [show Lib.indexByte (c :: l) 46 = (if c == 46 then 0 else if Lib.indexByte l 46 == -1 then -1 else Lib.indexByte l 46 + 1) from rfl, n]
  by_cases g : Lib.indexByte l 46 = -1
  · simp [g]
  · have : (Lib.indexByte l 46 == -1) = false := by simpa using g
    simp [g, this]
theorem cut_cons {c : UInt8} (l : List UInt8) (h : c ≠ 46) : cutW (c :: l) = c :: cutW l ∧ cutF (c :: l) = cutF l ∧ cutP (c :: l) = cutP l := by
  have e := idx_cons l h
  have g0 := Lib.indexByte_ge l 46
  unfold cutW cutF cutP
  rw [e]
  by_cases g : Lib.indexByte l 46 = -1
  · rw [if_pos g, g]; exact ⟨rfl, rfl, rfl⟩
  · rw [if_neg g]
    have n : ¬ Lib.indexByte l 46 + 1 = -1 := by omega
    rw [if_neg n, if_neg n, if_neg g, if_neg g, decide_eq_false n, decide_eq_false g]
    rw [show (Lib.indexByte l 46 + 1).toNat = (Lib.indexByte l 46).toNat + 1 by omega]
    exact ⟨rfl, rfl, rfl⟩
theorem cut_app {V : List UInt8} (l : List UInt8) (h : ∀ c ∈ V, c ≠ 46) : cutW (V ++ l) = V ++ cutW l ∧ cutF (V ++ l) = cutF l ∧ cutP (V ++ l) = cutP l := by
  induction V with
  | nil => exact ⟨rfl, rfl, rfl⟩
  | cons c V ih =>
    obtain ⟨a, b, d⟩ := cut_cons (V ++ l) (h c (by simp))
    obtain ⟨a', b', d'⟩ := ih (fun x hx => h x (by simp [hx]))
    rw [List.cons_append, a, b, d, a', b', d']
    exact ⟨rfl, rfl, rfl⟩
theorem cut_point (l : List UInt8) : cutW (46 :: l) = [] ∧ cutF (46 :: l) = l ∧ cutP (46 :: l) = true := cut_some (V := []) l (fun _ h => by cases h)
/-- Is it a decimal without its sign? -/
def okB (A : List UInt8) : Bool := digB (cutW A) && (!cutP A || digB (cutF A))
theorem bridge (s : ByteArray) (a : Nat) (ha : a ≤ s.size) : takeOk s a = okB (s.data.toList.drop a) ∧ (takeOk s a = true → (takeV s a).data.toList = cutW (s.data.toList.drop a) ∧ (takeF s a).data.toList = cutF (s.data.toList.drop a)) := by
  have hl : s.data.toList.length = s.size := by simp
  obtain ⟨A, hA⟩ : ∃ A, A = s.data.toList.drop a := ⟨_, rfl⟩
  have al : A.length = s.size - a := by rw [hA]; simp
  obtain ⟨V, hV⟩ : ∃ V, V = A.takeWhile Dc.isD := ⟨_, rfl⟩
  obtain ⟨m, hm⟩ : ∃ m, m = A.dropWhile Dc.isD := ⟨_, rfl⟩
  have split : A = V ++ m := by rw [hV, hm]; exact List.takeWhile_append_dropWhile.symm
  have vd : ∀ c ∈ V, Dc.isD c = true := by
    intro c hc; rw [hV] at hc
    exact List.all_eq_true.1 (List.all_takeWhile (p := Dc.isD) (l := A)) c hc
  have mh : ∀ c r, m = c :: r → Dc.isD c = false := by
    intro c r e
    have := List.head?_dropWhile_not Dc.isD A
    rw [← hm, e] at this
    simpa using this
  have nE : numE s.data.toList a = a + V.length := by unfold numE; rw [← hA, ← hV]
  have vn : ∀ c ∈ V, c ≠ 46 := fun c hc => (isD_ne (vd c hc)).1
  have vl : V.length + m.length = s.size - a := by rw [← al, split, List.length_append]
  have atk : s.data.toList[a + V.length]? = m.head? := by
    rw [← List.getElem?_drop, ← hA, split, List.getElem?_append_right (Nat.le_refl _), Nat.sub_self, List.head?_eq_getElem?]
  have ex : ∀ i, i ≤ V.length → (s.extract a (a + i)).data.toList = A.take i := by
    intro i hi
    rw [hA]; simp [List.extract_eq_take_drop]
  rw [← hA]
  unfold okB
  rcases m with _ | ⟨c, r⟩
  · rw [List.append_nil] at split
    obtain ⟨c1, c2, c3⟩ := cut_none vn
    rw [split, c1, c2, c3]
    by_cases v0 : V = []
    · obtain ⟨t1, t2, t3⟩ := take_none (s := s) (a := a) (by rw [nE, v0]; rfl)
      rw [t3, v0]
      exact ⟨rfl, fun h => by cases h⟩
    · have v1 : 0 < V.length := List.length_pos_iff.2 v0
      obtain ⟨t1, t2, t3⟩ := take_whole (s := s) (a := a) nE (by omega) (by simp at vl; omega)
      rw [t3, digB_of vd v0]
      refine ⟨rfl, fun _ => ⟨?_, by rw [t2]⟩⟩
      rw [t1, ex _ (Nat.le_refl _), split, List.take_length]
  · have cd := mh c r rfl
    have kl : a + V.length < s.size := by simp at vl; omega
    have gk : s[a + V.length]'kl = c := by
      have h := List.getElem?_eq_getElem (l := s.data.toList) (i := a + V.length) (by omega)
      rw [atk] at h
      exact (Option.some.inj h).symm
    obtain ⟨w1, w2, w3⟩ := cut_app (c :: r) vn
    rw [split, w1, w2, w3]
    by_cases v0 : V = []
    · obtain ⟨t1, t2, t3⟩ := take_none (s := s) (a := a) (by rw [nE, v0]; rfl)
      rw [t3, v0]
      refine ⟨?_, fun h => by cases h⟩
      by_cases p : c = 46
      · subst p
        rw [(cut_point r).1]; rfl
      · rw [(cut_cons r p).1]
        unfold digB; simp [cd]
    · have v1 : 0 < V.length := List.length_pos_iff.2 v0
      by_cases p : c = 46
      · subst p
        obtain ⟨p1, p2, p3⟩ := cut_point r
        rw [p1, p2, p3, List.append_nil]
        have dr : s.data.toList.drop (a + V.length + 1) = r := by
          have h : A.drop (V.length + 1) = r := by
            rw [split, show V.length + 1 = (V ++ [46]).length by simp, show V ++ 46 :: r = (V ++ [46]) ++ r by simp, List.drop_left]
          rw [hA, List.drop_drop] at h
          rw [← h]; congr 1
        have nM : numE s.data.toList (a + V.length + 1) = a + V.length + 1 + (r.takeWhile Dc.isD).length := by unfold numE; rw [dr]
        obtain ⟨t1, t2, t3⟩ := take_point (s := s) (a := a) nE (by omega) kl gk nM
        have rl : r.length = s.size - (a + V.length + 1) := by simp at vl; omega
        have tl := (List.takeWhile_sublist (p := Dc.isD) (l := r)).length_le
        rw [t3, digB_of vd v0]
        have key : (decide (a + V.length + 1 + (r.takeWhile Dc.isD).length = s.size) && decide (a + V.length + 1 < a + V.length + 1 + (r.takeWhile Dc.isD).length)) = digB r := by
          by_cases full : r.takeWhile Dc.isD = r
          · rw [full]
            have ra : r.all Dc.isD = true := by rw [← full]; exact List.all_takeWhile
            unfold digB
            rw [ra, decide_eq_true (by omega)]
            rcases r with _ | ⟨x, r⟩
            · simp
            · simp
          · have lt : (r.takeWhile Dc.isD).length < r.length := by
              rcases Nat.lt_or_ge (r.takeWhile Dc.isD).length r.length with h | h
              · exact h
              · exact absurd ((List.takeWhile_sublist (p := Dc.isD) (l := r)).eq_of_length (by omega)) full
            have ra : r.all Dc.isD = false := by
              apply Decidable.byContradiction; intro h
              have h : r.all Dc.isD = true := by simpa using h
              refine full ?_
              have := takeWhile_stop (l := r) (m := []) (fun c hc => List.all_eq_true.1 h c hc) (fun _ _ e => by cases e)
              rwa [List.append_nil] at this
            unfold digB
            rw [ra, decide_eq_false (by omega)]; simp
        rw [key]
        refine ⟨by simp, fun h => ⟨?_, ?_⟩⟩
        · rw [t1, ex _ (Nat.le_refl _), split, List.take_left]
        · rw [t2]
          have full : (r.takeWhile Dc.isD).length = r.length := by
            rw [← key] at h
            simp only [Bool.and_eq_true, decide_eq_true_eq] at h
            omega
          rw [full]
          have e : (s.extract (a + V.length + 1) (a + V.length + 1 + r.length)).data.toList = (s.data.toList.drop (a + V.length + 1)).take r.length := by simp [List.extract_eq_take_drop]
          rw [e, dr, List.take_length]
      · obtain ⟨q1, q2, q3⟩ := cut_cons r p
        obtain ⟨t1, t2, t3⟩ := take_bad (s := s) (a := a) nE (by omega) kl (by rw [gk]; exact p)
        rw [t3, q1]
        refine ⟨?_, fun h => by cases h⟩
        unfold digB
        simp [cd]
theorem okB_V {A : List UInt8} (h : okB A = true) : (cutW A).all Dc.isD = true := by
  unfold okB at h; simp only [Bool.and_eq_true] at h; exact digB_all h.1
theorem okB_F {A : List UInt8} (h : okB A = true) : (cutF A).all Dc.isD = true := by
  unfold okB at h; simp only [Bool.and_eq_true, Bool.or_eq_true, Bool.not_eq_true'] at h
  rcases h.2 with g | g
  · rw [cutF_none g]; rfl
  · exact digB_all g
set_option maxRecDepth 100000 in
set_option maxHeartbeats 4000000 in
theorem taken_bad (s : ByteArray) (v f : List UInt8) (neg : Bool)
    (k1 : ∀ w, Calls Tryd.prog 49 #[.string s] w fun e w' => e = .returned (.tuple #[.agg #[.bool neg, .string ⟨v.toArray⟩, .string ⟨f.toArray⟩], .bool false]) ∧ Below w.heap.size w w')
    (w : World) : Calls Tryd.prog 28 #[.string s] w fun e w' => e = .returned (.tuple #[.agg #[.int .u64 0, .int .u64 0, .bool false], .bool false, .int .i64 20]) ∧ Below w.heap.size w w' := by
  go_enter Tryd.func28, Tryd.ntmps28
  go_wp2_with fail
  refine (k1 _).mono ?_
  rintro e w1 ⟨rfl, h1⟩
  have B1 : Below w.heap.size w w1 := Below.trans (by go_grown) (h1.mono (by first | (simp; done) | omega | (simp; omega)))
  have y1 := B1.size
  have A0 := box3 h1 (w.heap.size) (.int .u64 0) (.int .u64 0) (.bool false) (by first | assumption | (simp [go_sem]; done) | (simp [go_sem]; done)) (by first | assumption | (simp [go_sem]; done) | (simp [go_sem]; done)) (by first | assumption | (simp [go_sem]; done) | (simp [go_sem]; done)) (by first | assumption | (simp [go_sem]; done) | (simp [go_sem]; done)) (by first | assumption | (simp [go_sem]; done) | (simp [go_sem]; done)) (by first | assumption | (simp [go_sem]; done) | (simp [go_sem]; done)) (by first | assumption | omega | (simp; done) | (simp; omega))
  obtain ⟨A0c0, A0c1, A0c2, A0f0, A0f1, A0f2, A0z⟩ := A0
  (try (have m1_0 : ¬ w.heap.size = w1.heap.size := by omega)); (try (have m1_0' : ¬ w1.heap.size = w.heap.size := by omega))
  clear h1 k1
  go_wp2_with fail
  refine bodyPost_ret (by simp [results, Tryd.results28, go_sem, A0c0, A0c1, A0c2, A0z]; try rfl) rfl ?_
  exact ⟨rfl, by go_grown⟩
set_option maxRecDepth 100000 in
set_option maxHeartbeats 4000000 in
theorem taken_fine (s : ByteArray) (v f : List UInt8) (neg : Bool) (hf : 6 < f.length)
    (k1 : ∀ w, Calls Tryd.prog 49 #[.string s] w fun e w' => e = .returned (.tuple #[.agg #[.bool neg, .string ⟨v.toArray⟩, .string ⟨f.toArray⟩], .bool true]) ∧ Below w.heap.size w w')
    (w : World) : Calls Tryd.prog 28 #[.string s] w fun e w' => e = .returned (.tuple #[.agg #[.int .u64 0, .int .u64 0, .bool false], .bool false, .int .i64 21]) ∧ Below w.heap.size w w' := by
  go_enter Tryd.func28, Tryd.ntmps28
  go_wp2_with fail
  refine (k1 _).mono ?_
  rintro e w1 ⟨rfl, h1⟩
  have B1 : Below w.heap.size w w1 := Below.trans (by go_grown) (h1.mono (by first | (simp; done) | omega | (simp; omega)))
  have y1 := B1.size
  have A0 := box3 h1 (w.heap.size) (.int .u64 0) (.int .u64 0) (.bool false) (by first | assumption | (simp [go_sem]; done) | (simp [go_sem]; done)) (by first | assumption | (simp [go_sem]; done) | (simp [go_sem]; done)) (by first | assumption | (simp [go_sem]; done) | (simp [go_sem]; done)) (by first | assumption | (simp [go_sem]; done) | (simp [go_sem]; done)) (by first | assumption | (simp [go_sem]; done) | (simp [go_sem]; done)) (by first | assumption | (simp [go_sem]; done) | (simp [go_sem]; done)) (by first | assumption | omega | (simp; done) | (simp; omega))
  obtain ⟨A0c0, A0c1, A0c2, A0f0, A0f1, A0f2, A0z⟩ := A0
  (try (have m1_0 : ¬ w.heap.size = w1.heap.size := by omega)); (try (have m1_0' : ¬ w1.heap.size = w.heap.size := by omega))
  clear h1 k1
  go_wp2_with fail
  refine bodyPost_ret (by simp [results, Tryd.results28, go_sem, A0c0, A0c1, A0c2, A0z]; try rfl) rfl ?_
  exact ⟨rfl, by go_grown⟩
def takenP (w : World) (l : List UInt8) (neg : Bool) (e : Ending) (w' : World) : Prop := ∃ y : Int, WAt l l.length y ∧ e = .returned (.tuple #[mgV y, .bool neg, .int .i64 0]) ∧ Below w.heap.size w w'
set_option maxRecDepth 100000 in
set_option maxHeartbeats 4000000 in
theorem taken_some (s : ByteArray) (v f l : List UInt8) (neg : Bool) (hf : ¬ 6 < f.length)
    (k1 : ∀ w, Calls Tryd.prog 49 #[.string s] w fun e w' => e = .returned (.tuple #[.agg #[.bool neg, .string ⟨v.toArray⟩, .string ⟨f.toArray⟩], .bool true]) ∧ Below w.heap.size w w')
    (k2 : ∀ w, Calls Tryd.prog 50 #[.agg #[.bool neg, .string ⟨v.toArray⟩, .string ⟨f.toArray⟩]] w (worthP w l))
    (w : World) : Calls Tryd.prog 28 #[.string s] w (takenP w l neg) := by
  go_enter Tryd.func28, Tryd.ntmps28
  go_wp2_with fail
  refine (k1 _).mono ?_
  rintro e w1 ⟨rfl, h1⟩
  have B1 : Below w.heap.size w w1 := Below.trans (by go_grown) (h1.mono (by first | (simp; done) | omega | (simp; omega)))
  have y1 := B1.size
  have A0 := box3 h1 (w.heap.size) (.int .u64 0) (.int .u64 0) (.bool false) (by first | assumption | (simp [go_sem]; done) | (simp [go_sem]; done)) (by first | assumption | (simp [go_sem]; done) | (simp [go_sem]; done)) (by first | assumption | (simp [go_sem]; done) | (simp [go_sem]; done)) (by first | assumption | (simp [go_sem]; done) | (simp [go_sem]; done)) (by first | assumption | (simp [go_sem]; done) | (simp [go_sem]; done)) (by first | assumption | (simp [go_sem]; done) | (simp [go_sem]; done)) (by first | assumption | omega | (simp; done) | (simp; omega))
  obtain ⟨A0c0, A0c1, A0c2, A0f0, A0f1, A0f2, A0z⟩ := A0
  clear h1 k1
  go_wp2_with fail
  refine abs_wp (fun W => W.cell? ⟨w.heap.size, 0, none⟩ = some (.int .u64 0) ∧ W.cell? ⟨w.heap.size, 1, none⟩ = some (.int .u64 0) ∧ W.cell? ⟨w.heap.size, 2, none⟩ = some (.bool false) ∧ W.frozen? ⟨w.heap.size, 0, none⟩ = false ∧ W.frozen? ⟨w.heap.size, 1, none⟩ = false ∧ W.frozen? ⟨w.heap.size, 2, none⟩ = false ∧ W.cell? ⟨w1.heap.size, 0, none⟩ = some (.bool neg) ∧ W.cell? ⟨w1.heap.size, 1, none⟩ = some (.string ⟨v.toArray⟩) ∧ W.cell? ⟨w1.heap.size, 2, none⟩ = some (.string ⟨f.toArray⟩) ∧ w.heap.size < W.heap.size ∧ w1.heap.size < W.heap.size ∧ Below w.heap.size w W) ?_ ?_
  · refine ⟨?_, ?_, ?_, ?_, ?_, ?_, ?_, ?_, ?_, ?_, ?_, ?_⟩
    all_goals first | assumption | (go_grown; done) | (simp [go_sem, A0c0, A0c1, A0c2, A0f0, A0f1, A0f2, A0z]; done) | (simp; done) | (simp; omega)
  rintro W ⟨c0, c1, c2, d0, d1, d2, e0, e1, e2, z0, z1, BW⟩
  have K0 := Keeps.start (Nat.le_refl W.heap.size)
  have K1 := K0.drew
  have J0 : Keeps (w.heap.size) W W := Keeps.start (by omega)
  have J1 := J0.drew
  have ne1 : ¬ w.heap.size = w1.heap.size := by omega
  have ne2 : ¬ w1.heap.size = w.heap.size := by omega
  clear A0c0 A0c1 A0c2 A0f0 A0f1 A0f2 A0z
  go_region_with (first
    | (go_at_call 50; (with_reducible refine (k2 _).mono ?_); rintro e v20 ⟨y, wa, rfl, hb20⟩; have K20 := Keeps.call (B := W.heap.size) (W := W) (by repeat (first | assumption | refine Keeps.alloc ?_ _ | refine Keeps.drew ?_ | refine Keeps.setCell ?_ (by first | (simp; done) | omega | (simp; omega)) _)) hb20; have n0 := K20.cell c0 z0; have n1 := K20.cell c1 z0; have n2 := K20.cell c2 z0; have n3 := K20.free d0 z0; have n4 := K20.free d1 z0; have n5 := K20.free d2 z0; have n6 := K20.cell e0 z1; have n7 := K20.cell e1 z1; have n8 := K20.cell e2 z1; have n9 := K20.size))
  all_goals
    have WA := hide wa
    have BE := BW.trans (K20.below.mono BW.size)
    have zz : w.heap.size < v20.heap.size := by omega
    clear K20 k2 wa c0 c1 c2 d0 d1 d2 e0 e1 e2
    go_wp2_with fail
    refine bodyPost_ret (by simp [results, Tryd.results28, go_sem, n0, n1, n2, n3, n4, n5, zz]; try rfl) rfl ?_
    refine ⟨y, WA.out, rfl, ?_⟩
    repeat (first | exact BE | refine Below.setCell ?_ (by first | (simp; done) | omega | (simp; omega)) _ | refine Below.drew ?_ | refine below_drewN ?_ _ | refine Below.alloc ?_ (by first | (simp; done) | omega | (simp; omega)) _)
end Go.Proofs.YtdjehbagnkfkpaaDoor
