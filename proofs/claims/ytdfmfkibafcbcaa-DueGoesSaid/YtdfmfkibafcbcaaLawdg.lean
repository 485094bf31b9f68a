/- due: DueGoes. -/
import Derived.Test.YtdfmfkibafcbcaaDgb
import Derived.Test.YtdfmfkibafcbcaaDse2
import Derived.Test.YtdfmfkibafcbcaaQrd
import Derived.Maps.OwnIn
namespace Go.Proofs.Ytdfmfkibafcbcaa
set_option linter.unusedVariables false
set_option linter.unusedSimpArgs false
open Go.RowKit W Go.Maps Go.Shelf
attribute [local go_sem] Oper.semAt_some
theorem QA.mono {B B' : Nat} {w : World} {qb kb mb lim : Nat} {v : Value} {r : List En} (h : QA B' w qb kb mb lim v r) (hB : B ≤ B') : QA B w qb kb mb lim v r := by
  obtain ⟨l, hl, p⟩ := h.hq
  exact ⟨h.q, ⟨l, ⟨⟨⟨hl.kq.km.k, own_mono7 hl.kq.km.row hB, hl.kq.km.map, Nat.le_trans hB hl.kq.km.bk, Nat.le_trans hB hl.kq.km.bm, hl.kq.km.sz⟩, hl.kq.keys, hl.kq.len⟩, hl.heap⟩, p⟩, h.srt, h.keys, h.le, h.mx, Nat.le_trans hB h.bq⟩
theorem with_tmps {c : Code} {P : Program} {Q : Exit → Act → World → Prop} {a : Act} {w : World} (h : ∀ tm, tm = a.tmps → c.wp P Q { tmps := tm, defers := a.defers } w) : c.wp P Q a w := h _ rfl
theorem ownG_below {gb kb mb rb : Nat} {W W' : World} {n : Nat} (h1 : gb < n) (h2 : kb < n) (h : Below n W W') (k : Nat) (q : ownG gb kb mb rb W' k) : ownG gb kb mb rb W k := by
  rcases q with q | q | q | q
  · exact .inl (ownB_below h1 h k q)
  · exact .inr (.inl (ownB_below h2 h k q))
  · exact .inr (.inr (.inl q))
  · exact .inr (.inr (.inr q))
theorem KpO.putG {gb kb mb rb m : Nat} (h1 : gb < m) (h2 : kb < m) (W : World) (l : Nat) (o o' : Obj) (hl : m ≤ l) (h : W.heap[l]? = some o) (hc : o.isCells = false) (_ : o.isWalk = false) : KpO (ownG gb kb mb rb) W (W.putObj l o') := by
  have g := grownBy_putObj' W l o'
  have ne : ∀ k cs t fr, W.heap[k]? = some (.cells cs t fr) → some k ≠ some l := fun k cs t fr e q => by
    injection q with q; subst q; rw [e] at h; cases h; cases hc
  have hb : ∀ b, b < m → ∀ k, ownB b (W.putObj l o') k → ownB b W k := fun b hb k q => by
    rcases q with q | ⟨s, e, q⟩
    · exact .inl q
    · refine .inr ⟨s, ?_, q⟩
      have hh : (W.putObj l o').heap[b]? = W.heap[b]? := World.putObj_heap_other (by omega)
      have : (W.putObj l o').cell? ⟨b, 0, none⟩ = W.cell? ⟨b, 0, none⟩ := by unfold World.cell?; simp only [hh]
      rw [← this]; exact e
  refine ⟨g.size, fun k cs t fr e _ => (g.block k (blk_lt e) (ne k cs t fr e)).trans e, fun k q => .inl ?_⟩
  rcases q with q | q | q | q
  · exact .inl (hb gb h1 k q)
  · exact .inr (.inl (hb kb h2 k q))
  · exact .inr (.inr (.inl q))
  · exact .inr (.inr (.inr q))
/-- An entry whose key is no longer than a key may be. -/
abbrev EnS := { e : En // e.1.size ≤ maxLen }
theorem exS : ∀ (r : List En), (∀ e ∈ r, e.1.size ≤ maxLen) → ∃ Rs : List EnS, Rs.map (fun e => e.1) = r
  | [], _ => ⟨[], rfl⟩
  | x :: r, h => by
    obtain ⟨Rs, e⟩ := exS r (fun y hy => h y (List.mem_cons_of_mem _ hy))
    exact ⟨⟨x, h x List.mem_cons_self⟩ :: Rs, by rw [List.map_cons, e]⟩
/-- What the assign code of a round leaves: the round's variable in a box of its own. -/
def AxG (gb kb : Nat) (tm : Array Value) (x : En) (a' : Act) (V : World) : Prop :=
  ∃ Bx s v, Bw V gb 27 #[s] ∧ (∃ m, Bw V kb 55 #[v, m]) ∧ s.ownBlock ≠ some Bx ∧ v.ownBlock ≠ some Bx ∧ Bw V Bx 43 #[.string x.1, .int .i64 x.2] ∧ a' = { tmps := (tm.setIfInBounds 76 (enV x)).setIfInBounds 16 (.pointer (some ⟨Bx, 0, none⟩)), defers := [] }
theorem AxG.turn {gb kb : Nat} {tm : Array Value} {x : En} {a' : Act} {X Y : World} {row : Option Nat} (h : AxG gb kb tm x a' X) (g : X.grownBy Y row) (hr : ∀ r, row = some r → ∃ o : Obj, X.heap[r]? = some o ∧ o.isCells = false) : AxG gb kb tm x a' Y := by
  obtain ⟨Bx, s, v, h1, ⟨m, h2⟩, h3, h4, h5, h6⟩ := h
  have C : Chg (fun k => row = some k) X Y := Chg.grown g (fun k e => e)
  have nb : ∀ {b : Nat} {t' : TypeId} {cs : Array Value}, Bw X b t' cs → ¬ row = some b := fun y e => by
    obtain ⟨o, q1, q2⟩ := hr _ e
    rw [bw_cells y q1] at q2; cases q2
  exact ⟨Bx, s, v, h1.chg C (nb h1), ⟨m, h2.chg C (nb h2)⟩, h3, h4, h5.chg C (nb h5), h6⟩
set_option maxRecDepth 100000 in
set_option maxHeartbeats 4000000 in
theorem law_DueGoes (a0 : Option Addr) (n c0 : Nat) (L : List En) (at' : Int) (key0 : ByteArray) (when : Int) (hn : L.length = n ∧ n ≤ 140737488355328) (hsz : ∀ e ∈ L, e.1.size ≤ maxLen) (hk0 : key0.size ≤ 140737488351232) (W : World) (hI : IsE W a0 L) :
    Calls Try.prog 4 #[.slice a0 n c0, .int .i64 at', .string key0, .int .i64 when] W fun e w' => e = .returned (.bool true) ∧ Below W.heap.size W w' := by
  obtain ⟨hn, hn2⟩ := hn
  have HI := hide hI
  have HS := hide hsz
  have HN := hide hn
  have HK0 : Hid (key0.size ≤ maxLen) := by show _ ≤ _; unfold maxLen; omega
  have k0 := fun w => qnew_ok 65536 (by decide) (by decide) w
  rw [show ((65536 : Nat) : Int) = 65536 from rfl] at k0
  have k2 := fun w => rnew7_ok 65536 (by decide) (by decide) w
  have ka := alive7_spec
  clear hI hsz hn hk0
  refine (callsIn_wide (n := 5)).1 (callsIn_of_wp_marks Try.func4 rfl trivial ?_ rfl)
  simp only [Try.ntmps4, List.size_toArray, List.length_cons, List.length_nil, Nat.reduceAdd, Nat.reduceSub, Array.replicate_succ, Array.replicate_zero, List.push_toArray, List.append_toArray, List.nil_append, List.cons_append]
  refine wpIn_wide.2 ?_
  go_upto_region 1 with fail
  obtain ⟨W1, hW1⟩ : ∃ W1, W1 = ((((W.alloc (.cells #[.int .i64 at'] 3)).alloc (.cells #[.string key0] 9)).alloc (.cells #[.int .i64 when] 2)).alloc (.cells #[.bool false] 4)) := ⟨_, rfl⟩
  have bW1 : Hid (Below W.heap.size W W1) := by
    rw [hW1]
    exact hide (((((Below.refl _ W).alloc (Nat.le_refl _) _).alloc (by simp) _).alloc (by simp; omega) _).alloc (by simp; omega) _)
  have x5 : Bw W1 W.heap.size 3 #[.int .i64 at'] := by rw [hW1]; exact (((Bw.new W _ _).later ((Below.refl _ _).alloc (Nat.le_refl _) _)).later ((Below.refl _ _).alloc (Nat.le_refl _) _)).later ((Below.refl _ _).alloc (Nat.le_refl _) _)
  have x6 : Bw W1 (W.heap.size + 1) 9 #[.string key0] := by
    rw [hW1]
    have h := ((Bw.new (W.alloc (.cells #[.int .i64 at'] 3)) 9 #[.string key0]).later ((Below.refl _ _).alloc (Nat.le_refl _) (.cells #[.int .i64 when] 2))).later ((Below.refl _ _).alloc (Nat.le_refl _) (.cells #[.bool false] 4))
    simpa using h
  have x7 : Bw W1 (W.heap.size + 1 + 1) 2 #[.int .i64 when] := by
    rw [hW1]
    have h := (Bw.new ((W.alloc (.cells #[.int .i64 at'] 3)).alloc (.cells #[.string key0] 9)) 2 #[.int .i64 when]).later ((Below.refl _ _).alloc (Nat.le_refl _) (.cells #[.bool false] 4))
    simpa using h
  have x8 : Bw W1 (W.heap.size + 1 + 1 + 1) 4 #[.bool false] := by
    rw [hW1]
    have h := Bw.new (((W.alloc (.cells #[.int .i64 at'] 3)).alloc (.cells #[.string key0] 9)).alloc (.cells #[.int .i64 when] 2)) 4 #[.bool false]
    simpa using h
  rw [← hW1]
  have b8B : W.heap.size ≤ W.heap.size + 1 + 1 + 1 := by omega
  generalize W.heap.size + 1 + 1 + 1 = b8 at x8 b8B ⊢
  generalize W.heap.size + 1 + 1 = b7 at x7 ⊢
  generalize W.heap.size + 1 = b6 at x6 ⊢
  clear hW1
  have kq := k0 W1
  go_upto_region 3 with (first
    | (go_at_call 6; refine kq.mono ?_; rintro e w1 ⟨qb, kb, mb, rfl, q1, b1⟩)
    | (go_at_call 7; refine (k2 _).mono ?_; rintro e w3 ⟨rfl, b3⟩))
  have z0 := bW1.out.size
  obtain ⟨W2, hW2⟩ : ∃ W2, W2 = w1.alloc (.cells #[.pointer (some ⟨qb, 0, none⟩)] 23) := ⟨_, rfl⟩
  rw [← hW2] at b3
  have b2 : Below w1.heap.size w1 W2 := by rw [hW2]; exact (Below.refl _ _).alloc (Nat.le_refl _) _
  have x9 : Bw W2 w1.heap.size 23 #[.pointer (some ⟨qb, 0, none⟩)] := by rw [hW2]; exact Bw.new _ _ _
  obtain ⟨W4, hW4⟩ : ∃ W4, W4 = w3.alloc (.cells #[.int .i64 65536, .slice none 0 0] 29) := ⟨_, rfl⟩
  have b4 : Below w3.heap.size w3 W4 := by rw [hW4]; exact (Below.refl _ _).alloc (Nat.le_refl _) _
  have r4 : Bw W4 w3.heap.size 29 #[.int .i64 65536, .slice none 0 0] := by rw [hW4]; exact Bw.new w3 _ _
  rw [← hW4]
  have z1 := b1.size
  have z2 := b2.size
  have z3 := b3.size
  obtain ⟨rb, hrb⟩ : ∃ rb, rb = w3.heap.size := ⟨_, rfl⟩
  obtain ⟨b9, hb9⟩ : ∃ b9, b9 = w1.heap.size := ⟨_, rfl⟩
  rw [← hb9] at x9 ⊢
  rw [← hrb] at r4 ⊢
  have rbB : W.heap.size ≤ rb := by omega
  have J0 : Hid (LJ W qb kb mb rb W.heap.size b6 b7 b8 b9 at' key0 when W4 (.slice none 0 0) none 0 [] []) := by
    have bb := b2.trans ((b3.mono z2).trans (b4.mono (by omega)))
    have q4 := (q1.mono z0).later bb
    have m := (b1.trans (bb.mono z1))
    have w4 : Below W1.heap.size W1 W4 := m
    exact ⟨⟨q4, ⟨r4, .inl rfl, Nat.le_refl _, Nat.zero_le _, fun _ e => (by cases e), fun _ => rfl, fun _ e => (by cases e)⟩, List.Pairwise.nil, Nat.zero_le _, bW1.out.trans (m.mono z0), fun _ e => by cases e⟩, ⟨x5.later w4, x6.later w4, x7.later w4, x8.later w4, x9.later ((b3.mono (Nat.le_refl _)).trans (b4.mono (by omega)))⟩⟩
  have BZ : Hid (W.heap.size ≤ b8) := b8B
  clear k0 k2 kq q1 b1 b2 b3 b4 r4 x5 x6 x7 x8 x9 hW2 hW4 hrb hb9 z1 z2 z3 z0 bW1 b8B
  have c9 := J0.out.bx.x9.cell 0 _ rfl
  have l9 := J0.out.bx.x9.lt
  have c8 := J0.out.bx.x8.cell 0 _ rfl
  have f8 := J0.out.bx.x8.frz 0
  have l8 := J0.out.bx.x8.lt
  by_cases hbig : 65000 < n
  · have d1 : decide (65000 < (n : Int)) = true := by rw [decide_eq_true_eq]; omega
    have d2 : decide (65000 < n) = true := by rw [decide_eq_true_eq]; omega
    have bl : Below W.heap.size W (W4.setCell ⟨b8, 0, none⟩ (.bool true)) := J0.out.dj.bl.setCell (p := ⟨b8, 0, none⟩) BZ.out _
    have BL := hide bl
    have x8' : (W4.setCell ⟨b8, 0, none⟩ (.bool true)).cell? ⟨b8, 0, none⟩ = some (.bool true) := (J0.out.bx.x8.set 0 (.bool true)).cell 0 _ rfl
    clear bl
    go_wp2_with fail
    exact ⟨_, by simp [results, Try.results4, go_sem, x8']; try rfl, rfl, BL.out⟩
  have d1 : decide (65000 < (n : Int)) = false := by rw [decide_eq_false_iff_not]; omega
  have d2 : decide (65000 < n) = false := by rw [decide_eq_false_iff_not]; omega
  clear c8 f8
  have J4 := J0
  have SZ0 : Hid (∀ e ∈ ([] : List En), e.1.size ≤ maxLen) := fun e h => by cases h
  clear J0
  go_wp2_with fail
  clear c9 l9 l8
  go_loopw [13] (fun s13 wr => ∃ (i : Nat) (v : Value) (a : Option Addr) (c : Nat) (r : List En), s13 = .int .i64 (i : Int) ∧ i ≤ n ∧ Hid (LJ W qb kb mb rb W.heap.size b6 b7 b8 b9 at' key0 when wr v a c r r) ∧ Hid (∀ e ∈ r, e.1.size ≤ maxLen)) (fun s13 _ => n - (intOf s13).toNat)
  case atStart => exact ⟨0, _, _, _, [], rfl, by omega, J4, SZ0⟩
  case round =>
    obtain ⟨i, v, a, c, r, rfl, hi, N, SZ⟩ := hrel
    by_cases hlt : i < n
    · have e1 : decide ((i : Int) < (n : Int)) = true := by rw [decide_eq_true_eq]; omega
      have e2 : decide (i < n) = true := by rw [decide_eq_true_eq]; omega
      have il : i < L.length := by have := HN.out; omega
      obtain ⟨g, o, rfl, gl, x0, x1⟩ := HI.out.at_ il
      have xs : L[i].1.size ≤ maxLen := HS.out _ (List.getElem_mem il)
      obtain ⟨⟨key, t⟩, hq⟩ : ∃ q, q = L[i] := ⟨_, rfl⟩
      rw [← hq] at x0 x1 xs
      dsimp only at x0 x1 xs
      have CE : Hid (∀ V v' a' c' r1 r2, LJ W qb kb mb rb W.heap.size b6 b7 b8 b9 at' key0 when V v' a' c' r1 r2 → V.cell? ⟨g, o + i * 2, none⟩ = some (.string key) ∧ V.cell? ⟨g, o + i * 2 + 1, none⟩ = some (.int .i64 t) ∧ V.cell? ⟨b9, 0, none⟩ = some (.pointer (some ⟨qb, 0, none⟩)) ∧ g < V.heap.size ∧ b9 < V.heap.size) := fun V v' a' c' r1 r2 h => ⟨(h.dj.bl.cell (p := ⟨g, o + i * 2, none⟩) gl).trans x0, (h.dj.bl.cell (p := ⟨g, o + i * 2 + 1, none⟩) gl).trans x1, h.bx.x9.cell 0 _ rfl, Nat.lt_of_lt_of_le gl h.dj.bl.size, h.bx.x9.lt⟩
      obtain ⟨y0, y1, y2, y3, y4⟩ := CE.out _ _ _ _ _ _ N.out
      obtain ⟨C, hC⟩ : ∃ C, C = stC 65536 r key := ⟨_, rfl⟩
      obtain ⟨D, hD⟩ : ∃ D, D = stR 65536 r key t := ⟨_, rfl⟩
      have SZ2 : Hid (∀ e ∈ D, e.1.size ≤ maxLen) := by rw [hD]; exact hide (stR_sz SZ.out xs t)
      have KP : Hid (∀ V, Below wr.heap.size wr V → Calls Try.prog 13 #[.pointer (some ⟨qb, 0, none⟩), .string key, .int .i64 t] V fun e w' => ∃ v', e = .returned (.int .i64 C) ∧ Hid (LJ W qb kb mb rb W.heap.size b6 b7 b8 b9 at' key0 when w' v' a c D r) ∧ w'.cell? ⟨g, o + i * 2, none⟩ = some (.string key) ∧ w'.cell? ⟨g, o + i * 2 + 1, none⟩ = some (.int .i64 t) ∧ w'.cell? ⟨b9, 0, none⟩ = some (.pointer (some ⟨qb, 0, none⟩))) := fun V b => by
        rw [hC, hD]
        refine (lset (N.out.later b) key xs t).mono ?_
        rintro e w' ⟨v', rfl, o⟩
        obtain ⟨s0, s1, s2, _⟩ := CE.out _ _ _ _ _ _ o.out
        exact ⟨v', rfl, o, s0, s1, s2⟩
      have KR : Hid (∀ V v', LJ W qb kb mb rb W.heap.size b6 b7 b8 b9 at' key0 when V v' a c D r → Calls Try.prog 14 #[.pointer (some ⟨rb, 0, none⟩), .string key, .int .i64 t] V fun e w' => ∃ a' c', e = .returned (.int .i64 C) ∧ Hid (LJ W qb kb mb rb W.heap.size b6 b7 b8 b9 at' key0 when w' v' a' c' D D) ∧ w'.cell? ⟨g, o + i * 2, none⟩ = some (.string key) ∧ w'.cell? ⟨g, o + i * 2 + 1, none⟩ = some (.int .i64 t)) := fun V v' h => by
        have k := lrset h rbB key t
        rw [← hC, ← hD] at k
        refine k.mono ?_
        rintro e w' ⟨a', c', rfl, o⟩
        obtain ⟨s0, s1, s2, _⟩ := CE.out _ _ _ _ _ _ o.out
        exact ⟨a', c', rfl, o, s0, s1⟩
      have S0 : wr.cell? ⟨g, o + i * 2, none⟩ = some (.string key) ∧ wr.cell? ⟨g, o + i * 2 + 1, none⟩ = some (.int .i64 t) ∧ wr.cell? ⟨b9, 0, none⟩ = some (.pointer (some ⟨qb, 0, none⟩)) := ⟨y0, y1, y2⟩
      clear hq hC hD x0 x1 gl
      go_wp2_with fail
      go_region_held3 (fun w' => w'.cell? ⟨g, o + i * 2, none⟩ = some (.string key) ∧ w'.cell? ⟨g, o + i * 2 + 1, none⟩ = some (.int .i64 t) ∧ w'.cell? ⟨b9, 0, none⟩ = some (.pointer (some ⟨qb, 0, none⟩)))
        (first | exact S0 | exact S4)
        ((go_at_call 13; (with_reducible refine Calls.mono (KP.out _ (by first | exact Below.refl _ _ | exact (Below.refl _ _).drew | exact below_drewN (Below.refl _ _) _)) ?_); rintro e w4 ⟨v4, rfl, M4, s41, s42, s43⟩; have S4 : w4.cell? ⟨g, o + i * 2, none⟩ = some (.string key) ∧ w4.cell? ⟨g, o + i * 2 + 1, none⟩ = some (.int .i64 t) ∧ w4.cell? ⟨b9, 0, none⟩ = some (.pointer (some ⟨qb, 0, none⟩)) := ⟨s41, s42, s43⟩))
      go_wp2_with fail
      refine abs_wp (fun V => Hid (LJ W qb kb mb rb W.heap.size b6 b7 b8 b9 at' key0 when V v4 a c D r)) (hide (M4.out.later (by first | exact Below.refl _ _ | exact (Below.refl _ _).drew | exact below_drewN (Below.refl _ _) _))) ?_
      rintro V5 M5
      obtain ⟨t0, t1, t2, t3, t4⟩ := CE.out _ _ _ _ _ _ M5.out
      have S5 : V5.cell? ⟨g, o + i * 2, none⟩ = some (.string key) ∧ V5.cell? ⟨g, o + i * 2 + 1, none⟩ = some (.int .i64 t) := ⟨t0, t1⟩
      clear S0 S4 s41 s42 s43 y0 y1 y2
      go_region_held3 (fun w' => w'.cell? ⟨g, o + i * 2, none⟩ = some (.string key) ∧ w'.cell? ⟨g, o + i * 2 + 1, none⟩ = some (.int .i64 t))
        (first | exact S5 | exact S6)
        ((go_at_call 14; (with_reducible refine Calls.mono (KR.out _ _ (M5.out.later (by first | exact Below.refl _ _ | exact (Below.refl _ _).drew | exact below_drewN (Below.refl _ _) _))) ?_); rintro e w6 ⟨a6, c6, rfl, M6, s61, s62⟩; have S6 : w6.cell? ⟨g, o + i * 2, none⟩ = some (.string key) ∧ w6.cell? ⟨g, o + i * 2 + 1, none⟩ = some (.int .i64 t) := ⟨s61, s62⟩))
      go_wp2_with fail
      go_roundw
      case rel => exact ⟨i + 1, v4, a6, c6, D, by go_num, by omega, hide (M6.out.later (by first | exact Below.refl _ _ | exact (Below.refl _ _).drew | exact below_drewN (Below.refl _ _) _)), SZ2⟩
      case measure => (first | (simp [intOf]; done) | (simp [intOf]; omega))
    · obtain rfl : i = n := by omega
      have e1 : decide ((i : Int) < (i : Int)) = false := by rw [decide_eq_false_iff_not]; omega
      have e2 : decide (i < i) = false := by rw [decide_eq_false_iff_not]; omega
      have c9 := N.out.bx.x9.cell 0 _ rfl
      have l9 := N.out.bx.x9.lt
      obtain ⟨n0, hn0⟩ : ∃ n0, n0 = r.length := ⟨_, rfl⟩
      have cr : wr.cell? ⟨rb, 1, none⟩ = some (.slice a n0 c) := by rw [hn0]; exact N.out.dj.rq.r.cell 1 _ rfl
      have lr := N.out.dj.rq.r.lt
      have HN0 := hide hn0
      clear hn0
      go_upto_region 13 with (go_at_call 15; refine (qall_call _ _).mono ?_; rintro e w1 ⟨rfl, rfl⟩)
      have hl9 := N.out.dj.bl.size
      obtain ⟨W5, hW5⟩ : ∃ W5, W5 = (((wr.alloc (.cells #[.slice none 0 0] 27)).alloc (.cells #[.slice a n0 c] 27)).alloc (.cells #[.pointer (some ⟨qb, 0, none⟩)] 23)) := ⟨_, rfl⟩
      have b5' : Below wr.heap.size wr W5 := by rw [hW5]; exact (((Below.refl _ wr).alloc (Nat.le_refl _) _).alloc (by simp) _).alloc (by simp; omega) _
      have xg : Bw W5 wr.heap.size 27 #[.slice none 0 0] := by rw [hW5]; exact ((Bw.new wr _ _).later ((Below.refl _ _).alloc (Nat.le_refl _) _)).later ((Below.refl _ _).alloc (Nat.le_refl _) _)
      have xo : Bw W5 (wr.heap.size + 1) 27 #[.slice a n0 c] := by
        rw [hW5]
        have h := (Bw.new (wr.alloc (.cells #[.slice none 0 0] 27)) 27 #[.slice a n0 c]).later ((Below.refl _ _).alloc (Nat.le_refl _) (.cells #[.pointer (some ⟨qb, 0, none⟩)] 23))
        simpa using h
      have xb : Boxed W5 (wr.heap.size + 1 + 1) 23 (.pointer (some ⟨qb, 0, none⟩)) := by
        rw [hW5]
        have h := Boxed.new ((wr.alloc (.cells #[.slice none 0 0] 27)).alloc (.cells #[.slice a n0 c] 27)) 23 (.pointer (some ⟨qb, 0, none⟩))
        simpa using h
      have z5 : W5.heap.size = wr.heap.size + 1 + 1 + 1 := by rw [hW5]; simp
      rw [← hW5]
      clear hW5
      obtain ⟨gb, hgb⟩ : ∃ gb, gb = wr.heap.size := ⟨_, rfl⟩
      rw [← hgb] at xg xo xb z5 ⊢
      obtain ⟨ob, hob⟩ : ∃ ob, ob = gb + 1 := ⟨_, rfl⟩
      rw [← hob] at xo xb z5 ⊢
      obtain ⟨Bl, hBl⟩ : ∃ Bl, Bl = W5.heap.size := ⟨_, rfl⟩
      have J5 := N.out.later b5'
      have P : Hid (GP W gb Bl qb kb mb rb gb ob a) := by
        refine ⟨rfl, by omega, ?_, by omega, rbB, fun ad e => ⟨by have := N.out.dj.rq.alt ad e; omega, ?_⟩⟩
        · have := (N.out.dj.qa.old mb (.inr (.inl rfl))).2; omega
        · obtain ⟨g, o, e2, ne⟩ := N.out.dj.rq.adr ad e
          rw [e2]; exact ne
      have G0 : Hid (GO W gb Bl qb kb mb rb gb ob W.heap.size b6 b7 b8 b9 at' key0 when r a n0 c W5 v (.slice none 0 0) a c r r []) := by
        refine ⟨J5.dj, J5.bx, xo, xg, World.ownsRow_nil _ _ _ _, Apt.nil _, fun ad e => ⟨fun z => (by cases z), ?_⟩, J5.dj.rq.is, J5.dj.na⟩
        have := N.out.dj.rq.alt ad e; omega
      have kbl : kb < W5.heap.size := (J5.dj.qa.old kb (.inl rfl)).2
      have gbl : gb < W5.heap.size := by omega
      have HSZ := SZ
      have HXB := hide xb
      have RL : r.length ≤ 65536 := J5.dj.le
      clear c9 l9 cr lr N b5' xg xo J5 SZ hl9 hgb hob z5 xb
      obtain ⟨Rs, hRs⟩ : ∃ Rs : List EnS, Rs.map (fun e => e.1) = r := exS r HSZ.out
      have HRS := hide hRs
      clear hRs
      refine with_tmps ?_
      intro tm htm
      dsimp only at htm ⊢
      refine (wpIn_wide (n := 5)).1 (wpIn_rangeFunc_ownH (F := Fence.wide) rfl (by decide) (gf := 31) (lb := #[.pointer (some ⟨ob + 1, 0, none⟩)]) (by rw [htm]; rfl) trivial (enters_of Try.func31 (by kernel_rfl) rfl)
        (seq_spec2 (fun e : EnS => e.1) (by decide) G0.out.dj.qa Rs HRS.out HXB.out.cell HXB.out.lt (ownG gb kb mb rb) (fun k q => G0.out.own_lt P.out k q) (fun V V' z b => ownG_below (by omega) (by omega) b) (fun V b => ownG_below gbl kbl b))
        KpO.trans (KpO.putG gbl kbl) (Below.refl _ _) (fun _ => rfl)
        (fun pre V => ∃ v s a' c' r', GO W gb Bl qb kb mb rb gb ob W.heap.size b6 b7 b8 b9 at' key0 when r a n0 c V v s a' c' r' r' (pre.map fun e => e.1)) (fun _ _ _ => False)
        (fun pre V V' row hs hg hr => by obtain ⟨v, s, a', c', r', g⟩ := hs; exact ⟨v, s, a', c', r', g.turn P.out hg (by rw [hBl]; exact hr)⟩) (fun _ _ _ _ _ h _ _ => h) ⟨_, _, _, _, _, G0.out⟩
        (fun x a' V => AxG gb kb tm x.1 a' V) (fun x a' _ X Y row hs hg hr => AxG.turn hs hg (fun r e => (hr r e).2))
        ?assign ?body ?done ?stop)
      case assign =>
        rintro l pre ⟨⟨xk, xa⟩, hxs⟩ V K ⟨v, s, a', c', r', g⟩ hK
        have b1 : Below V.heap.size V (V.alloc (.cells #[.string xk, .int .i64 xa] 43)) := (Below.refl _ _).alloc (Nat.le_refl _) _
        have g1 := g.later b1
        have C := Chg.of_below (S := fun _ => False) b1
        have kp := kp_of_chg (own := ownG gb kb mb rb) C (fun _ z => z.elim) (g.own_mv g1 (Mvd.refl _ _) (Mvd.refl _ _))
        obtain ⟨l1, h1, _⟩ := g1.dj.qa.hq
        have ax : ∀ a', a' = { tmps := (tm.setIfInBounds 76 (enV (xk, xa))).setIfInBounds 16 (.pointer (some ⟨V.heap.size, 0, none⟩)), defers := [] } → AxG gb kb tm (xk, xa) a' (V.alloc (.cells #[.string xk, .int .i64 xa] 43)) := fun a' e => by
          refine ⟨V.heap.size, s, v, g1.xg, ⟨_, h1.kq.km.k⟩, fun z => ?_, fun z => ?_, Bw.new _ _ _, e⟩
          · have := (own_old g.row z).2; omega
          · have := (g.dj.qa.old _ (.inr (.inr z))).2; omega
        have AX := hide ax
        have KK := hK
        clear ax hK g
        subst htm
        gi_wp2
        exact KK _ _ ((KeepsOthers.alloc _ _).from _) kp ⟨_, _, _, _, _, g1⟩ (AX.out _ (by simp only [List.setIfInBounds_toArray, List.set_cons_succ, List.set_cons_zero, enV]))
      case body =>
        rintro l preS ⟨⟨xk, xa⟩, hxs⟩ a' V hl hrec ⟨v, s, a1, c1, r1, g⟩ ⟨Bx, s', v', xg', ⟨m', xk'⟩, ns, nv, bd, rfl⟩ hlen
        have XS : Hid (xk.size ≤ maxLen) := hxs
        dsimp only at bd ⊢
        have hlp : (preS.map fun e => e.1).length = preS.length := List.length_map _
        obtain ⟨pre, hpre⟩ : ∃ pre, pre = preS.map fun e => e.1 := ⟨_, rfl⟩
        have HPRE := hide hpre
        rw [← hlp, ← hpre] at hlen
        rw [← hpre] at g
        clear hlp hpre
        obtain ⟨l1, h1, _⟩ := g.dj.qa.hq
        obtain rfl : s' = s := by have e := xg'.inj g.xg; simpa using e
        obtain rfl : v' = v := by have e := xk'.inj h1.kq.km.k; simp at e; exact e.1
        have R0 : Hid (GR W gb Bl qb kb mb rb gb ob W.heap.size b6 b7 b8 b9 at' key0 when r a n0 c V Bx (xk, xa) V v' s' a1 c1 r1 r1 pre) := ⟨g, KeepsFrom.refl _ _, kp_of_chg (S := fun _ => False) (Chg.refl _ _) (fun _ z => z.elim) (fun _ z => .inl z), bd, nv, ns⟩
        obtain ⟨A, cs, rfl, _, _⟩ := own_form g.row
        obtain ⟨m, hm⟩ : ∃ m, m = pre.length := ⟨_, rfl⟩
        rw [← hm] at R0 hlen g xg' ns
        rw [← HN0.out] at hlen
        have n0l : n0 ≤ 65536 := by rw [HN0.out]; exact RL
        have HM := hide hm
        have cg : V.cell? ⟨gb, 0, none⟩ = some (.slice A m cs) := g.xg.cell 0 _ rfl
        have lg := g.xg.lt
        have c5 : V.cell? ⟨W.heap.size, 0, none⟩ = some (.int .i64 at') := g.bx.x5.cell 0 _ rfl
        have l5 := g.bx.x5.lt
        have sV := g.size P.out
        obtain ⟨i0, hi0⟩ : ∃ i0, Hid (Try.prog.info? 43 = some i0 ∧ i0.zero = some (.agg #[.string ByteArray.empty, .int .i64 0]) ∧ i0.size = 2 ∧ i0.bytes = 24) := by
          obtain ⟨i0, h1, h2, h3, h4⟩ := info_parts info_due
          exact ⟨i0, h1, h2, h3, h4⟩
        clear h1 hm xg' xk' ns nv bd hl hrec g
        subst htm
        simp only [List.setIfInBounds_toArray, List.set_cons_succ, List.set_cons_zero, enV]
        by_cases hq : (m : Int) = at'
        · have f : ((m : Int) == at') = true := by rw [beq_iff_eq]; exact hq
          clear hq
          obtain ⟨C1, hC1⟩ : ∃ C1, C1 = stC 65536 r1 key0 := ⟨_, rfl⟩
          obtain ⟨D1, hD1⟩ : ∃ D1, D1 = stR 65536 r1 key0 when := ⟨_, rfl⟩
          have S3 : Hid (∀ w2 v2 s2 a2 c2 r2 r3 p2, GR W gb Bl qb kb mb rb gb ob W.heap.size b6 b7 b8 b9 at' key0 when r a n0 c V Bx (xk, xa) w2 v2 s2 a2 c2 r2 r3 p2 → w2.cell? ⟨b9, 0, none⟩ = some (.pointer (some ⟨qb, 0, none⟩)) ∧ w2.cell? ⟨b6, 0, none⟩ = some (.string key0) ∧ w2.cell? ⟨b7, 0, none⟩ = some (.int .i64 when)) := fun w2 v2 s2 a2 c2 r2 r3 p2 h => ⟨h.go.bx.x9.cell 0 _ rfl, h.go.bx.x6.cell 0 _ rfl, h.go.bx.x7.cell 0 _ rfl⟩
          have KP : Hid (∀ w2 a2 c2 r3, GR W gb Bl qb kb mb rb gb ob W.heap.size b6 b7 b8 b9 at' key0 when r a n0 c V Bx (xk, xa) w2 v' (.slice A m cs) a2 c2 r1 r3 pre → Calls Try.prog 13 #[.pointer (some ⟨qb, 0, none⟩), .string key0, .int .i64 when] w2 fun e w3 => ∃ v3, e = .returned (.int .i64 C1) ∧ Hid (GR W gb Bl qb kb mb rb gb ob W.heap.size b6 b7 b8 b9 at' key0 when r a n0 c V Bx (xk, xa) w3 v3 (.slice A m cs) a2 c2 D1 r3 pre) ∧ (w3.cell? ⟨b9, 0, none⟩ = some (.pointer (some ⟨qb, 0, none⟩)) ∧ w3.cell? ⟨b6, 0, none⟩ = some (.string key0) ∧ w3.cell? ⟨b7, 0, none⟩ = some (.int .i64 when))) := by
            intro w2 a2 c2 r3 h
            rw [hC1, hD1]
            refine (gset h P.out key0 HK0.out when).mono ?_
            rintro e w3 ⟨v3, rfl, g⟩
            exact ⟨v3, rfl, g, S3.out _ _ _ _ _ _ _ _ g.out⟩
          have KR : Hid (∀ w2 v2 r3, GR W gb Bl qb kb mb rb gb ob W.heap.size b6 b7 b8 b9 at' key0 when r a n0 c V Bx (xk, xa) w2 v2 (.slice A m cs) a1 c1 r3 r1 pre → Calls Try.prog 14 #[.pointer (some ⟨rb, 0, none⟩), .string key0, .int .i64 when] w2 fun e w3 => ∃ a3 c3, e = .returned (.int .i64 C1) ∧ Hid (GR W gb Bl qb kb mb rb gb ob W.heap.size b6 b7 b8 b9 at' key0 when r a n0 c V Bx (xk, xa) w3 v2 (.slice A m cs) a3 c3 r3 D1 pre) ∧ (w3.cell? ⟨b9, 0, none⟩ = some (.pointer (some ⟨qb, 0, none⟩)) ∧ w3.cell? ⟨b6, 0, none⟩ = some (.string key0) ∧ w3.cell? ⟨b7, 0, none⟩ = some (.int .i64 when))) := by
            intro w2 v2 r3 h
            rw [hC1, hD1]
            refine (grset h P.out key0 when).mono ?_
            rintro e w3 ⟨a3, c3, rfl, g⟩
            exact ⟨a3, c3, rfl, g, S3.out _ _ _ _ _ _ _ _ g.out⟩
          have cc : (C1 == C1) = true := by simp
          have cn : (C1 != C1) = false := by simp
          clear hC1 hD1
          have k9 : V.cell? ⟨b9, 0, none⟩ = some (.pointer (some ⟨qb, 0, none⟩)) := R0.out.go.bx.x9.cell 0 _ rfl
          have k6 : V.cell? ⟨b6, 0, none⟩ = some (.string key0) := R0.out.go.bx.x6.cell 0 _ rfl
          have k7 : V.cell? ⟨b7, 0, none⟩ = some (.int .i64 when) := R0.out.go.bx.x7.cell 0 _ rfl
          gi_wp2
          refine wpIn_region_round (fun w' => w'.cell? ⟨b9, 0, none⟩ = some (.pointer (some ⟨qb, 0, none⟩)) ∧ w'.cell? ⟨b6, 0, none⟩ = some (.string key0) ∧ w'.cell? ⟨b7, 0, none⟩ = some (.int .i64 when)) (by kernel_rfl) (by kernel_rfl) (by rintro ⟨_, _, h⟩; exact h) ⟨k9, k6, k7⟩ (fun hHeld => ?_)
          refine wpAnyH_take (i := 0) (oi := ({ dst := some 81, op := Op.load 23 (Operand.tmp 9), type := 23, pos := "law.go:136", after := #[], guard := none } : Oper)) (v := ?_) rfl (by kernel_rfl) (by kernel_rfl) (by kernel_rfl) (fun _ _ _ h => h) (Or.inl ⟨by rfl, ?_⟩) (by assumption) ?_
          rotate_left
          · (intro w hSw; (try dsimp only at hSw); go_simp; (try with_reducible rfl))
          (try simp only [Act.put, List.setIfInBounds_toArray, List.set_cons_zero, List.set_cons_succ])
          refine wpAnyH_take (i := 1) (oi := ({ dst := some 82, op := Op.load 9 (Operand.tmp 6), type := 9, pos := "law.go:136", after := #[], guard := none } : Oper)) (v := ?_) rfl (by kernel_rfl) (by kernel_rfl) (by kernel_rfl) (fun _ _ _ h => h) (Or.inl ⟨by rfl, ?_⟩) (by assumption) ?_
          rotate_left
          · (intro w hSw; (try dsimp only at hSw); go_simp; (try with_reducible rfl))
          (try simp only [Act.put, List.setIfInBounds_toArray, List.set_cons_zero, List.set_cons_succ])
          refine wpAnyH_take (i := 2) (oi := ({ dst := some 83, op := Op.load 2 (Operand.tmp 7), type := 2, pos := "law.go:136", after := #[], guard := none } : Oper)) (v := ?_) rfl (by kernel_rfl) (by kernel_rfl) (by kernel_rfl) (fun _ _ _ h => h) (Or.inl ⟨by rfl, ?_⟩) (by assumption) ?_
          rotate_left
          · (intro w hSw; (try dsimp only at hSw); go_simp; (try with_reducible rfl))
          (try simp only [Act.put, List.setIfInBounds_toArray, List.set_cons_zero, List.set_cons_succ])
          refine wpAnyH_take (i := 4) (oi := ({ dst := some 85, op := Op.load 9 (Operand.tmp 6), type := 9, pos := "law.go:136", after := #[], guard := none } : Oper)) (v := ?_) rfl (by kernel_rfl) (by kernel_rfl) (by kernel_rfl) (fun _ _ _ h => h) (Or.inl ⟨by rfl, ?_⟩) (by assumption) ?_
          rotate_left
          · (intro w hSw; (try dsimp only at hSw); go_simp; (try with_reducible rfl))
          (try simp only [Act.put, List.setIfInBounds_toArray, List.set_cons_zero, List.set_cons_succ])
          refine wpAnyH_take (i := 5) (oi := ({ dst := some 86, op := Op.load 2 (Operand.tmp 7), type := 2, pos := "law.go:136", after := #[], guard := none } : Oper)) (v := ?_) rfl (by kernel_rfl) (by kernel_rfl) (by kernel_rfl) (fun _ _ _ h => h) (Or.inl ⟨by rfl, ?_⟩) (by assumption) ?_
          rotate_left
          · (intro w hSw; (try dsimp only at hSw); go_simp; (try with_reducible rfl))
          (try simp only [Act.put, List.setIfInBounds_toArray, List.set_cons_zero, List.set_cons_succ])
          refine wpAnyH_ready (rs := [3]) (by kernel_rfl) (by simp) ?_
          refine AllReadyH.cons (o := ({ dst := some 84, op := Op.call { callee := Callee.value (Operand.func 13), args := #[Operand.tmp 81, Operand.tmp 82, Operand.tmp 83], argTypes := #[23, 9, 2] }, type := 24, pos := "law.go:136", after := #[{ on := 0, ground := Ground.data }, { on := 1, ground := Ground.data }, { on := 2, ground := Ground.data }], guard := none } : Oper)) rfl (fun K hK => ?_) ?_
          · go_simp
            go_at_call 13; (with_reducible refine Calls.mono (KP.out _ _ _ _ (R0.out.later P.out (by first | exact Below.refl _ _ | exact (Below.refl _ _).drew | exact below_drewN (Below.refl _ _) _))) ?_); rintro e w4 ⟨v4, rfl, M4, S4⟩
            refine hK.out _ _ ?_ (fun hHeld => ?_)
            · exact S4
            clear hK K
            (try simp only [Act.put, List.setIfInBounds_toArray, List.set_cons_zero, List.set_cons_succ])
            refine wpAnyH_ready (rs := [6]) (by kernel_rfl) (by simp) ?_
            refine AllReadyH.cons (o := ({ dst := some 87, op := Op.call { callee := Callee.value (Operand.func 14), args := #[Operand.tmp 11, Operand.tmp 85, Operand.tmp 86], argTypes := #[29, 9, 2] }, type := 3, pos := "law.go:136", after := #[{ on := 4, ground := Ground.data }, { on := 5, ground := Ground.data }, { on := 3, ground := Ground.chain }], guard := none } : Oper)) rfl (fun K hK => ?_) ?_
            · go_simp
              go_at_call 14; (with_reducible refine Calls.mono (KR.out _ _ _ (M4.out.later P.out (by first | exact Below.refl _ _ | exact (Below.refl _ _).drew | exact below_drewN (Below.refl _ _) _))) ?_); rintro e w5 ⟨a5, c5, rfl, M5, S5⟩
              refine hK.out _ _ ?_ (fun hHeld => ?_)
              · exact S5
              clear hK K
              (try simp only [Act.put, List.setIfInBounds_toArray, List.set_cons_zero, List.set_cons_succ])
              obtain ⟨k, hk⟩ : ∃ k, k = D1.length := ⟨_, rfl⟩
              obtain ⟨mm, hmm⟩ : ∃ m : Int, m = (k : Int) + 1 := ⟨_, rfl⟩
              have kl : k ≤ 65536 := by rw [hk]; exact M5.out.go.dj.le
              have wm : IntKind.i64.wrap ((k : Int) + 1) = mm := by rw [IntKind.wrap_i64]; omega
              have E := hide (M5.out.go.dj.endK hk hmm)
              have cE := E.out.cell w5 (Below.refl _ _)
              have lE := E.out.lt
              clear hk hmm
              refine wpAnyH_take (i := 7) (oi := ({ dst := some 88, op := Op.binOp BinOp.neq 3 (Operand.tmp 84) (Operand.tmp 87) 3, type := 4, pos := "law.go:136", after := #[{ on := 3, ground := Ground.data }, { on := 6, ground := Ground.data }], guard := none } : Oper)) (v := ?_) rfl (by kernel_rfl) (by kernel_rfl) (by kernel_rfl) (fun _ _ _ h => h) (Or.inl ⟨by rfl, ?_⟩) (by assumption) ?_
              rotate_left
              · (intro w hSw; (try dsimp only at hSw); go_simp; (try with_reducible rfl))
              (try simp only [Act.put, List.setIfInBounds_toArray, List.set_cons_zero, List.set_cons_succ])
              refine wpAnyH_take (i := 8) (oi := ({ dst := some 89, op := Op.move (Operand.tmp 88), type := 4, pos := "law.go:136", after := #[{ on := 7, ground := Ground.data }, { on := 6, ground := Ground.chain }], guard := none } : Oper)) (v := ?_) rfl (by kernel_rfl) (by kernel_rfl) (by kernel_rfl) (fun _ _ _ h => h) (Or.inl ⟨by rfl, ?_⟩) (by assumption) ?_
              rotate_left
              · (intro w hSw; (try dsimp only at hSw); go_simp; (try with_reducible rfl))
              (try simp only [Act.put, List.setIfInBounds_toArray, List.set_cons_zero, List.set_cons_succ])
              refine wpAnyH_conv (S' := fun w' => (w'.cell? ⟨b9, 0, none⟩ = some (.pointer (some ⟨qb, 0, none⟩)) ∧ w'.cell? ⟨b6, 0, none⟩ = some (.string key0) ∧ w'.cell? ⟨b7, 0, none⟩ = some (.int .i64 when)) ∧ w'.cell? ⟨rb, 1, none⟩ = some (.slice a5 k c5)) (fun _ h => h.1) ?_
              have hS2 := And.intro S5 cE
              refine wpAnyH_take (i := 9) (oi := ({ dst := some 90, op := Op.load 23 (Operand.tmp 9), type := 23, pos := "law.go:136", after := #[{ on := 8, ground := Ground.guard }], guard := some (8, false) } : Oper)) (v := ?_) rfl (by kernel_rfl) (by kernel_rfl) (by kernel_rfl) (fun _ _ _ h => h) (Or.inl ⟨by rfl, ?_⟩) (by assumption) ?_
              rotate_left
              · (intro w hSw; (try dsimp only at hSw); go_simp; (try with_reducible rfl))
              (try simp only [Act.put, List.setIfInBounds_toArray, List.set_cons_zero, List.set_cons_succ])
              refine wpAnyH_take (i := 10) (oi := ({ dst := some 91, op := Op.fieldAddr 29 (Operand.tmp 11) 1, type := 0, pos := "law.go:136", after := #[{ on := 8, ground := Ground.guard }], guard := some (8, false) } : Oper)) (v := ?_) rfl (by kernel_rfl) (by kernel_rfl) (by kernel_rfl) (fun _ _ _ h => h) (Or.inl ⟨by rfl, ?_⟩) (by assumption) ?_
              rotate_left
              · (intro w hSw; (try dsimp only at hSw); go_simp; (try with_reducible rfl))
              (try simp only [Act.put, List.setIfInBounds_toArray, List.set_cons_zero, List.set_cons_succ])
              refine wpAnyH_take (i := 15) (oi := ({ dst := some 96, op := Op.fieldAddr 29 (Operand.tmp 11) 1, type := 0, pos := "law.go:136", after := #[{ on := 8, ground := Ground.guard }], guard := some (8, false) } : Oper)) (v := ?_) rfl (by kernel_rfl) (by kernel_rfl) (by kernel_rfl) (fun _ _ _ h => h) (Or.inl ⟨by rfl, ?_⟩) (by assumption) ?_
              rotate_left
              · (intro w hSw; (try dsimp only at hSw); go_simp; (try with_reducible rfl))
              (try simp only [Act.put, List.setIfInBounds_toArray, List.set_cons_zero, List.set_cons_succ])
              refine wpAnyH_take (i := 11) (oi := ({ dst := some 92, op := Op.load 27 (Operand.tmp 91), type := 27, pos := "law.go:136", after := #[{ on := 10, ground := Ground.data }, { on := 8, ground := Ground.guard }], guard := some (8, false) } : Oper)) (v := ?_) rfl (by kernel_rfl) (by kernel_rfl) (by kernel_rfl) (fun _ _ _ h => h) (Or.inl ⟨by rfl, ?_⟩) (by assumption) ?_
              rotate_left
              · (intro w hSw; (try dsimp only at hSw); go_simp; (try with_reducible rfl))
              (try simp only [Act.put, List.setIfInBounds_toArray, List.set_cons_zero, List.set_cons_succ])
              refine wpAnyH_take (i := 16) (oi := ({ dst := some 97, op := Op.load 27 (Operand.tmp 96), type := 27, pos := "law.go:136", after := #[{ on := 15, ground := Ground.data }, { on := 8, ground := Ground.guard }], guard := some (8, false) } : Oper)) (v := ?_) rfl (by kernel_rfl) (by kernel_rfl) (by kernel_rfl) (fun _ _ _ h => h) (Or.inl ⟨by rfl, ?_⟩) (by assumption) ?_
              rotate_left
              · (intro w hSw; (try dsimp only at hSw); go_simp; (try with_reducible rfl))
              (try simp only [Act.put, List.setIfInBounds_toArray, List.set_cons_zero, List.set_cons_succ])
              refine wpAnyH_take (i := 12) (oi := ({ dst := some 93, op := Op.call { callee := Callee.builtin Builtin.len, args := #[Operand.tmp 92], argTypes := #[27] }, type := 3, pos := "law.go:136", after := #[{ on := 11, ground := Ground.data }, { on := 8, ground := Ground.guard }], guard := some (8, false) } : Oper)) (v := ?_) rfl (by kernel_rfl) (by kernel_rfl) (by kernel_rfl) (fun _ _ _ h => h) (Or.inl ⟨by rfl, ?_⟩) (by assumption) ?_
              rotate_left
              · (intro w hSw; (try dsimp only at hSw); go_simp; (try with_reducible rfl))
              (try simp only [Act.put, List.setIfInBounds_toArray, List.set_cons_zero, List.set_cons_succ])
              refine wpAnyH_take (i := 13) (oi := ({ dst := some 94, op := Op.binOp BinOp.add 3 (Operand.tmp 93) (Operand.const (Value.int IntKind.i64 1)) 3, type := 3, pos := "law.go:136", after := #[{ on := 12, ground := Ground.data }, { on := 8, ground := Ground.guard }], guard := some (8, false) } : Oper)) (v := ?_) rfl (by kernel_rfl) (by kernel_rfl) (by kernel_rfl) (fun _ _ _ h => h) (Or.inl ⟨by rfl, ?_⟩) (by assumption) ?_
              rotate_left
              · (intro w hSw; (try dsimp only at hSw); go_simp; (try with_reducible rfl))
              (try simp only [Act.put, List.setIfInBounds_toArray, List.set_cons_zero, List.set_cons_succ])
              refine wpAnyH_ready (rs := [14]) (by kernel_rfl) (by simp) ?_
              refine AllReadyH.cons (o := ({ dst := some 95, op := Op.call { callee := Callee.value (Operand.func 12), args := #[Operand.tmp 90, Operand.tmp 94], argTypes := #[23, 3] }, type := 27, pos := "law.go:136", after := #[{ on := 9, ground := Ground.data }, { on := 13, ground := Ground.data }, { on := 8, ground := Ground.chain }, { on := 8, ground := Ground.guard }], guard := some (8, false) } : Oper)) rfl (fun K hK => ?_) ?_
              · go_simp
                go_at_call 12; (with_reducible refine Calls.mono (E.out.all _ (by first | exact Below.refl _ _ | exact (Below.refl _ _).drew | exact below_drewN (Below.refl _ _) _)) ?_); rintro e w7 ⟨a7, c7, rfl, I7, B7, S7⟩; have T7 := M5.out.later P.out B7.out; have hS7 := And.intro (S3.out _ _ _ _ _ _ _ _ T7) S7
                refine hK.out _ _ ?_ (fun hHeld => ?_)
                · exact hS7
                clear hK K
                (try simp only [Act.put, List.setIfInBounds_toArray, List.set_cons_zero, List.set_cons_succ])
                refine wpAnyH_ready (rs := [17]) (by kernel_rfl) (by simp) ?_
                refine AllReadyH.cons (o := ({ dst := some 98, op := Op.call { callee := Callee.value (Operand.func 11), args := #[Operand.tmp 95, Operand.tmp 97], argTypes := #[27, 27] }, type := 4, pos := "law.go:136", after := #[{ on := 14, ground := Ground.data }, { on := 16, ground := Ground.data }, { on := 14, ground := Ground.chain }, { on := 8, ground := Ground.guard }], guard := some (8, false) } : Oper)) rfl (fun K hK => ?_) ?_
                · go_simp
                  go_at_call 11; (with_reducible refine Calls.mono (E.out.same _ a7 c7 (by first | exact B7.out | exact B7.out.drew | exact below_drewN B7.out _) (I7.out.later (by first | exact Below.refl _ _ | exact (Below.refl _ _).drew | exact below_drewN (Below.refl _ _) _))) ?_); rintro e w8 ⟨rfl, B8, S8⟩; have T8 := hide (M5.out.later P.out B8.out); have hS8 := And.intro (S3.out _ _ _ _ _ _ _ _ T8.out) S8
                  refine hK.out _ _ ?_ (fun hHeld => ?_)
                  · exact hS8
                  clear hK K
                  (try simp only [Act.put, List.setIfInBounds_toArray, List.set_cons_zero, List.set_cons_succ])
                  refine wpAnyH_take (i := 18) (oi := ({ dst := some 99, op := Op.unOp UnOp.not 4 (Operand.tmp 98), type := 4, pos := "law.go:136", after := #[{ on := 17, ground := Ground.data }, { on := 8, ground := Ground.guard }], guard := some (8, false) } : Oper)) (v := ?_) rfl (by kernel_rfl) (by kernel_rfl) (by kernel_rfl) (fun _ _ _ h => h) (Or.inl ⟨by rfl, ?_⟩) (by assumption) ?_
                  rotate_left
                  · (intro w hSw; (try dsimp only at hSw); go_simp; (try with_reducible rfl))
                  (try simp only [Act.put, List.setIfInBounds_toArray, List.set_cons_zero, List.set_cons_succ])
                  refine wpAnyH_take (i := 19) (oi := ({ dst := some 100, op := Op.pick (Operand.tmp 89) (Operand.const (Value.bool true)) (Operand.tmp 99), type := 4, pos := "law.go:136", after := #[{ on := 8, ground := Ground.data }, { on := 18, ground := Ground.data }], guard := none } : Oper)) (v := ?_) rfl (by kernel_rfl) (by kernel_rfl) (by kernel_rfl) (fun _ _ _ h => h) (Or.inl ⟨by rfl, ?_⟩) (by assumption) ?_
                  rotate_left
                  · (intro w hSw; (try dsimp only at hSw); go_simp; (try with_reducible rfl))
                  (try simp only [Act.put, List.setIfInBounds_toArray, List.set_cons_zero, List.set_cons_succ])
                  refine wpAnyH_done (by kernel_rfl) ?_ _
                  clear hHeld hS2 hS7 hS8 E cE lE T7 I7 B7 B8 KP KR
                  have kx0 : w8.cell? ⟨Bx, 0, none⟩ = some (.string xk) := T8.out.bd.cell 0 _ rfl
                  have kxl := T8.out.bd.lt
                  have kx9 : w8.cell? ⟨b9, 0, none⟩ = some (.pointer (some ⟨qb, 0, none⟩)) := T8.out.go.bx.x9.cell 0 _ rfl
                  have kd := gdrop T8.out P.out xk XS.out
                  gi_wp2
                  refine ⟨trivial, (CallsIn.inRound l ((callsIn_wide (n := 2)).2 kd)).mono ?_⟩
                  rintro e wA ⟨vA, rfl, MA⟩
                  have kxA : wA.cell? ⟨Bx, 0, none⟩ = some (.string xk) := MA.out.bd.cell 0 _ rfl
                  have kxB := MA.out.bd.lt
                  have kr := grdrop MA.out P.out xk
                  clear kx0 kxl kx9 kd
                  gi_wp2
                  refine ⟨trivial, (CallsIn.inRound l ((callsIn_wide (n := 2)).2 kr)).mono ?_⟩
                  rintro e wB ⟨aB, cB, rfl, MB⟩
                  clear kxA kxB kr MA T8 S4 M4 S5 M5
                  have cx0 : wB.cell? ⟨Bx, 0, none⟩ = some (.string xk) := MB.out.bd.cell 0 _ rfl
                  have cx1 : wB.cell? ⟨Bx, 1, none⟩ = some (.int .i64 xa) := MB.out.bd.cell 1 _ rfl
                  have lx := MB.out.bd.lt
                  have cgT : wB.cell? ⟨gb, 0, none⟩ = some (.slice A m cs) := MB.out.go.xg.cell 0 _ rfl
                  have lgT := MB.out.go.xg.lt
                  have coT : wB.cell? ⟨ob, 0, none⟩ = some (.slice a n0 c) := MB.out.go.xo.cell 0 _ rfl
                  have loT := MB.out.go.xo.lt
                  have sT := MB.out.go.size P.out
                  have f9 : decide (n0 < m + 1) = false := by rw [decide_eq_false_iff_not]; omega
                  have f8 : decide ((n0 : Int) < (m : Int) + 1) = false := by rw [decide_eq_false_iff_not]; omega
                  have rT := MB.out.go.row
                  rw [← HM.out] at rT
                  have RT := hide rT
                  have XT : Hid (Boxed wB gb 27 (.slice A m cs)) := MB.out.go.xg
                  have WB : Hid (W.heap.size ≤ gb) := P.out.eb0
                  clear rT
                  gi_wp2_with (gi_at_builtin; refine wpListIn_append_own_at _ rfl _ _ 27 rfl gb 43 i0 (.agg #[.string ByteArray.empty, .int .i64 0]) 2 24 Try.underlying27 hi0.out.1 hi0.out.2.1 hi0.out.2.2.1 hi0.out.2.2.2 rfl (by decide) _ _ _ rfl (RT.out.alloc _) ⟨wB.heap.size, 0, none⟩ 1 1 [.string xk, .int .i64 xa] rfl rfl (cells_new' _ _ _ _ (by simp)) (by intro u hu; simp at hu; rcases hu with rfl | rfl <;> rfl) (by unfold maxLen; omega) (by omega) (by simp; omega) ?_; intro v' w1 hown' hgrow _ hat; obtain ⟨g', cap', rfl⟩ := ownsRow_succ hown'; obtain ⟨hv1, hv2, hr2, hk2, hb2⟩ := XT.out.appended (by decide) RT.out (by omega) (by omega) hown' hgrow; have CC : Hid (Chg (fun k => k = gb ∨ (Value.slice A m cs).ownBlock = some k) wB (w1.setCell ⟨gb, 0, none⟩ (.slice (some ⟨g', 0, none⟩) (m + 1) cap'))) := hide (((Chg.of_below (S := fun k => k = gb ∨ (Value.slice A m cs).ownBlock = some k) ((Below.refl _ _).alloc (Nat.le_refl _) _)).trans (Chg.grown hgrow (fun k e => .inr e)) (fun _ _ q => q)).trans (Chg.set (S := fun k => k = gb ∨ (Value.slice A m cs).ownBlock = some k) _ (.inl rfl)) (fun _ _ q => q)); have hc1 := hv1.cell; have hf1 := hv1.frozen; have hc2 := hv2.cell; have co2 : (w1.setCell ⟨gb, 0, none⟩ (.slice (some ⟨g', 0, none⟩) (m + 1) cap')).cell? ⟨ob, 0, none⟩ = some (.slice a n0 c) := (MB.out.go.xo.chg CC.out (by rintro (q | q); exact P.out.eob q; exact MB.out.go.xo.ne_row RT.out (by decide) q)).cell 0 _ rfl; have lo2 := (MB.out.go.xo.chg CC.out (by rintro (q | q); exact P.out.eob q; exact MB.out.go.xo.ne_row RT.out (by decide) q)).lt)
                  have G9 := MB.out.got P.out CC.out (pre' := pre ++ [(xk, xa)]) (s' := .slice (some ⟨g', 0, none⟩) (m + 1) cap') (fun k e => by
                    rcases hat with q | q
                    · exact .inl (q.symm.trans e)
                    · rw [q] at e; injection e with e; right; rw [← e]; simp) hv2 (by
                    rw [List.length_append, ← HM.out, dues_app]; exact hr2)
                  have EP : (preS ++ [(⟨(xk, xa), hxs⟩ : EnS)]).map (fun e => e.1) = pre ++ [(xk, xa)] := by rw [List.map_append, ← HPRE.out]; rfl
                  have G99 := G9.go
                  rw [← EP] at G99
                  exact ⟨by rw [← hBl]; exact G9.kf, G9.kp, _, _, _, _, _, G99⟩
                exact AllReadyH.nil
              exact AllReadyH.nil
            exact AllReadyH.nil
          exact AllReadyH.nil
        · have f : ((m : Int) == at') = false := by rw [beq_eq_false_iff_ne]; exact hq
          clear hq
          have cx0 : V.cell? ⟨Bx, 0, none⟩ = some (.string xk) := R0.out.bd.cell 0 _ rfl
          have cx1 : V.cell? ⟨Bx, 1, none⟩ = some (.int .i64 xa) := R0.out.bd.cell 1 _ rfl
          have lx := R0.out.bd.lt
          have cgT : V.cell? ⟨gb, 0, none⟩ = some (.slice A m cs) := R0.out.go.xg.cell 0 _ rfl
          have lgT := R0.out.go.xg.lt
          have coT : V.cell? ⟨ob, 0, none⟩ = some (.slice a n0 c) := R0.out.go.xo.cell 0 _ rfl
          have loT := R0.out.go.xo.lt
          have sT := R0.out.go.size P.out
          have f9 : decide (n0 < m + 1) = false := by rw [decide_eq_false_iff_not]; omega
          have f8 : decide ((n0 : Int) < (m : Int) + 1) = false := by rw [decide_eq_false_iff_not]; omega
          have rT := R0.out.go.row
          rw [← HM.out] at rT
          have RT := hide rT
          have XT : Hid (Boxed V gb 27 (.slice A m cs)) := R0.out.go.xg
          have WB : Hid (W.heap.size ≤ gb) := P.out.eb0
          clear rT
          gi_wp2_with (gi_at_builtin; refine wpListIn_append_own_at _ rfl _ _ 27 rfl gb 43 i0 (.agg #[.string ByteArray.empty, .int .i64 0]) 2 24 Try.underlying27 hi0.out.1 hi0.out.2.1 hi0.out.2.2.1 hi0.out.2.2.2 rfl (by decide) _ _ _ rfl (RT.out.alloc _) ⟨V.heap.size, 0, none⟩ 1 1 [.string xk, .int .i64 xa] rfl rfl (cells_new' _ _ _ _ (by simp)) (by intro u hu; simp at hu; rcases hu with rfl | rfl <;> rfl) (by unfold maxLen; omega) (by omega) (by simp; omega) ?_; intro v' w1 hown' hgrow _ hat; obtain ⟨g', cap', rfl⟩ := ownsRow_succ hown'; obtain ⟨hv1, hv2, hr2, hk2, hb2⟩ := XT.out.appended (by decide) RT.out (by omega) (by omega) hown' hgrow; have CC : Hid (Chg (fun k => k = gb ∨ (Value.slice A m cs).ownBlock = some k) V (w1.setCell ⟨gb, 0, none⟩ (.slice (some ⟨g', 0, none⟩) (m + 1) cap'))) := hide (((Chg.of_below (S := fun k => k = gb ∨ (Value.slice A m cs).ownBlock = some k) ((Below.refl _ _).alloc (Nat.le_refl _) _)).trans (Chg.grown hgrow (fun k e => .inr e)) (fun _ _ q => q)).trans (Chg.set (S := fun k => k = gb ∨ (Value.slice A m cs).ownBlock = some k) _ (.inl rfl)) (fun _ _ q => q)); have hc1 := hv1.cell; have hf1 := hv1.frozen; have hc2 := hv2.cell; have co2 : (w1.setCell ⟨gb, 0, none⟩ (.slice (some ⟨g', 0, none⟩) (m + 1) cap')).cell? ⟨ob, 0, none⟩ = some (.slice a n0 c) := (R0.out.go.xo.chg CC.out (by rintro (q | q); exact P.out.eob q; exact R0.out.go.xo.ne_row RT.out (by decide) q)).cell 0 _ rfl; have lo2 := (R0.out.go.xo.chg CC.out (by rintro (q | q); exact P.out.eob q; exact R0.out.go.xo.ne_row RT.out (by decide) q)).lt)
          have G9 := R0.out.got P.out CC.out (pre' := pre ++ [(xk, xa)]) (s' := .slice (some ⟨g', 0, none⟩) (m + 1) cap') (fun k e => by
            rcases hat with q | q
            · exact .inl (q.symm.trans e)
            · rw [q] at e; injection e with e; right; rw [← e]; simp) hv2 (by
            rw [List.length_append, ← HM.out, dues_app]; exact hr2)
          have EP : (preS ++ [(⟨(xk, xa), hxs⟩ : EnS)]).map (fun e => e.1) = pre ++ [(xk, xa)] := by rw [List.map_append, ← HPRE.out]; rfl
          have G99 := G9.go
          rw [← EP] at G99
          exact ⟨by rw [← hBl]; exact G9.kf, G9.kp, _, _, _, _, _, G99⟩
      case done =>
        rintro D ys V hD hys ⟨v2, s2, a2, c2, r2, g⟩ hK
        subst hys
        rw [HRS.out] at g
        obtain ⟨A, cs, rfl, _, _⟩ := own_form g.row
        have kI := isE_own g.row rfl
        have hrow := g.row
        rw [← HN0.out] at g hrow kI
        obtain ⟨A9, c9', e9, IG⟩ := kI
        injection e9 with e9 _ e9'
        subst e9 e9'
        obtain ⟨k, hk⟩ : ∃ k, k = r2.length := ⟨_, rfl⟩
        obtain ⟨mm, hmm⟩ : ∃ m : Int, m = (k : Int) + 1 := ⟨_, rfl⟩
        have kl : k ≤ 65536 := by rw [hk]; exact g.dj.le
        have wm : IntKind.i64.wrap ((k : Int) + 1) = mm := by rw [IntKind.wrap_i64]; omega
        have E := hide (g.dj.endK hk hmm)
        obtain ⟨mo, hmo⟩ : ∃ mo : Nat, mo = if 0 ≤ at' ∧ at' ≤ (k : Int) then at'.toNat else 0 := ⟨_, rfl⟩
        have hmk : mo ≤ k := by rw [hmo]; split <;> omega
        have G := hide g
        have cp := g.dj.rq.cap
        rw [← hk] at cp
        have sl := fun v => dues_to (a := a2) (n := k) (c := c2) (e := mo) hmk cp v
        have RL2 : r.length ≤ 1048576 := by omega
        have lt2 : (r2.take mo).length = mo := by rw [List.length_take]; omega
        -- the cells that are read
        have CE : Hid (∀ V', Below V.heap.size V V' → V'.cell? ⟨gb, 0, none⟩ = some (.slice A n0 cs) ∧ V'.cell? ⟨ob, 0, none⟩ = some (.slice a n0 c) ∧ V'.cell? ⟨b9, 0, none⟩ = some (.pointer (some ⟨qb, 0, none⟩)) ∧ V'.cell? ⟨rb, 1, none⟩ = some (.slice a2 k c2)) := fun V' b => ⟨(G.out.later b).xg.cell 0 _ rfl, (G.out.later b).xo.cell 0 _ rfl, (G.out.later b).bx.x9.cell 0 _ rfl, E.out.cell V' b⟩
        have C8 : Hid (∀ V', Below V.heap.size V V' → V'.cell? ⟨b8, 0, none⟩ = some (.bool false) ∧ V'.frozen? ⟨b8, 0, none⟩ = false ∧ b8 < V'.heap.size) := fun V' b => ⟨(G.out.later b).bx.x8.cell 0 _ rfl, (G.out.later b).bx.x8.frz 0, (G.out.later b).bx.x8.lt⟩
        have NE : Hid (b8 ≠ gb ∧ b8 ≠ ob ∧ b8 ≠ b9 ∧ b8 ≠ rb) := ⟨g.bx.x8.ne g.xg (by decide), g.bx.x8.ne g.xo (by decide), g.bx.x8.ne g.bx.x9 (by decide), g.bx.x8.ne g.dj.rq.r (by decide)⟩
        have IGH := hide IG
        have K1 : Hid (∀ V', Below V.heap.size V V' → Calls Try.prog 11 #[.slice A n0 cs, .slice a n0 c] V' fun e w' => e = .returned (.bool true) ∧ Hid (Below V.heap.size V w')) := fun V' b => by
          have q := rsame7_spec (c1 := cs) (c2 := c) (IGH.out.later b) ((G.out.later b).old) RL2
          rw [← HN0.out] at q
          exact q.mono (fun e w' h => ⟨h.1, b.trans (h.2.mono b.size)⟩)
        have K2 : Hid (∀ V', Below V.heap.size V V' → Calls Try.prog 12 #[.pointer (some ⟨qb, 0, none⟩), .int .i64 (mo : Int)] V' fun e w' => ∃ A1 c1, e = .returned (.slice A1 mo c1) ∧ Hid (IsE w' A1 (r2.take mo)) ∧ Hid (Below V.heap.size V w')) := fun V' b => by
          have ce : cutE r2 (mo : Int) = r2.take mo := by
            unfold cutE
            rw [if_pos (by omega), Int.toNat_natCast]
          have q := lall_spec (G.out.later b).dj.qa (mo : Int)
          rw [ce, lt2] at q
          refine q.mono ?_
          rintro e w' ⟨s, rfl, O, b2⟩
          obtain ⟨A1, c1, rfl, I⟩ := isE_own O lt2.symm
          exact ⟨A1, c1, rfl, I, b.trans (b2.mono b.size)⟩
        have K3 : Hid (∀ V' A1 c1, Below V.heap.size V V' → IsE V' A1 (r2.take mo) → Calls Try.prog 11 #[.slice A1 mo c1, .slice a2 mo c2] V' fun e w' => e = .returned (.bool true) ∧ Hid (Below V.heap.size V w')) := fun V' A1 c1 b I => by
          have q := rsame7_spec (c1 := c1) (c2 := c2) I ((G.out.later b).dj.rq.is.take mo) (by rw [lt2]; omega)
          rw [lt2] at q
          exact q.mono (fun e w' h => ⟨h.1, b.trans (h.2.mono b.size)⟩)
        have K6 : Hid (∀ V', Below V.heap.size V V' → Calls Try.prog 8 #[] V' fun e w' => e = .returned (.bool true) ∧ Hid (Below V.heap.size V w')) := fun V' b => (ka V').mono (fun e w' h => ⟨h.1, b.trans (h.2.mono b.size)⟩)
        have DL : D < V.heap.size := (Array.getElem?_eq_some_iff.1 hK).1
        have b8D : b8 ≠ D := fun e => by
          rw [← e] at hK
          have := bw_cells g.bx.x8 hK
          cases this
        have KD : Hid (∀ V', Below V.heap.size V V' → (V'.setCell ⟨b8, 0, none⟩ (.bool true)).heap[D]? = some (.deferred (some []))) := fun V' b => by
          rw [Below.heap_setCell _ _ _ _ (fun e => b8D e.symm), b.block D DL]; exact hK
        have X8 : Hid (∀ V' o, Below V.heap.size V V' → ((V'.setCell ⟨b8, 0, none⟩ (.bool true)).putObj D o).cell? ⟨b8, 0, none⟩ = some (.bool true)) := fun V' o b => by
          have h1 := ((G.out.later b).bx.x8.set 0 (.bool true)).cell 0 _ rfl
          have hh : ((V'.setCell ⟨b8, 0, none⟩ (.bool true)).putObj D o).heap[b8]? = (V'.setCell ⟨b8, 0, none⟩ (.bool true)).heap[b8]? := World.putObj_heap_other b8D
          have e1 : ((V'.setCell ⟨b8, 0, none⟩ (.bool true)).putObj D o).cell? ⟨b8, 0, none⟩ = (V'.setCell ⟨b8, 0, none⟩ (.bool true)).cell? ⟨b8, 0, none⟩ := by unfold World.cell?; simp only [hh]
          exact e1.trans h1
        have WD : Hid (W.heap.size ≤ D) := by
          have := P.out.eb0
          have : gb < W5.heap.size := gbl
          show _ ≤ _; omega
        have BF : Hid (∀ V' o, Below V.heap.size V V' → Below W.heap.size W ((V'.setCell ⟨b8, 0, none⟩ (.bool true)).putObj D o)) := fun V' o b => by
          have z := G.out.dj.bl.size
          refine ((G.out.dj.bl.trans (b.mono z)).setCell (p := ⟨b8, 0, none⟩) BZ.out (.bool true)).trans ?_
          exact belowK_b (w := W) (Nat.le_refl _) _ D _ _ WD.out (KD.out V' b) rfl rfl
        obtain ⟨y0, y1, y2, y3⟩ := CE.out V (Below.refl _ _)
        have c5 : V.cell? ⟨W.heap.size, 0, none⟩ = some (.int .i64 at') := g.bx.x5.cell 0 _ rfl
        have l5 := g.bx.x5.lt
        have HMO := hide hmo
        clear g hrow IG hk hmm hmo hK b8D cp
        go_upto_region 23 with fail
        obtain ⟨bad, hbad⟩ : ∃ bad, bad = !decide (0 ≤ at' ∧ at' ≤ (k : Int)) := ⟨_, rfl⟩
        have HBAD := hide hbad
        clear hbad
        go_cut [126] from 118 to 127 (fun s126 wx => s126 = .bool bad ∧ wx = V)
        case first =>
          by_cases q1 : at' < 0
          · have f1 : decide (at' < 0) = true := decide_eq_true q1
            have e : bad = true := by rw [HBAD.out, decide_eq_false (by omega)]; rfl
            subst e
            clear q1
            go_wp2_with fail
            go_meet
            case rel => exact ⟨rfl, rfl⟩
          · have f1 : decide (at' < 0) = false := decide_eq_false q1
            by_cases q2 : (k : Int) < at'
            · have f2 : decide ((k : Int) < at') = true := decide_eq_true q2
              have e : bad = true := by rw [HBAD.out, decide_eq_false (by omega)]; rfl
              subst e
              clear q1 q2
              go_wp2_with fail
              go_meet
              case rel => exact ⟨rfl, rfl⟩
            · have f2 : decide ((k : Int) < at') = false := decide_eq_false q2
              have e : bad = false := by rw [HBAD.out, decide_eq_true ⟨by omega, by omega⟩]; rfl
              subst e
              clear q1 q2
              go_wp2_with fail
              go_meet
              case rel => exact ⟨rfl, rfl⟩
        rename World => wc1
        obtain ⟨rfl, rfl⟩ := hcut
        go_upto_if 126 with fail
        go_cut [17] from 127 to 127 (fun s17 wx => s17 = .int .i64 (mo : Int) ∧ wx = wc1)
        case first =>
          cases bad with
          | true =>
            have e : mo = 0 := by
              rw [HMO.out, if_neg (fun q => by have := HBAD.out; rw [decide_eq_true q] at this; cases this)]
            subst e
            go_wp2_with fail
            go_meet
            case rel => exact ⟨rfl, rfl⟩
          | false =>
            have e : at' = (mo : Int) := by
              have q : 0 ≤ at' ∧ at' ≤ (k : Int) := by
                have := HBAD.out
                by_cases q : 0 ≤ at' ∧ at' ≤ (k : Int)
                · exact q
                · rw [decide_eq_false q] at this; cases this
              rw [HMO.out, if_pos q]; omega
            have E9 := hide e
            clear e
            go_wp2_with fail
            go_meet
            case rel => exact ⟨by rw [E9.out], rfl⟩
        obtain ⟨rfl, rfl⟩ := hcut
        clear c5 l5
        obtain ⟨z0, z1, z2⟩ := C8.out wc (Below.refl _ _)
        have S0 := CE.out wc (Below.refl _ _)
        go_wp2_with fail
        go_region_held3 (fun w' => w'.cell? ⟨gb, 0, none⟩ = some (.slice A n0 cs) ∧ w'.cell? ⟨ob, 0, none⟩ = some (.slice a n0 c) ∧ w'.cell? ⟨b9, 0, none⟩ = some (.pointer (some ⟨qb, 0, none⟩)) ∧ w'.cell? ⟨rb, 1, none⟩ = some (.slice a2 k c2))
          (first | exact S0 | exact S1 | exact S2 | exact S3 | exact S5 | exact S6 | exact S7 | exact ⟨(World.cell?_setCell_far _ _ _ _ NE.out.1).trans S7.1, (World.cell?_setCell_far _ _ _ _ NE.out.2.1).trans S7.2.1, (World.cell?_setCell_far _ _ _ _ NE.out.2.2.1).trans S7.2.2.1, (World.cell?_setCell_far _ _ _ _ NE.out.2.2.2).trans S7.2.2.2⟩)
          (first
            | (go_at_call 11; (first
                | ((with_reducible refine Calls.mono (K1.out _ (by first | exact Below.refl _ _ | exact (Below.refl _ _).drew | exact below_drewN (Below.refl _ _) _)) ?_); rintro e w1 ⟨rfl, B1⟩; have S1 := CE.out w1 B1.out)
                | ((with_reducible refine Calls.mono (K3.out _ A2 d2 (by first | exact B2.out | exact B2.out.drew | exact below_drewN B2.out _) (I2.out.later (by first | exact Below.refl _ _ | exact (Below.refl _ _).drew | exact below_drewN (Below.refl _ _) _))) ?_); rintro e w3 ⟨rfl, B3⟩; have S3 := CE.out w3 B3.out)
                | ((with_reducible refine Calls.mono (E.out.same _ A5 d5 (by first | exact B5.out | exact B5.out.drew | exact below_drewN B5.out _) (I5.out.later (by first | exact Below.refl _ _ | exact (Below.refl _ _).drew | exact below_drewN (Below.refl _ _) _))) ?_); rintro e w6 ⟨rfl, B6, _⟩; have S6 := CE.out w6 B6.out)))
            | (go_at_call 12; (first
                | ((with_reducible refine Calls.mono (K2.out _ (by first | exact B1.out | exact B1.out.drew | exact below_drewN B1.out _)) ?_); rintro e w2 ⟨A2, d2, rfl, I2, B2⟩; have S2 := CE.out w2 B2.out)
                | ((with_reducible refine Calls.mono (E.out.all _ (by first | exact B3.out | exact B3.out.drew | exact below_drewN B3.out _)) ?_); rintro e w5 ⟨A5, d5, rfl, I5, B5, _⟩; have S5 := CE.out w5 B5.out)))
            | (go_at_call 8; (with_reducible refine Calls.mono (K6.out _ (by first | exact B6.out | exact B6.out.drew | exact below_drewN B6.out _)) ?_); rintro e w7 ⟨rfl, B7⟩; have S7 := CE.out w7 B7.out; obtain ⟨z3, z4, z5⟩ := C8.out w7 B7.out))
        all_goals
          go_wp2_with fail
          refine ⟨by simp, .inl ⟨_, _, rfl, run_takeDeferred (KD.out _ (by first | exact B7.out | exact B7.out.drew | exact below_drewN B7.out _)), ?_⟩⟩
          exact ⟨_, by simp [results, Try.results4, go_sem, X8.out _ _ (by first | exact B7.out | exact B7.out.drew | exact below_drewN B7.out _)]; try rfl, rfl, BF.out _ _ (by first | exact B7.out | exact B7.out.drew | exact below_drewN B7.out _)⟩
      case stop =>
        rintro D c' pre V hD hpre h hK
        exact h.elim
end Go.Proofs.Ytdfmfkibafcbcaa
