/- Texts that belong together: Tbin Tbins Trbin Intu Lawtb. -/
import Derived.Test.YtebiddmadmmfpaaG01
import Derived.Deep.OwnRows
import Derived.Deep.QuietTactic
import Derived.BigQuiet
import Derived.Laws.MakeOwn
import Derived.Test.YtebiddmadmmfpaaG03
set_option linter.unusedSimpArgs false
set_option linter.unusedVariables false
/- timer: bounds, bins: the plain mathematics; a row of counters of one's own. -/
namespace Go.Proofs.Ytebiddmadmmfpaa
set_option linter.unusedVariables false
set_option linter.unusedSimpArgs false
open Go.RowKit W T9
/-- May they be bounds? -/
def upB (bs : List Int) : Bool := decide (1 ≤ bs.length ∧ bs.length ≤ 32) && (bs.all (fun x => decide (0 ≤ x)) && decide (bs.Pairwise (· < ·)))
theorem up_iff (bs : List Int) : upB bs = true ↔ (1 ≤ bs.length ∧ bs.length ≤ 32) ∧ (∀ x ∈ bs, 0 ≤ x) ∧ bs.Pairwise (· < ·) := by
  simp [upB]
theorem pair_of {bs : List Int} (h : ∀ (j : Nat) (h : j + 1 < bs.length), bs[j] < bs[j + 1]) : bs.Pairwise (· < ·) := by
  rw [List.pairwise_iff_getElem]
  have aux : ∀ d i (h1 : i + d + 1 < bs.length), bs[i] < bs[i + d + 1] := by
    intro d
    induction d with
    | zero => intro i h1; exact h i h1
    | succ d ih =>
      intro i h1
      have a := ih i (by omega)
      have b := h (i + d + 1) (by omega)
      have e : i + (d + 1) + 1 = i + d + 1 + 1 := by omega
      simp only [e]
      omega
  intro i j hi hj lt
  obtain ⟨d, rfl⟩ : ∃ d, j = i + d + 1 := ⟨j - i - 1, by omega⟩
  exact aux d i hj
theorem up_of {bs : List Int} (h1 : 1 ≤ bs.length) (h2 : bs.length ≤ 32) (h3 : ∀ x : Int, bs[0]? = some x → 0 ≤ x) (h4 : ∀ (j : Nat) (h : j + 1 < bs.length), bs[j] < bs[j + 1]) : upB bs = true := by
  have p := pair_of h4
  refine (up_iff bs).2 ⟨⟨h1, h2⟩, fun x hx => ?_, p⟩
  obtain ⟨j, hj, rfl⟩ := List.getElem_of_mem hx
  have z := h3 bs[0] (by rw [List.getElem?_eq_getElem])
  rcases Nat.eq_zero_or_pos j with rfl | q
  · exact z
  · have := List.pairwise_iff_getElem.1 p 0 j (by omega) hj q; omega
theorem up_no {bs : List Int} (h : ¬ ((1 ≤ bs.length ∧ bs.length ≤ 32) ∧ (∀ x ∈ bs, 0 ≤ x) ∧ bs.Pairwise (· < ·))) : upB bs = false := by
  rcases q : upB bs with _ | _
  · rfl
  · exact absurd ((up_iff bs).1 q) h
theorem up_fall {bs : List Int} {j : Nat} (h : j + 1 < bs.length) (n : ¬ bs[j] < bs[j + 1]) : upB bs = false :=
  up_no fun ⟨_, _, p⟩ => n (List.pairwise_iff_getElem.1 p j (j + 1) (by omega) h (by omega))
theorem up_neg {bs : List Int} {j : Nat} (h : j < bs.length) (n : bs[j] < 0) : upB bs = false :=
  up_no fun ⟨_, p, _⟩ => by have := p bs[j] (List.getElem_mem h); omega
theorem up_pair {bs : List Int} (h : upB bs = true) : bs.Pairwise (· < ·) := ((up_iff bs).1 h).2.2
theorem takeWhile_all {p : Int → Bool} : ∀ {l : List Int}, (∀ x ∈ l, p x = true) → l.takeWhile p = l
  | [], _ => rfl
  | y :: r, h => by rw [List.takeWhile_cons, h y (by simp), takeWhile_all fun x hx => h x (by simp [hx])]; rfl
/-- The bin of a sample. -/
def binK (bs : List Int) (v : Int) : Nat := (bs.takeWhile fun b => decide (b ≤ v)).length
theorem binK_le (bs : List Int) (v : Int) : binK bs v ≤ bs.length := (List.takeWhile_prefix _).length_le
theorem binK_take {bs : List Int} {i : Nat} (h : i < bs.length) (p : bs.Pairwise (· < ·)) (v : Int) : binK (bs.take (i + 1)) v = if bs[i] ≤ v then i + 1 else binK (bs.take i) v := by
  have e : bs.take (i + 1) = bs.take i ++ [bs[i]] := List.take_succ_eq_append_getElem h
  have li : (bs.take i).length = i := by rw [List.length_take]; omega
  unfold binK
  rw [e, List.takeWhile_append]
  by_cases t : bs[i] ≤ v
  · have all : (bs.take i).takeWhile (fun b => decide (b ≤ v)) = bs.take i := by
      refine takeWhile_all fun x hx => ?_
      obtain ⟨j, hj, rfl⟩ := List.getElem_of_mem hx
      rw [li] at hj
      have := List.pairwise_iff_getElem.1 p j i (by omega) h hj
      rw [List.getElem_take]
      simp only [decide_eq_true_eq]; omega
    rw [all, if_pos rfl, if_pos t, List.length_append, li]
    simp [List.takeWhile_cons, t]
  · rw [if_neg t]
    split
    · rename_i q
      have q2 : (bs.take i).takeWhile (fun b => decide (b ≤ v)) = bs.take i := (List.takeWhile_prefix _).eq_of_length q
      rw [q2]
      simp [List.takeWhile_cons, t]
    · rfl
theorem binK_at {bs : List Int} {k : Nat} {v : Int} (h : k ≤ bs.length) (a : ∀ (j : Nat) (h : j < bs.length), j < k → bs[j] ≤ v) (b : ∀ (h : k < bs.length), ¬ bs[k] ≤ v) : binK bs v = k := by
  unfold binK
  have e : bs = bs.take k ++ bs.drop k := (List.take_append_drop k bs).symm
  have li : (bs.take k).length = k := by rw [List.length_take]; omega
  have all : (bs.take k).takeWhile (fun b => decide (b ≤ v)) = bs.take k := by
    refine takeWhile_all fun x hx => ?_
    obtain ⟨j, hj, rfl⟩ := List.getElem_of_mem hx
    rw [li] at hj
    rw [List.getElem_take]
    simpa using a j (by omega) hj
  have none_ : (bs.drop k).takeWhile (fun b => decide (b ≤ v)) = [] := by
    by_cases q : k < bs.length
    · rw [List.drop_eq_getElem_cons q, List.takeWhile_cons]
      have := b q
      simp [this]
    · rw [List.drop_eq_nil_of_le (by omega)]; rfl
  rw [e, List.takeWhile_append, all, if_pos rfl, none_]
  simp; omega
/-- The counters. -/
def cnt1 (bs : List Int) (c : List Int) (v : Int) : List Int := c.set (binK bs v) (c.getD (binK bs v) 0 + 1)
def cntF (bs xs : List Int) : List Int := xs.foldl (cnt1 bs) (List.replicate (bs.length + 1) 0)
theorem cntF_take {bs xs : List Int} {k : Nat} (h : k < xs.length) : cntF bs (xs.take (k + 1)) = cnt1 bs (cntF bs (xs.take k)) xs[k] := by
  unfold cntF; rw [List.take_succ_eq_append_getElem h, List.foldl_append]; rfl
theorem cntF_len (bs xs : List Int) : (cntF bs xs).length = bs.length + 1 := by
  unfold cntF
  have aux : ∀ (ys c : List Int), (ys.foldl (cnt1 bs) c).length = c.length := by
    intro ys
    induction ys with
    | nil => intro c; rfl
    | cons y r ih => intro c; rw [List.foldl_cons, ih]; simp [cnt1]
  rw [aux]; simp
theorem cntF_bound (bs xs : List Int) : ∀ k, ∀ x ∈ cntF bs (xs.take k), 0 ≤ x ∧ x ≤ k := by
  intro k
  induction k with
  | zero => intro x hx; simp only [List.take_zero, cntF, List.foldl_nil] at hx; have := List.eq_of_mem_replicate hx; omega
  | succ k ih =>
    by_cases h : k < xs.length
    · rw [cntF_take h]
      intro x hx
      unfold cnt1 at hx
      rcases List.mem_or_eq_of_mem_set hx with q | q
      · have := ih x q; omega
      · have hb : (cntF bs (xs.take k)).length = bs.length + 1 := cntF_len _ _
        have lt : binK bs xs[k] < (cntF bs (xs.take k)).length := by rw [hb]; have := binK_le bs xs[k]; omega
        have := ih _ (List.getElem_mem lt)
        rw [List.getD_eq_getElem?_getD, List.getElem?_eq_getElem lt] at q
        simp only [Option.getD_some] at q
        omega
    · rw [List.take_of_length_le (by omega)]
      rw [List.take_of_length_le (by omega)] at ih
      intro x hx; have := ih x hx; omega
def binL (bs xs : List Int) : List Int := if fineB xs then if upB bs then cntF bs xs else [] else []
def binE (bs xs : List Int) : Int := if fineB xs then if upB bs then 0 else 92 else 93
/-- A row of counters of one's own. -/
structure Cnt (w wr : World) (L : List Int) : Prop where
  own : wr.ownsRow w.heap.size 3 1 (.slice (some ⟨w.heap.size, 0, none⟩) L.length L.length) L.length (L.map (Value.int .i64))
  below : Below w.heap.size w wr
theorem Cnt.at_ {w wr : World} {L : List Int} (h : Cnt w wr L) (k : Nat) (hk : k < L.length) : wr.cell? ⟨w.heap.size, k, none⟩ = some (.int .i64 (L.getD k 0)) ∧ wr.frozen? ⟨w.heap.size, k, none⟩ = false := by
  refine ⟨?_, h.own.frozenAt k⟩
  rw [h.own.cellAt k (by omega)]
  simp [List.getElem?_eq_getElem hk, List.getD_eq_getElem?_getD]
theorem Cnt.set {w wr : World} {L : List Int} (h : Cnt w wr L) (k : Nat) (x : Int) (q : Nat) : Cnt w ((wr.drewN q).setCell ⟨w.heap.size, k, none⟩ (.int .i64 x)) (L.set k x) := by
  have h0 : (wr.drewN q).ownsRow w.heap.size 3 1 (.slice (some ⟨w.heap.size, 0, none⟩) L.length L.length) L.length (L.map (Value.int .i64)) := h.own
  have s := h0.stored k (.int .i64 x)
  refine ⟨?_, (below_drewN h.below q).setCell (Nat.le_refl _) _⟩
  rw [List.map_set, List.length_set]; exact s.1
theorem Cnt.lt {w wr : World} {L : List Int} (h : Cnt w wr L) : w.heap.size < wr.heap.size := (h.own.lt w.heap.size rfl).2
theorem Cnt.made (w : World) (n : Nat) (hm : n ≤ maxLen) : Cnt w (w.alloc (.cells (madeCells #[.int .i64 0] n) 3)) (List.replicate n 0) := by
  have := World.ownsRow_lit (size := 1) (e := 3) w (madeCells #[.int .i64 0] n) n (Nat.le_refl _) hm (by rw [size_madeCells]; omega)
  rw [toList_madeCells_one] at this
  exact ⟨by rw [List.map_replicate, List.length_replicate]; exact this, (Below.refl _ _).alloc (Nat.le_refl _) _⟩
theorem Cnt.is {w wr : World} {L : List Int} (h : Cnt w wr L) : IsInts .i64 wr (some ⟨w.heap.size, 0, none⟩) L :=
  .inr ⟨_, 0, rfl, ⟨fun j hj => by rw [Nat.zero_add, (h.at_ j hj).1]; simp [List.getD_eq_getElem?_getD, List.getElem?_eq_getElem hj], h.lt⟩⟩
/-- What Bins answers. -/
def BinsPost (bs xs : List Int) (w : World) (e : Ending) (w' : World) : Prop :=
  ∃ a c, e = .returned (.tuple #[.slice a (binL bs xs).length c, .int .i64 (binE bs xs)]) ∧ IsInts .i64 w' a (binL bs xs) ∧ Below w.heap.size w w'
end Go.Proofs.Ytebiddmadmmfpaa
/- timer: mayBound, Bins. -/
namespace Go.Proofs.Ytebiddmadmmfpaa
set_option linter.unusedVariables false
set_option linter.unusedSimpArgs false
open Go.RowKit W T9
theorem info_int9 : (Try.prog.info? 3).map (fun i => (i.zero, i.size, i.bytes)) = some (some (.int .i64 0), 1, 8) := by kernel_rfl
set_option maxRecDepth 100000 in
set_option maxHeartbeats 4000000 in
theorem may_spec (b : Option Addr) (c : Nat) (bs : List Int) (w : World) (hb : IsInts .i64 w b bs) (hl : bs.length ≤ 140737488355328) :
    Calls Try.prog 48 #[.slice b bs.length c] w fun e w' => e = .returned (.bool (upB bs)) ∧ Below w.heap.size w w' := by
  obtain ⟨R, hR⟩ : ∃ R, R = upB bs := ⟨_, rfl⟩
  rw [← hR]
  obtain ⟨n, hn⟩ : ∃ n, n = bs.length := ⟨_, rfl⟩
  rw [← hn] at hl ⊢
  by_cases z : n = 0
  · have e : R = false := by rw [hR]; exact up_no (by omega)
    subst e z
    clear hR hn hb
    go_enter Try.func48, Try.ntmps48
    go_wp2
    go_returns
    exact ⟨rfl, Below.refl _ _⟩
  by_cases m : 32 < n
  · have e : R = false := by rw [hR]; exact up_no (by omega)
    subst e
    have z1 : ((n : Int) == 0) = false := by simp; omega
    have z2 : 0 < n := by omega
    clear hR hn hb z
    go_enter Try.func48, Try.ntmps48
    go_wp2
    go_returns
    exact ⟨rfl, Below.refl _ _⟩
  obtain ⟨g, o, rfl, la⟩ := hb.resolve_left (fun h => by rw [h] at hn; exact z hn)
  have l0 : 0 < bs.length := by omega
  have c0 := la.cell 0 l0
  rw [Nat.add_zero] at c0
  obtain ⟨x0, hx0⟩ : ∃ x0, x0 = bs[0] := ⟨_, rfl⟩
  rw [← hx0] at c0
  have z1 : ((n : Int) == 0) = false := by simp; omega
  have m1 : decide ((32 : Int) < (n : Int)) = false := decide_eq_false (by omega)
  have z2 : 0 < n := by omega
  by_cases t : x0 < 0
  · have e : R = false := by rw [hR]; exact up_neg l0 (by rw [← hx0]; exact t)
    subst e
    clear hR hn hb z la m hx0 l0
    go_enter Try.func48, Try.ntmps48
    go_wp2
    go_returns
    exact ⟨rfl, Below.refl _ _⟩
  have H := hide la
  have RR := hide hR
  have N := hide hn
  have X0 := hide (And.intro hx0 (show 0 ≤ x0 by omega))
  have t1 : decide (x0 < 0) = false := decide_eq_false t
  have e1 : IntKind.i64.wrap ((n : Int) - 1) = (n : Int) - 1 := by rw [IntKind.wrap_i64]; omega
  obtain ⟨p, hp⟩ : ∃ p, n = p + 1 := ⟨n - 1, by omega⟩
  have e2 : (n : Int) - 1 = (p : Int) := by omega
  rw [e2] at e1
  have NP := hide hp
  have m2 : n ≤ 32 := by omega
  clear hR hn hb z la m hx0 t hp
  go_enter Try.func48, Try.ntmps48
  go_wp2_with fail
  go_loopw [21] (fun i wr => ∃ k : Nat, k ≤ p ∧ i = .int .i64 k ∧ Hid (Below w.heap.size w wr) ∧ Hid (∀ (j : Nat) (h : j + 1 < bs.length), j < k → bs[j] < bs[j + 1])) (fun i _ => p - (intOf i).toNat)
  case atStart => exact ⟨0, by omega, rfl, Below.refl _ _, fun j _ h => absurd h (by omega)⟩
  case round =>
    clear c0
    obtain ⟨k, hk, rfl, bl, up⟩ := hrel
    by_cases hlt : k < p
    · have k1 : k + 1 < bs.length := by have := NP.out; have := N.out; omega
      have e5 := (H.out.later bl.out).cell k (by omega)
      have e6 := (H.out.later bl.out).cell (k + 1) k1
      obtain ⟨x, hx⟩ : ∃ x, x = bs[k] := ⟨_, rfl⟩
      obtain ⟨y, hy⟩ : ∃ y, y = bs[k + 1] := ⟨_, rfl⟩
      rw [← hx] at e5
      rw [← hy] at e6
      have w1 : IntKind.i64.wrap ((k : Int) + 1) = ((k + 1 : Nat) : Int) := by rw [IntKind.wrap_i64]; omega
      have hlt' : (k : Int) < (p : Int) := by omega
      have hlt2 : k + 1 < n := by omega
      by_cases t : y ≤ x
      · have F : Hid (R = false) := by
          show R = false
          rw [RR.out]; exact up_fall k1 (by rw [← hx, ← hy]; omega)
        have td : decide (y ≤ x) = true := decide_eq_true t
        clear hx hy k1 up RR
        go_wp2_with fail
        go_quiet (fail)
        go_wp2_with fail
        go_returns
        exact ⟨by rw [F.out]; rfl, below_drewN bl.out _⟩
      · have U : Hid (∀ (j : Nat) (h : j + 1 < bs.length), j < k + 1 → bs[j] < bs[j + 1]) := by
          intro j h hj
          by_cases q : j = k
          · subst q; rw [← hx, ← hy]; omega
          · exact up.out j h (by omega)
        have td : decide (y ≤ x) = false := decide_eq_false t
        clear hx hy up
        go_wp2_with fail
        go_quiet (fail)
        go_wp2_with fail
        go_roundw
        case rel => exact ⟨k + 1, by omega, by go_num, below_drewN bl.out _, U⟩
        case measure => simp [intOf]; omega
    · have F : Hid (R = true) := by
        show R = true
        rw [RR.out]
        have q1 := NP.out
        have q2 := N.out
        refine up_of (by omega) (by omega) (fun x hx => ?_) (fun j h => up.out j h (by omega))
        rw [List.getElem?_eq_getElem (by omega)] at hx
        injection hx with hx
        rw [← hx, ← X0.out.1]; exact X0.out.2
      obtain rfl : k = p := by omega
      clear up RR
      go_wp2
      go_returns
      exact ⟨by rw [F.out]; rfl, bl.out⟩
theorem bins_bad (a : Option Addr) (c : Nat) (xs : List Int) (b : Option Addr) (d : Nat) (bs : List Int) (w : World) (hx : IsInts .i64 w a xs) (hl : xs.length ≤ 140737488355328) (hf : fineB xs = false) :
    Calls Try.prog 22 #[.slice a xs.length c, .slice b bs.length d] w (BinsPost bs xs w) := by
  have kc := check_spec a c xs w hx hl
  rw [hf, show okE false 93 = 93 from rfl] at kc
  have F : Hid (BinsPost bs xs w (.returned (.tuple #[.slice none 0 0, .int .i64 93])) w) := by
    refine ⟨none, 0, ?_, .inl ?_, Below.refl _ _⟩ <;> simp [binL, binE, hf]
  clear hx hf
  go_enter Try.func22, Try.ntmps22
  go_wp2_with fail
  refine kc.mono ?_
  rintro e w1 ⟨rfl, rfl⟩
  clear kc
  go_wp2_with fail
  go_returns
  exact F.out
theorem bins_not (a : Option Addr) (c : Nat) (xs : List Int) (b : Option Addr) (d : Nat) (bs : List Int) (w : World) (hx : IsInts .i64 w a xs) (hl : xs.length ≤ 140737488355328) (hb : IsInts .i64 w b bs) (hl2 : bs.length ≤ 140737488355328) (hf : fineB xs = true) (hu : upB bs = false) :
    Calls Try.prog 22 #[.slice a xs.length c, .slice b bs.length d] w (BinsPost bs xs w) := by
  have kc := check_spec a c xs w hx hl
  rw [hf, show okE true 93 = 0 from rfl] at kc
  have ku := may_spec b d bs w hb hl2
  rw [hu] at ku
  have F : Hid (∀ w', Below w.heap.size w w' → BinsPost bs xs w (.returned (.tuple #[.slice none 0 0, .int .i64 92])) w') := by
    intro w' B
    refine ⟨none, 0, ?_, .inl ?_, B⟩ <;> simp [binL, binE, hf, hu]
  clear hx hf hb hu
  go_enter Try.func22, Try.ntmps22
  go_wp2_with fail
  refine kc.mono ?_
  rintro e w1 ⟨rfl, rfl⟩
  clear kc
  go_wp2_with fail
  refine ku.mono ?_
  rintro e w1 ⟨rfl, h1⟩
  clear ku
  have H1 := hide h1
  clear h1
  go_wp2_with fail
  go_returns
  exact F.out _ H1.out
set_option maxRecDepth 100000 in
set_option maxHeartbeats 8000000 in
theorem bins_good (a : Option Addr) (c : Nat) (xs : List Int) (b : Option Addr) (d : Nat) (bs : List Int) (w : World) (hx : IsInts .i64 w a xs) (hl : xs.length ≤ 140737488355328) (hb : IsInts .i64 w b bs) (hf : fineB xs = true) (hu : upB bs = true) :
    Calls Try.prog 22 #[.slice a xs.length c, .slice b bs.length d] w (BinsPost bs xs w) := by
  obtain ⟨⟨u1, u2⟩, u3, u4⟩ := (up_iff bs).1 hu
  have kc := check_spec a c xs w hx hl
  rw [hf, show okE true 93 = 0 from rfl] at kc
  have ku := may_spec b d bs w hb (by omega)
  rw [hu] at ku
  have F : Hid (∀ W w' cap, Below w.heap.size w W → Cnt W w' (cntF bs xs) → BinsPost bs xs w (.returned (.tuple #[.slice (some ⟨W.heap.size, 0, none⟩) (bs.length + 1) cap, .int .i64 0])) w') := by
    intro W w' cap B C
    refine ⟨some ⟨W.heap.size, 0, none⟩, cap, ?_, ?_, B.trans (C.below.mono B.size)⟩
    · simp [binL, binE, hf, hu, cntF_len]
    · simp only [binL, hf, hu, if_true]; exact C.is
  obtain ⟨gb, ob, rfl, lb⟩ := hb.resolve_left (fun h => by rw [h] at u1; simp at u1)
  have HB := hide lb
  have HX := hide hx
  have UP := hide u4
  obtain ⟨n, hn⟩ : ∃ n, n = bs.length := ⟨_, rfl⟩
  obtain ⟨m, hm⟩ : ∃ m, m = xs.length := ⟨_, rfl⟩
  rw [← hn] at u1 u2 ku ⊢
  rw [← hm] at hl kc ⊢
  have NN := hide hn
  have MM := hide hm
  obtain ⟨i0, hi0, hz0, hz1, hz2⟩ := info_parts info_int9
  have hmk : ∀ v : World, (Instr.makeSlice 49 (.int .i64 ((n : Int) + 1)) (.int .i64 ((n : Int) + 1))).run Try.prog v = .ok (.slice (some ⟨v.heap.size, 0, none⟩) (n + 1) (n + 1)) (v.alloc (.cells (madeCells #[.int .i64 0] (n + 1)) 3)) := fun v => by
    have := run_make (P := Try.prog) v 49 3 i0 (.int .i64 0) Try.underlying49 hi0 hz0 .i64 .i64 ((n : Int) + 1) ((n : Int) + 1) (by omega) (by omega) (by rw [hz2]; omega) (by omega)
    rw [hz1] at this
    rw [this]
    have e : ((n : Int) + 1).toNat = n + 1 := by omega
    rw [e]
    simp [Value.cells]
  clear hx hf hb hu u3 u4 lb hn hm hi0 hz0 hz1 hz2
  go_enter Try.func22, Try.ntmps22
  go_wp2_with fail
  refine kc.mono ?_
  rintro e w1 ⟨rfl, rfl⟩
  clear kc
  go_wp2_with fail
  refine ku.mono ?_
  rintro e W ⟨rfl, hW⟩
  clear ku
  have HW := hide hW
  have gW : Hid (gb < W.heap.size) := Nat.lt_of_lt_of_le HB.out.lt hW.size
  have bW : Hid (LieI .i64 W gb ob bs) := HB.out.later hW
  have xW : Hid (IsInts .i64 W a xs) := HX.out.later hW
  clear hW
  go_wp2_with fail
  clear hmk
  have C0 : Hid (Cnt W (W.alloc (.cells (madeCells #[.int .i64 0] (n + 1)) 3)) (cntF bs (xs.take 0))) := by
    have := Cnt.made W (n + 1) (by unfold maxLen; omega)
    rw [show List.replicate (n + 1) (0 : Int) = cntF bs (xs.take 0) from by rw [NN.out]; rfl] at this
    exact this
  go_loopw [26] (fun i wr => ∃ k : Nat, k ≤ m ∧ i = .int .i64 k ∧ Hid (Cnt W wr (cntF bs (xs.take k)))) (fun i _ => m - (intOf i).toNat)
  case atStart => exact ⟨0, by omega, rfl, C0⟩
  case round =>
    obtain ⟨k, hk, rfl, C⟩ := hrel
    clear C0
    by_cases hlt : k < m
    · have k1 : k < xs.length := by have := MM.out; omega
      obtain ⟨x, hxk⟩ : ∃ x, x = xs[k] := ⟨_, rfl⟩
      obtain ⟨g, o, ea, lx⟩ := xW.out.resolve_left (fun h => by rw [h] at k1; simp at k1)
      subst ea
      have c0 := (C.out.below.cell (p := ⟨g, o + k, none⟩) lx.lt).trans (lx.cell k k1)
      rw [← hxk] at c0
      have ST := hide (cntF_take (bs := bs) k1)
      rw [← hxk] at ST
      have LL := cntF_len bs (xs.take k)
      have BD := cntF_bound bs xs k
      obtain ⟨L, hL⟩ : ∃ L, L = cntF bs (xs.take k) := ⟨_, rfl⟩
      rw [← hL] at ST LL BD C
      have C1 := hide C.out
      obtain ⟨wo, hwo⟩ : ∃ wo, wo = wr := ⟨_, rfl⟩
      clear C hxk lx k1 hL hwo
      have LLh := hide LL
      have BDh := hide BD
      clear LL BD
      go_wp2_with fail
      go_loop [10, 32] (fun bn j => ∃ q : Nat, q ≤ n ∧ j = .int .i64 q ∧ bn = .int .i64 (binK (bs.take q) x : Nat)) (fun _ j => n - (intOf j).toNat)
      case atStart => exact ⟨0, by omega, rfl, rfl⟩
      case round =>
        obtain ⟨q, hq, rfl, rfl⟩ := hrel
        by_cases hlq : q < n
        · have q1 : q < bs.length := by have := NN.out; omega
          have e1 := (C1.out.below.cell (p := ⟨gb, ob + q, none⟩) gW.out).trans (bW.out.cell q q1)
          have ST2 := binK_take q1 UP.out x
          obtain ⟨y, hy⟩ : ∃ y, y = bs[q] := ⟨_, rfl⟩
          rw [← hy] at e1 ST2
          have hlq2 : (q : Int) < (n : Int) := by omega
          have hlq3 : decide (q < n) = true := decide_eq_true hlq
          by_cases t : y ≤ x
          · rw [if_pos t] at ST2
            have td : decide (y ≤ x) = true := decide_eq_true t
            have S2 := hide ST2
            clear ST2 hy q1
            go_wp2_with fail
            go_round
            case rel => exact ⟨q + 1, by omega, by go_num, by rw [S2.out]; go_num⟩
            case measure => simp [intOf]; omega
          · rw [if_neg t] at ST2
            have td : decide (y ≤ x) = false := decide_eq_false t
            have S2 := hide ST2
            clear ST2 hy q1
            go_wp2_with fail
            go_round
            case rel => exact ⟨q + 1, by omega, by go_num, by rw [S2.out]⟩
            case measure => simp [intOf]; omega
        · obtain rfl : q = n := by omega
          rw [show bs.take q = bs from by rw [NN.out]; exact List.take_length]
          have bk := binK_le bs x
          obtain ⟨z, hz⟩ : ∃ z, z = binK bs x := ⟨_, rfl⟩
          have zl : z < L.length := by rw [LLh.out, hz]; omega
          have zn : z < q + 1 := by have := NN.out; omega
          obtain ⟨r1, r2⟩ := C1.out.at_ z zl
          obtain ⟨v, hv⟩ : ∃ v, v = L.getD z 0 := ⟨_, rfl⟩
          have vb : 0 ≤ v ∧ v ≤ k := by
            have := BDh.out _ (List.getElem_mem zl)
            rw [hv, List.getD_eq_getElem?_getD, List.getElem?_eq_getElem zl]
            exact this
          obtain ⟨v0, v1⟩ := vb
          have NC : Hid (Cnt W (wr.setCell ⟨W.heap.size, z, none⟩ (.int .i64 (v + 1))) (cntF bs (xs.take (k + 1)))) := by
            have := C1.out.set z (v + 1) 0
            rw [ST.out]
            unfold cnt1
            rw [← hz, ← hv]
            exact this
          rw [← hv] at r1
          have zlt := C1.out.lt
          rw [← hz]
          clear bk hz hv C1 BDh LLh ST zl
          go_wp2_with fail
          go_roundw
          case rel => exact ⟨k + 1, by omega, by go_num, NC⟩
          case measure => simp [intOf]; omega
    · obtain rfl : k = m := by omega
      have C1 : Hid (Cnt W wr (cntF bs xs)) := by
        have := C.out
        rw [show xs.take k = xs from by rw [MM.out]; exact List.take_length] at this
        exact this
      have F2 := F.out W wr (n + 1) HW.out C1.out
      rw [← NN.out] at F2
      have F3 := hide F2
      clear C F2 F
      go_wp2_with fail
      go_returns
      exact F3.out
theorem bins_spec (a : Option Addr) (c : Nat) (xs : List Int) (b : Option Addr) (d : Nat) (bs : List Int) (w : World) (hx : IsInts .i64 w a xs) (hl : xs.length ≤ 140737488355328) (hb : IsInts .i64 w b bs) (hl2 : bs.length ≤ 140737488355328) :
    Calls Try.prog 22 #[.slice a xs.length c, .slice b bs.length d] w (BinsPost bs xs w) := by
  rcases hf : fineB xs with _ | _
  · exact bins_bad a c xs b d bs w hx hl hf
  · rcases hu : upB bs with _ | _
    · exact bins_not a c xs b d bs w hx hl hb hl2 hf hu
    · exact bins_good a c xs b d bs w hx hl hb hf hu
end Go.Proofs.Ytebiddmadmmfpaa
/- timer: the reference's fine, Bins. -/
namespace Go.Proofs.Ytebiddmadmmfpaa
set_option linter.unusedVariables false
set_option linter.unusedSimpArgs false
open Go.RowKit W T9
set_option maxRecDepth 100000 in
set_option maxHeartbeats 4000000 in
theorem rfine_spec (a : Option Addr) (c : Nat) (xs : List Int) (w : World) (hx : IsInts .i64 w a xs) (hl : xs.length ≤ 140737488355328) :
    CalcN 41 #[.slice a xs.length c] w (.bool (fineB xs)) := by
  rcases hx with rfl | ⟨g, o, rfl, hx⟩
  · go_enter Try.func41, Try.ntmps41
    go_wp2
    refine wp_loop_rounds 1 ?_
    rw [rounds_succ]
    go_wp2
    go_returns
    exact ⟨rfl, rfl⟩
  obtain ⟨E, hE⟩ : ∃ E, E = fineB xs := ⟨_, rfl⟩
  rw [← hE]
  have EE := hide hE
  have H := hide hx
  clear hE hx
  go_enter Try.func41, Try.ntmps41
  go_wp2
  go_loop [3] (fun i => ∃ k : Nat, k ≤ xs.length ∧ i = .int .i64 k ∧ Hid (∀ (j : Nat) (h : j < xs.length), j < k → 0 ≤ xs[j] ∧ xs[j] ≤ 100000000000000)) (fun i => xs.length - (intOf i).toNat)
  case atStart => exact ⟨0, by omega, rfl, fun j _ h => absurd h (by omega)⟩
  case round =>
    obtain ⟨k, hk, rfl, hd⟩ := hrel
    by_cases hlt : k < xs.length
    · have c0 := H.out.cell k hlt
      obtain ⟨x, hxk⟩ : ∃ x, x = xs[k] := ⟨_, rfl⟩
      rw [← hxk] at c0
      by_cases t : 0 ≤ x ∧ x ≤ 100000000000000
      · have N : Hid (∀ (j : Nat) (h : j < xs.length), j < k + 1 → 0 ≤ xs[j] ∧ xs[j] ≤ 100000000000000) := by
          intro j h hj
          by_cases q : j = k
          · subst q; rw [← hxk]; exact t
          · exact hd.out j h (by omega)
        have t1 : ¬ x < 0 := by omega
        have t2 : ¬ 100000000000000 < x := by omega
        clear hd hxk t
        go_wp2_with fail
        go_round
        case rel => exact ⟨k + 1, by omega, by go_num, N⟩
        case measure => simp [intOf]; omega
      · have F : Hid (E = false) := by
          show E = false
          rw [EE.out, not_fine hlt (by rw [← hxk]; exact t)]
        by_cases t1 : x < 0
        · clear hd hxk t EE
          go_wp2_with fail
          go_returns
          exact ⟨by rw [F.out]; rfl, rfl⟩
        · have t2 : 100000000000000 < x := by omega
          clear hd hxk t EE
          go_wp2_with fail
          go_returns
          exact ⟨by rw [F.out]; rfl, rfl⟩
    · obtain rfl : k = xs.length := by omega
      have F : Hid (E = true) := by
        show E = true
        rw [EE.out, fine_of fun j h => hd.out j h h]
      clear hd EE
      go_wp2
      go_returns
      exact ⟨by rw [F.out]; rfl, rfl⟩
/-- What the reference's loop over bounds keeps: may those up to here be? -/
def UpTo (bs : List Int) (k : Nat) : Prop := (∀ (j : Nat) (h : j < bs.length), j < k → 0 ≤ bs[j]) ∧ (∀ (j : Nat) (h : j + 1 < bs.length), j + 1 < k → bs[j] < bs[j + 1])
theorem upto_next {bs : List Int} {k : Nat} (h : UpTo bs k) (hk : k < bs.length) (a : 0 ≤ bs[k]) (b : ∀ (j : Nat) (e : k = j + 1), bs[j]'(by omega) < bs[k]) : UpTo bs (k + 1) := by
  refine ⟨fun j hj lt => ?_, fun j hj lt => ?_⟩
  · by_cases q : j = k
    · subst q; exact a
    · exact h.1 j hj (by omega)
  · by_cases q : k = j + 1
    · have := b j q
      subst q; exact this
    · exact h.2 j hj (by omega)
theorem upto_done {bs : List Int} (h : UpTo bs bs.length) (h1 : 1 ≤ bs.length) (h2 : bs.length ≤ 32) : upB bs = true :=
  up_of h1 h2 (fun x hx => by rw [List.getElem?_eq_getElem (by omega)] at hx; injection hx with hx; rw [← hx]; exact h.1 0 (by omega) (by omega)) fun j hj => h.2 j hj hj
set_option maxRecDepth 100000 in
set_option maxHeartbeats 4000000 in
theorem rbins_bad (a : Option Addr) (c : Nat) (xs : List Int) (b : Option Addr) (d : Nat) (bs : List Int) (w : World) (hx : IsInts .i64 w a xs) (hl : xs.length ≤ 140737488355328) (hf : fineB xs = false) :
    Calls Try.prog 23 #[.slice a xs.length c, .slice b bs.length d] w (BinsPost bs xs w) := by
  have kc := rfine_spec a c xs w hx hl
  rw [hf] at kc
  have F : Hid (BinsPost bs xs w (.returned (.tuple #[.slice none 0 0, .int .i64 93])) w) := by
    refine ⟨none, 0, ?_, .inl ?_, Below.refl _ _⟩ <;> simp [binL, binE, hf]
  clear hx hf
  go_enter Try.func23, Try.ntmps23
  go_wp2_with fail
  refine kc.mono ?_
  rintro e w1 ⟨rfl, rfl⟩
  clear kc
  go_wp2_with fail
  go_returns
  exact F.out
theorem Cnt.drewN {w wr : World} {L : List Int} (h : Cnt w wr L) (q : Nat) : Cnt w (wr.drewN q) L := ⟨h.own, below_drewN h.below q⟩
set_option maxRecDepth 100000 in
set_option maxHeartbeats 4000000 in
theorem rbins_len (a : Option Addr) (c : Nat) (xs : List Int) (b : Option Addr) (d : Nat) (bs : List Int) (w : World) (hx : IsInts .i64 w a xs) (hl : xs.length ≤ 140737488355328) (hl2 : bs.length ≤ 140737488355328) (hf : fineB xs = true) (hn : ¬ (1 ≤ bs.length ∧ bs.length ≤ 32)) :
    Calls Try.prog 23 #[.slice a xs.length c, .slice b bs.length d] w (BinsPost bs xs w) := by
  have kc := rfine_spec a c xs w hx hl
  rw [hf] at kc
  have hu : upB bs = false := up_no fun h => hn h.1
  have F : Hid (BinsPost bs xs w (.returned (.tuple #[.slice none 0 0, .int .i64 92])) w) := by
    refine ⟨none, 0, ?_, .inl ?_, Below.refl _ _⟩ <;> simp [binL, binE, hf, hu]
  obtain ⟨n, e⟩ : ∃ n, n = bs.length := ⟨_, rfl⟩
  rw [← e] at hn hl2 ⊢
  clear hx hf hu e
  by_cases z : n = 0
  · subst z
    clear hn
    go_enter Try.func23, Try.ntmps23
    go_wp2_with fail
    refine kc.mono ?_
    rintro e w1 ⟨rfl, rfl⟩
    clear kc
    go_wp2_with fail
    refine wp_loop_rounds 1 ?_
    rw [rounds_succ]
    go_wp2_with fail
    go_returns
    exact F.out
  · have n1 : 1 ≤ n := by omega
    have n2 : 32 < n := by omega
    have n3 : decide ((n : Int) ≤ 32) = false := decide_eq_false (by omega)
    have n4 : decide ((1 : Int) ≤ (n : Int)) = true := decide_eq_true (by omega)
    have n5 : 0 < n := by omega
    have n6 : (0 : Int) < (n : Int) := by omega
    clear hn z
    go_enter Try.func23, Try.ntmps23
    go_wp2_with fail
    refine kc.mono ?_
    rintro e w1 ⟨rfl, rfl⟩
    clear kc
    go_wp2_with fail
    refine wp_loop_rounds 1 ?_
    rw [rounds_succ]
    go_wp2_with fail
    go_returns
    exact F.out
set_option maxRecDepth 100000 in
set_option maxHeartbeats 8000000 in
theorem rbins_good (a : Option Addr) (c : Nat) (xs : List Int) (b : Option Addr) (d : Nat) (bs : List Int) (w : World) (hx : IsInts .i64 w a xs) (hl : xs.length ≤ 140737488355328) (hb : IsInts .i64 w b bs) (hf : fineB xs = true) (u1 : 1 ≤ bs.length) (u2 : bs.length ≤ 32) :
    Calls Try.prog 23 #[.slice a xs.length c, .slice b bs.length d] w (BinsPost bs xs w) := by
  have kc := rfine_spec a c xs w hx hl
  rw [hf] at kc
  have F1 : Hid (∀ w', upB bs = false → Below w.heap.size w w' → BinsPost bs xs w (.returned (.tuple #[.slice none 0 0, .int .i64 92])) w') := by
    intro w' hu B
    refine ⟨none, 0, ?_, .inl ?_, B⟩ <;> simp [binL, binE, hf, hu]
  have F : Hid (∀ W w' cap, upB bs = true → Below w.heap.size w W → Cnt W w' (cntF bs xs) → BinsPost bs xs w (.returned (.tuple #[.slice (some ⟨W.heap.size, 0, none⟩) (bs.length + 1) cap, .int .i64 0])) w') := by
    intro W w' cap hu B C
    refine ⟨some ⟨W.heap.size, 0, none⟩, cap, ?_, ?_, B.trans (C.below.mono B.size)⟩
    · simp [binL, binE, hf, hu, cntF_len]
    · simp only [binL, hf, hu, if_true]; exact C.is
  obtain ⟨gb, ob, rfl, lb⟩ := hb.resolve_left (fun h => by rw [h] at u1; simp at u1)
  have HB := hide lb
  have HX := hide hx
  obtain ⟨n, hn⟩ : ∃ n, n = bs.length := ⟨_, rfl⟩
  obtain ⟨m, hm⟩ : ∃ m, m = xs.length := ⟨_, rfl⟩
  rw [← hn] at u1 u2 ⊢
  rw [← hm] at hl kc ⊢
  have NN := hide hn
  have MM := hide hm
  obtain ⟨i0, hi0, hz0, hz1, hz2⟩ := info_parts info_int9
  have hmk : ∀ v : World, (Instr.makeSlice 49 (.int .i64 ((n : Int) + 1)) (.int .i64 ((n : Int) + 1))).run Try.prog v = .ok (.slice (some ⟨v.heap.size, 0, none⟩) (n + 1) (n + 1)) (v.alloc (.cells (madeCells #[.int .i64 0] (n + 1)) 3)) := fun v => by
    have := run_make (P := Try.prog) v 49 3 i0 (.int .i64 0) Try.underlying49 hi0 hz0 .i64 .i64 ((n : Int) + 1) ((n : Int) + 1) (by omega) (by omega) (by rw [hz2]; omega) (by omega)
    rw [hz1] at this
    rw [this]
    have e : ((n : Int) + 1).toNat = n + 1 := by omega
    rw [e]
    simp [Value.cells]
  have n3 : decide ((n : Int) ≤ 32) = true := decide_eq_true (by omega)
  have n4 : decide ((1 : Int) ≤ (n : Int)) = true := decide_eq_true (by omega)
  clear hx hf hb lb hn hm hi0 hz0 hz1 hz2
  go_enter Try.func23, Try.ntmps23
  go_wp2_with fail
  refine kc.mono ?_
  rintro e w1 ⟨rfl, rfl⟩
  clear kc
  go_wp2_with fail
  clear n3 n4
  go_loopw [6, 7] (fun o i wr => ∃ (k : Nat) (ok : Bool), k ≤ n ∧ i = .int .i64 k ∧ o = .bool ok ∧ Hid (ok = true → UpTo bs k) ∧ Hid (ok = false → upB bs = false) ∧ Hid (Below w.heap.size w wr)) (fun _ i _ => n - (intOf i).toNat)
  case atStart => exact ⟨0, true, by omega, rfl, rfl, fun _ => ⟨fun j _ h => absurd h (by omega), fun j _ h => absurd h (by omega)⟩, fun h => (by cases h), Below.refl _ _⟩
  case round =>
    obtain ⟨k, ok, hk, rfl, rfl, UT, UF, bl⟩ := hrel
    rcases ok with _ | _
    · have F2 := hide (F1.out wr (UF.out rfl) bl.out)
      clear F1 F hmk UT UF
      by_cases hlt : k < n
      · have hlt2 : (k : Int) < (n : Int) := by omega
        go_wp2_with fail
        go_returns
        exact F2.out
      · obtain rfl : k = n := by omega
        go_wp2_with fail
        go_returns
        exact F2.out
    · by_cases hlt : k < n
      · have k1 : k < bs.length := by have := NN.out; omega
        have LB := HB.out.later bl.out
        have e1 := LB.cell k k1
        obtain ⟨y, hy⟩ : ∃ y, y = bs[k] := ⟨_, rfl⟩
        rw [← hy] at e1
        have hlt2 : (k : Int) < (n : Int) := by omega
        by_cases t : 0 ≤ y
        · have td : decide (0 ≤ y) = true := decide_eq_true t
          rcases Nat.eq_zero_or_pos k with z | z
          · have U2 : Hid (UpTo bs (k + 1)) := upto_next (UT.out rfl) k1 (by rw [← hy]; exact t) (fun j e => by omega)
            have z1 : ((k : Int) == 0) = true := by simp; omega
            clear hy LB UT UF F F1 hmk k1 t z
            go_wp2_with fail
            go_quiet (fail)
            go_wp2_with fail
            go_roundw
            case rel => exact ⟨k + 1, true, by omega, by go_num, rfl, (fun _ => U2.out), (fun h => by cases h), below_drewN bl.out _⟩
            case measure => simp [intOf]; omega
          · obtain ⟨j, rfl⟩ : ∃ j, k = j + 1 := ⟨k - 1, by omega⟩
            have e2 := LB.cell j (by omega)
            obtain ⟨x, hx⟩ : ∃ x, x = bs[j] := ⟨_, rfl⟩
            rw [← hx] at e2
            have z1 : (((j : Int) + 1) == 0) = false := by simp; omega
            have z2 : IntKind.i64.wrap ((j : Int) + 1 - 1) = (j : Int) := by rw [IntKind.wrap_i64]; omega
            have z3 : (((j + 1 : Nat) : Int) == 0) = false := by simp; omega
            have z4 : j < n := by omega
            have z5 : (j : Int) < (n : Int) := by omega
            by_cases q : x < y
            · have qd : decide (x < y) = true := decide_eq_true q
              have U2 : Hid (UpTo bs (j + 1 + 1)) := upto_next (UT.out rfl) k1 (by rw [← hy]; exact t) (fun i e => by
                have : i = j := by omega
                subst this
                rw [← hy, ← hx]; exact q)
              clear hy hx LB UT UF F F1 hmk k1 t z q
              go_wp2_with fail
              go_quiet (fail)
              go_wp2_with fail
              go_roundw
              case rel => exact ⟨j + 1 + 1, true, by omega, by go_num, rfl, (fun _ => U2.out), (fun h => by cases h), below_drewN bl.out _⟩
              case measure => simp [intOf]; omega
            · have qd : decide (x < y) = false := decide_eq_false q
              have U2 : Hid (upB bs = false) := up_fall k1 (by rw [← hy, ← hx]; exact q)
              clear hy hx LB UT UF F F1 hmk k1 t z q
              go_wp2_with fail
              go_quiet (fail)
              go_wp2_with fail
              go_roundw
              case rel => exact ⟨j + 1 + 1, false, by omega, by go_num, rfl, (fun h => by cases h), (fun _ => U2.out), below_drewN bl.out _⟩
              case measure => simp [intOf]; omega
        · have td : decide (0 ≤ y) = false := decide_eq_false t
          have U2 : Hid (upB bs = false) := up_neg k1 (by rw [← hy]; omega)
          clear hy LB UT UF F F1 hmk k1 t
          go_wp2_with fail
          go_quiet (fail)
          go_wp2_with fail
          go_roundw
          case rel => exact ⟨k + 1, false, by omega, by go_num, rfl, (fun h => by cases h), (fun _ => U2.out), below_drewN bl.out _⟩
          case measure => simp [intOf]; omega
      · obtain rfl : k = n := by omega
        have hu : upB bs = true := by
          have e := NN.out
          have u := UT.out rfl
          rw [e] at u
          exact upto_done u (by omega) (by omega)
        obtain ⟨W, rfl⟩ : ∃ W, W = wr := ⟨_, rfl⟩
        have HW := hide bl.out
        have F9 : Hid (∀ w', Cnt W w' (cntF bs xs) → BinsPost bs xs w (.returned (.tuple #[.slice (some ⟨W.heap.size, 0, none⟩) (k + 1) (k + 1), .int .i64 0])) w') := by
          intro w' C
          rw [NN.out]
          exact F.out W w' _ hu HW.out C
        have gW : Hid (gb < W.heap.size) := Nat.lt_of_lt_of_le HB.out.lt HW.out.size
        have bW : Hid (LieI .i64 W gb ob bs) := HB.out.later HW.out
        have xW : Hid (IsInts .i64 W a xs) := HX.out.later HW.out
        clear bl UT UF F F1 hu hlt
        have C0 : Hid (Cnt W (W.alloc (.cells (madeCells #[.int .i64 0] (k + 1)) 3)) (cntF bs (xs.take 0))) := by
          have := Cnt.made W (k + 1) (by unfold maxLen; omega)
          rw [show List.replicate (k + 1) (0 : Int) = cntF bs (xs.take 0) from by rw [NN.out]; rfl] at this
          exact this
        go_wp2_with fail
        clear hmk
        go_loopw [9] (fun i wr => ∃ p : Nat, p ≤ m ∧ i = .int .i64 p ∧ Hid (Cnt W wr (cntF bs (xs.take p)))) (fun i _ => m - (intOf i).toNat)
        case atStart => exact ⟨0, by omega, rfl, C0⟩
        case round =>
          obtain ⟨p, hp, rfl, C⟩ := hrel
          clear C0
          by_cases hlt : p < m
          · have k1 : p < xs.length := by have := MM.out; omega
            obtain ⟨x, hxk⟩ : ∃ x, x = xs[p] := ⟨_, rfl⟩
            obtain ⟨g, o, ea, lx⟩ := xW.out.resolve_left (fun h => by rw [h] at k1; simp at k1)
            subst ea
            have c0 : Hid (∀ v L, Cnt W v L → v.cell? ⟨g, o + p, none⟩ = some (.int .i64 x)) := fun v L C => (C.below.cell (p := ⟨g, o + p, none⟩) lx.lt).trans (by rw [hxk]; exact lx.cell p k1)
            have ST := hide (cntF_take (bs := bs) k1)
            rw [← hxk] at ST
            have LL := cntF_len bs (xs.take p)
            have BD := cntF_bound bs xs p
            obtain ⟨L, hL⟩ : ∃ L, L = cntF bs (xs.take p) := ⟨_, rfl⟩
            rw [← hL] at ST LL BD C
            have C1 := hide C.out
            clear C hxk lx k1 hL
            have LLh := hide LL
            have BDh := hide BD
            clear LL BD
            have hlt2 : (p : Int) < (m : Int) := by omega
            go_wp2_with fail
            go_loopw [10] (fun j wi => ∃ q : Nat, q ≤ k ∧ j = .int .i64 q ∧ Hid (Cnt W wi L) ∧ Hid (∀ (i : Nat) (h : i < bs.length), i < q → bs[i] ≤ x)) (fun j _ => k - (intOf j).toNat)
            case atStart => exact ⟨0, by omega, rfl, C1, fun i _ h => absurd h (by omega)⟩
            case round =>
              obtain ⟨q, hq, rfl, C2, LO⟩ := hrel
              have e0 := c0.out _ _ C2.out
              by_cases hlq : q < k
              · have q1 : q < bs.length := by have := NN.out; omega
                have e1 := (C2.out.below.cell (p := ⟨gb, ob + q, none⟩) gW.out).trans (bW.out.cell q q1)
                obtain ⟨y, hy⟩ : ∃ y, y = bs[q] := ⟨_, rfl⟩
                rw [← hy] at e1
                have hlq2 : (q : Int) < (k : Int) := by omega
                by_cases t : y ≤ x
                · have td : decide (y ≤ x) = true := decide_eq_true t
                  have LO2 : Hid (∀ (i : Nat) (h : i < bs.length), i < q + 1 → bs[i] ≤ x) := by
                    intro i h lt
                    by_cases z : i = q
                    · subst z; rw [← hy]; exact t
                    · exact LO.out i h (by omega)
                  clear hy q1 LO t
                  go_wp2_with fail
                  go_quiet (fail)
                  go_wp2_with fail
                  go_roundw
                  case rel => exact ⟨q + 1, by omega, by go_num, C2.out.drewN _, LO2⟩
                  case measure => simp [intOf]; omega
                · have td : decide (y ≤ x) = false := decide_eq_false t
                  have bk : binK bs x = q := binK_at (by omega) LO.out (fun h => by rw [← hy]; exact t)
                  have zl : q < L.length := by rw [LLh.out]; omega
                  obtain ⟨r1, r2⟩ := C2.out.at_ q zl
                  obtain ⟨v, hv⟩ : ∃ v, v = L.getD q 0 := ⟨_, rfl⟩
                  have vb : 0 ≤ v ∧ v ≤ p := by
                    have := BDh.out _ (List.getElem_mem zl)
                    rw [hv, List.getD_eq_getElem?_getD, List.getElem?_eq_getElem zl]
                    exact this
                  obtain ⟨v0, v1⟩ := vb
                  have NC : Hid (∀ nq, Cnt W ((wr.drewN nq).setCell ⟨W.heap.size, q, none⟩ (.int .i64 (v + 1))) (cntF bs (xs.take (p + 1)))) := by
                    intro nq
                    have := C2.out.set q (v + 1) nq
                    rw [ST.out]
                    unfold cnt1
                    rw [bk, ← hv]
                    exact this
                  rw [← hv] at r1
                  have zlt := C2.out.lt
                  clear hy q1 LO t bk hv zl BDh LLh ST
                  go_wp2_with fail
                  go_quiet (fail)
                  go_wp2_with fail
                  go_roundw
                  case rel => exact ⟨p + 1, by omega, by go_num, NC.out _⟩
                  case measure => simp [intOf]; omega
              · obtain rfl : q = k := by omega
                have hlq3 : ¬ (q : Int) < (q : Int) := by omega
                have bk : binK bs x = q := binK_at (by have := NN.out; omega) LO.out (fun h => by have := NN.out; omega)
                have zl : q < L.length := by rw [LLh.out]; have := NN.out; omega
                obtain ⟨r1, r2⟩ := C2.out.at_ q zl
                obtain ⟨v, hv⟩ : ∃ v, v = L.getD q 0 := ⟨_, rfl⟩
                have vb : 0 ≤ v ∧ v ≤ p := by
                  have := BDh.out _ (List.getElem_mem zl)
                  rw [hv, List.getD_eq_getElem?_getD, List.getElem?_eq_getElem zl]
                  exact this
                obtain ⟨v0, v1⟩ := vb
                have NC : Hid (∀ nq, Cnt W ((wr.drewN nq).setCell ⟨W.heap.size, q, none⟩ (.int .i64 (v + 1))) (cntF bs (xs.take (p + 1)))) := by
                  intro nq
                  have := C2.out.set q (v + 1) nq
                  rw [ST.out]
                  unfold cnt1
                  rw [bk, ← hv]
                  exact this
                rw [← hv] at r1
                have zlt := C2.out.lt
                clear LO bk hv zl BDh LLh ST
                go_wp2_with fail
                go_quiet (fail)
                go_wp2_with fail
                go_roundw
                case rel => exact ⟨p + 1, by omega, by go_num, NC.out _⟩
                case measure => simp [intOf]; omega
          · obtain rfl : p = m := by omega
            have C1 : Hid (Cnt W wr (cntF bs xs)) := by
              have := C.out
              rw [show xs.take p = xs from by rw [MM.out]; exact List.take_length] at this
              exact this
            have F3 := hide (F9.out _ C1.out)
            clear C F9
            go_wp2_with fail
            go_returns
            exact F3.out
theorem rbins_spec (a : Option Addr) (c : Nat) (xs : List Int) (b : Option Addr) (d : Nat) (bs : List Int) (w : World) (hx : IsInts .i64 w a xs) (hl : xs.length ≤ 140737488355328) (hb : IsInts .i64 w b bs) (hl2 : bs.length ≤ 140737488355328) :
    Calls Try.prog 23 #[.slice a xs.length c, .slice b bs.length d] w (BinsPost bs xs w) := by
  rcases hf : fineB xs with _ | _
  · exact rbins_bad a c xs b d bs w hx hl hf
  · by_cases hn : 1 ≤ bs.length ∧ bs.length ≤ 32
    · exact rbins_good a c xs b d bs w hx hl hb hf hn.1 hn.2
    · exact rbins_len a c xs b d bs w hx hl hl2 hf hn
end Go.Proofs.Ytebiddmadmmfpaa
/- Slices of numbers as they are read, with their capacity and their shape. -/
namespace Go.Proofs.Ytebiddmadmmfpaa
set_option linter.unusedVariables false
set_option linter.unusedSimpArgs false
open Go.RowKit W
open Go.ChangeShapes Go.WideShapes in
/-- A slice of numbers as it is read. -/
theorem isIntu_of {H : Type} {enc : TypeId × Value → H} {P : Program} {w : World} {base : Nat} {spare : Nat → Bool} {held : Bool} {n : Nat} {t e : TypeId} {k : IntKind} {v : Value} {y : DataW H × List MemPlace}
    (ht : P.underlying t = some (.slice e)) (he : P.underlying e = some (.int k)) (hc : P.cellsOf e = 1) (h : DataW.trod enc P w base spare held n t [v] = some y) :
    ∃ a c xs, v = .slice a (List.length xs) c ∧ xs.length ≤ c ∧ c ≤ 9223372036854775807 ∧ (a = none → xs.length = 0 ∧ c = 0) ∧ IsInts k w a xs ∧ (∀ x ∈ xs, (Lit.int k x).wf = true) ∧ (xs = [] ∨ ∃ el sp, y.1 = .slice el sp ∧ el.length = xs.length) := by
  rcases open_ints ht he hc h with ⟨hcs, _⟩ | ⟨a, len, cap, zs, hcs, _, hl, hm, hz, hy, hcell, hwf⟩
  · simp at hcs
    exact ⟨none, 0, [], hcs, by simp, by simp, by simp, .inl rfl, by simp, .inl rfl⟩
  · simp at hcs
    have lz : len ≤ zs.length := by rw [hz]; split <;> omega
    have lt : (zs.take len).length = len := by rw [List.length_take]; omega
    unfold maxLen at hm
    refine ⟨some a, cap, zs.take len, by rw [lt]; exact hcs, by rw [lt]; exact hl, by omega, (by intro e; cases e), ?_, fun x hx => hwf x (List.mem_of_mem_take hx), .inr ⟨lits k (zs.take len), lits k (zs.drop len), by rw [hy], by simp [lits]⟩⟩
    rcases Nat.eq_zero_or_pos len with rfl | hpos
    · exact .inl (by simp)
    · have g0 := hcell 0 (by omega)
      obtain ⟨b, off, spot⟩ := a
      have hspot : spot = none := by simpa [Addr.add] using World.cell?_spot g0
      subst hspot
      refine .inr ⟨b, off, rfl, ⟨fun j hj => ?_, ?_⟩⟩
      · rw [lt] at hj
        have := hcell j (by omega)
        rw [add_plain] at this
        rw [this]
        simp [List.getD_eq_getElem?_getD, List.getElem?_eq_getElem (show j < zs.length by omega)]
      · have := hcell 0 (by omega)
        rw [add_plain] at this
        exact cellb_lt this
end Go.Proofs.Ytebiddmadmmfpaa
/- timer: TimerBins. -/
namespace Go.Proofs.Ytebiddmadmmfpaa
set_option linter.unusedVariables false
set_option linter.unusedSimpArgs false
open Go.RowKit W T9
set_option maxRecDepth 100000 in
set_option maxHeartbeats 4000000 in
theorem law_TimerBins (a : Option Addr) (ca : Nat) (xs : List Int) (b : Option Addr) (cb : Nat) (bs : List Int)
    (wx : ∀ x ∈ xs, (Lit.int .i64 x).wf = true) (bx : xs.length ≤ 17592186044416) (hca : xs.length ≤ ca) (ha63 : ca ≤ 9223372036854775807) (hna : a = none → xs.length = 0 ∧ ca = 0)
    (wy : ∀ x ∈ bs, (Lit.int .i64 x).wf = true) (by_ : bs.length ≤ 17592186044416) (hcb : bs.length ≤ cb) (hb63 : cb ≤ 9223372036854775807) (hnb : b = none → bs.length = 0 ∧ cb = 0)
    (w : World) (hx : IsInts .i64 w a xs) (hy : IsInts .i64 w b bs) :
    Calls Try.prog 7 #[.slice a xs.length ca, .slice b bs.length cb] w fun e w' => e = .returned (.bool true) ∧ Below w.heap.size w w' := by
  have k1 := bins_spec a ca xs b cb bs w hx (by omega) hy (by omega)
  have k2 := fun w' (B : Below w.heap.size w w') => rbins_spec a ca xs b cb bs w' (hx.later B) (by omega) (hy.later B) (by omega)
  have k4 := alive9
  have bl : (binL bs xs).length ≤ 17592186044417 := by
    unfold binL; split
    · split
      · rw [cntF_len]; omega
      · simp
    · simp
  unfold BinsPost at k1 k2
  generalize binL bs xs = L at *
  generalize binE bs xs = E at *
  have K2 := hide k2
  clear wx wy hca ha63 hna hcb hb63 hnb hx hy k2 bx by_
  go_enter Try.func7, Try.ntmps7
  go_wp2_with fail
  refine k1.mono ?_
  clear k1
  rintro e w1 ⟨a1, c1, rfl, i1, b1⟩
  have I1 := hide i1
  clear i1
  go_wp2_with fail
  refine (K2.out _ b1).mono ?_
  clear K2
  rintro e w2 ⟨a2, c2, rfl, i2, h2⟩
  have I2 := hide i2
  have b2 := b1.trans (h2.mono b1.size)
  have J1 := hide (I1.out.later h2)
  clear i2 I1 b1 h2
  obtain ⟨n, hn⟩ : ∃ n, n = L.length := ⟨_, rfl⟩
  rw [← hn] at bl
  rw [← hn]
  have NN := hide hn
  clear hn
  have B2 := hide b2
  clear b2
  go_wp2_with fail
  go_loopw [9] (fun i wr => ∃ k : Nat, k ≤ n ∧ i = .int .i64 k ∧ Hid (Below w2.heap.size w2 wr)) (fun i _ => n - (intOf i).toNat)
  case atStart => exact ⟨0, by omega, rfl, Below.refl _ _⟩
  case round =>
    obtain ⟨k, hk, rfl, bl2⟩ := hrel
    by_cases hlt : k < n
    · have k1 : k < L.length := by have := NN.out; omega
      have nl : L ≠ [] := fun h => by rw [h] at k1; simp at k1
      obtain ⟨g1, o1, e1, l1⟩ := J1.out.resolve_left nl
      obtain ⟨g2, o2, e2, l2⟩ := I2.out.resolve_left nl
      have c1 := (l1.later bl2.out).cell k k1
      have c2 := (l2.later bl2.out).cell k k1
      have hlt2 : (k : Int) < (n : Int) := by omega
      subst e1 e2
      generalize L[k] = x at c1 c2
      clear l1 l2 nl k1
      go_wp2_with fail
      go_quiet (fail)
      go_wp2_with fail
      go_roundw
      case rel => exact ⟨k + 1, by omega, by go_num, below_drewN bl2.out _⟩
      case measure => simp [intOf]; omega
    · obtain rfl : k = n := by omega
      go_wp2_with fail
      refine (k4 _).mono ?_
      rintro e w4 ⟨rfl, h4⟩
      have b3 := hide (B2.out.trans ((bl2.out.trans (h4.mono bl2.out.size)).mono B2.out.size))
      clear h4 k4
      go_wp2_with fail
      go_returns
      exact ⟨rfl, b3.out⟩
end Go.Proofs.Ytebiddmadmmfpaa
