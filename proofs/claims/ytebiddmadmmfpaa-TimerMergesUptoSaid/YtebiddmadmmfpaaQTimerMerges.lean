/- Texts that belong together: Tmerge Trmg Tsame Intu Lawtm. -/
import Derived.Test.YtebiddmadmmfpaaG01
import Derived.Deep.DeepCutAuto
import Derived.Deep.AppendLies
import Derived.Laws.OwnMore
import Derived.OwnWalk
import Derived.Laws.AppendOwnNone
import Derived.Laws.MakeOwn
import Derived.Deep.QuietTactic
import Derived.BigQuiet
import Derived.Test.YtebiddmadmmfpaaG03
set_option linter.unusedSimpArgs false
set_option linter.unusedVariables false
/- timer: merge; Merge. (gen_tm2.py) -/
namespace Go.Proofs.Ytebiddmadmmfpaa
set_option linter.unusedVariables false
set_option linter.unusedSimpArgs false
open Go.RowKit W T9
theorem info_w64 : (Try.prog.info? 2).map (fun i => (i.zero, i.size, i.bytes)) = some (some (.int .i64 0), 1, 8) := by kernel_rfl
theorem size_i64 (w : World) : (Go.sizeOf (Try.prog.elem 29)).run Try.prog w = .ok 1 w := by kernel_rfl
theorem addz (x : Addr) : x.add 0 = x := by unfold Addr.add; simp
/-- l[1:] of a slice of numbers. -/
theorem ints_tail {w : World} {a : Option Addr} {l : List Int} {x : Int} (h : IsInts .i64 w a (x :: l)) (c : Nat) (hc : l.length + 1 ≤ c) (h63 : c ≤ 9223372036854775807) :
    ∃ a2, (∀ v, (Instr.slice 29 (.slice a (l.length + 1) c) (some (.int .i64 1)) none none).run Try.prog v = .ok (.slice a2 l.length (c - 1)) v) ∧ IsInts .i64 w a2 l ∧ (a2 = none → c - 1 = 0) := by
  refine ⟨if c = 1 then a else a.map (·.add (1 * 1)), fun v => ?_, ?_, ?_⟩
  · rw [run_slice_l (P := Try.prog) (w := v) 29 a (l.length + 1) c (by kernel_rfl) .i64 (1 : Int) (by omega) (by omega), size_i64]
    simp [Result.andThen, sliced]
  · rcases h with h | ⟨g, o, rfl, h⟩
    · cases h
    · by_cases e : l = []
      · exact .inl e
      · have : 0 < l.length := by cases l; exact absurd rfl e; simp
        rw [if_neg (by omega)]
        refine .inr ⟨g, o + 1, by simp only [Option.map_some, Nat.mul_one]; rw [Go.WideShapes.add_plain], ⟨fun j hj => ?_, h.lt⟩⟩
        have := h.cell (j + 1) (by simp; omega)
        rw [Nat.add_assoc, Nat.add_comm 1 j, this]
        rfl
  · intro e
    obtain ⟨g, o, h⟩ : ∃ g o, a = some ⟨g, o, none⟩ := by
      rcases h with h | ⟨g, o, h, _⟩
      · cases h
      · exact ⟨g, o, h⟩
    subst h
    split at e
    · cases e
    · cases e
theorem ints_head {w : World} {a : Option Addr} {l : List Int} {x : Int} (h : IsInts .i64 w a (x :: l)) : ∃ g o, a = some ⟨g, o, none⟩ ∧ w.cell? ⟨g, o, none⟩ = some (.int .i64 x) ∧ g < w.heap.size := by
  rcases h with h | ⟨g, o, rfl, h⟩
  · cases h
  · exact ⟨g, o, rfl, by have := h.cell 0 (by simp); simpa using this, h.lt⟩
theorem own_below {w w' : World} {base size n : Nat} {e : TypeId} {v : Value} {xs : List Value} (h : w.ownsRow base e size v n xs) (k : Below w.heap.size w w') : w'.ownsRow base e size v n xs := by
  refine ⟨h.1, h.2.imp id ?_⟩
  rintro ⟨g, cap, cur, hv, hb, hh, r⟩
  exact ⟨g, cap, cur, hv, hb, (k.block g (h.lt g (by rw [hv]; rfl)).2).trans hh, r⟩
theorem cells_ints {w : World} {ad : Addr} {ps : List Int} (h : IsInts .i64 w (some ad) ps) : ∀ j u, (ps.map (Value.int .i64))[j]? = some u → w.cell? (ad.add j) = some u := by
  intro j u hj
  rcases h with e | ⟨g, o, e, L⟩
  · rw [e, List.map_nil, List.getElem?_nil] at hj
    cases hj
  · injection e with e
    subst e
    obtain ⟨hj2, e2⟩ := List.getElem?_eq_some_iff.1 hj
    rw [List.length_map] at hj2
    rw [Go.WideShapes.add_plain, L.cell j hj2, ← e2, List.getElem_map]
/-- A list of numbers that was made since the world w. -/
structure OwnI (w wr : World) (v : Value) (xs : List Int) : Prop where
  own : wr.ownsRow w.heap.size 2 1 v xs.length (xs.map (Value.int .i64))
  below : Below w.heap.size w wr
theorem OwnI.is {w wr : World} {v : Value} {xs : List Int} (h : OwnI w wr v xs) : ∃ a c, v = .slice a xs.length c ∧ xs.length ≤ c ∧ c ≤ maxLen ∧ IsInts .i64 wr a xs ∧ (∀ g, a = some g → w.heap.size ≤ g.block) := by
  rcases h.own.2 with ⟨rfl, h0⟩ | ⟨g, cap, cur, rfl, hb, hg, hc, hm, hs, ht⟩
  · exact ⟨none, 0, by rw [h0], by omega, by simp [maxLen], .inl (List.eq_nil_of_length_eq_zero h0), fun g e => by cases e⟩
  · refine ⟨_, cap, rfl, hc, hm, .inr ⟨g, 0, rfl, ⟨fun k hk => ?_, (h.own.lt g rfl).2⟩⟩, fun x e => by injection e with e; rw [← e]; exact hb⟩
    rw [Nat.zero_add, h.own.cellAt k (by omega)]
    simp [List.getElem?_eq_getElem hk]
theorem OwnI.later {w wr w' : World} {v : Value} {xs : List Int} (h : OwnI w wr v xs) (k : Below wr.heap.size wr w') : OwnI w w' v xs :=
  ⟨own_below h.own k, h.below.trans (k.mono h.below.size)⟩
theorem OwnI.more {w wr w1 : World} {v v' : Value} {xs : List Int} {x : Int} {o : Obj} (h : OwnI w wr v xs)
    (hown : w1.ownsRow w.heap.size 2 1 v' (xs.length + 1) (xs.map (Value.int .i64) ++ [.int .i64 x])) (hg : ((wr.alloc o).drew).grownBy w1 v.ownBlock) : OwnI w w1 v' (xs ++ [x]) :=
  ⟨by simpa using hown, (((h.below.alloc h.below.size _)).drew).grown hg (by have := h.below.size; simp; omega) (fun j hj => (h.own.lt j hj).1)⟩
theorem one_i64 {x : Int} : ∀ u ∈ [Value.int .i64 x], u.oneCell' = true := by intro u hu; rw [List.mem_singleton] at hu; subst hu; rfl
theorem own_not {w : World} {base e n g : Nat} {v : Value} {xs : List Value} (h : w.ownsRow base e 1 v n xs) (hg : g < base) : v.ownBlock ≠ some g := fun q => by have := (h.lt g q).1; omega
theorem wpList_append_ints {w : World} {ops : Array Oper} {rest : List Oper} {o : Oper} {a : Act} {Q : Exit → Act → World → Prop} (hgd : o.guard = none) (s x : Operand)
    (ho : o.op = .call { callee := .builtin .append, args := #[s, x], argTypes := #[29, 29] }) (w0 : World) (v : Value) (qs : List Int) (hs : a.eval s = v) (hown : OwnI w0 w v qs) (sa : Option Addr) (n c : Nat) (ps : List Int) (hx : a.eval x = .slice sa n c) (hn : n = ps.length) (hsrc : IsInts .i64 w sa ps) (hnil : sa = none → c = 0)
    (h63 : (qs.length + ps.length) * 8 ≤ 140737488355328) (h : ∀ v' w', OwnI w0 w' v' (qs ++ ps) → wpList Try.prog ops Q rest (a.put o.dst v') w') : wpList Try.prog ops Q (o :: rest) a w := by
  obtain ⟨i0, hi0, hz0, hz1, hz2⟩ := info_parts info_w64
  subst hn
  cases sa with
  | none =>
    have e : ps = [] := by
      rcases hsrc with e | ⟨g, o, e, _⟩
      · exact e
      · cases e
    subst e
    rw [hnil rfl, List.length_nil] at hx
    refine wpList_append_own_none hgd s x 29 ho w0.heap.size 2 i0 1 Try.underlying29 hi0 v qs.length (qs.map (Value.int .i64)) hs hown.own hx ?_
    exact h v w (by rw [List.append_nil]; exact hown)
  | some ad =>
    refine wpList_append_own _ hgd s x 29 ho w0.heap.size 2 i0 (.int .i64 0) 1 8 Try.underlying29 hi0 hz0 hz1 hz2 rfl (by decide) v qs.length (qs.map (Value.int .i64)) hs hown.own ad ps.length c (ps.map (Value.int .i64)) hx (by rw [List.length_map, Nat.mul_one]) (cells_ints hsrc) ?_ (by unfold maxLen; omega) (by omega) hown.below.size ?_
    · intro u hu
      obtain ⟨y, _, rfl⟩ := List.mem_map.1 hu
      rfl
    · intro v' w' h1 h2 _
      refine h v' w' ⟨by rw [List.length_append, List.map_append]; exact h1, hown.below.grown h2 hown.below.size (fun j hj => (hown.own.lt j hj).1)⟩
theorem far9 {W w1 : World} {o : Obj} {row : Option Nat} (hg : ((W.alloc o).drew).grownBy w1 row) {b f : Nat} {v : Value} (h : W.cell? ⟨b, f, none⟩ = some v) (hb : b < W.heap.size) (ne : row ≠ some b) : w1.cell? ⟨b, f, none⟩ = some v := by
  rw [hg.cell_far ⟨b, f, none⟩ (by simp; omega) (Ne.symm ne)]
  have e : ((W.alloc o).drew).cell? ⟨b, f, none⟩ = W.cell? ⟨b, f, none⟩ := Below.cell (B := W.heap.size) (((Below.refl _ _).alloc (Nat.le_refl _) o).drew) hb
  rw [e]; exact h
def lenV9 : Value → Nat | .slice _ n _ => n | _ => 0
set_option maxRecDepth 100000 in
set_option maxHeartbeats 8000000 in
theorem merge_spec (a b : Option Addr) (ca cb : Nat) (xs ys : List Int) (w : World) (hx : IsInts .i64 w a xs) (hy : IsInts .i64 w b ys) (hca : xs.length ≤ ca) (hcb : ys.length ≤ cb) (hna : a = none → ca = 0) (hnb : b = none → cb = 0) (ha63 : ca ≤ 9223372036854775807) (hb63 : cb ≤ 9223372036854775807) (hl : (xs.length + ys.length) * 8 ≤ 140737488355328) :
    Calls Try.prog 34 #[.slice a xs.length ca, .slice b ys.length cb] w fun e w' => ∃ v, e = .returned v ∧ OwnI w w' v (mg xs ys) := by
  have HX := hide hx
  have HY := hide hy
  have HN := hide (And.intro hna hnb)
  have HA := hide hca
  have HB := hide hcb
  obtain ⟨M, hM⟩ : ∃ M, M = mg xs ys := ⟨_, rfl⟩
  rw [← hM]
  have HM := hide hM
  obtain ⟨m, hm⟩ : ∃ m, m = xs.length := ⟨_, rfl⟩
  obtain ⟨n, hn⟩ : ∃ n, n = ys.length := ⟨_, rfl⟩
  have T := hide (show m + n = xs.length + ys.length by omega)
  rw [← hm, ← hn] at hl ⊢
  have MN := hide (And.intro hm hn)
  obtain ⟨i0, hi0, hz0, hz1, hz2⟩ := info_parts info_w64
  have hmk : ∀ w : World, (Instr.makeSlice 29 (.int .i64 0) (.int .i64 ((m : Int) + (n : Int)))).run Try.prog w = .ok (.slice (some ⟨w.heap.size, 0, none⟩) 0 (m + n)) (w.alloc (.cells (madeCells #[.int .i64 0] (m + n)) 2)) := fun w => by
    have := run_make (P := Try.prog) w 29 2 i0 (.int .i64 0) Try.underlying29 hi0 hz0 .i64 .i64 0 ((m : Int) + (n : Int)) (by omega) (by omega) (by rw [hz2]; omega) (by omega)
    rw [hz1] at this
    rw [this]
    have e : ((m : Int) + (n : Int)).toNat = m + n := by omega
    rw [e]
    simp [Value.cells]
  have HI : Hid (Try.prog.info? 2 = some i0 ∧ i0.zero = some (.int .i64 0) ∧ i0.size = 1 ∧ i0.bytes = 8) := ⟨hi0, hz0, hz1, hz2⟩
  clear hi0 hz0 hz1 hz2 hx hy hca hcb hM hm hn hna hnb
  go_enter Try.func34, Try.ntmps34
  go_wp2_with fail
  clear hmk
  go_loopw [0, 1, 5] (fun p q v wr => ∃ (A B : Option Addr) (c d : Nat) (us ts L : List Int), p = .slice A us.length c ∧ q = .slice B ts.length d ∧ Hid (us.length ≤ c ∧ ts.length ≤ d ∧ c ≤ 9223372036854775807 ∧ d ≤ 9223372036854775807 ∧ (A = none → c = 0) ∧ (B = none → d = 0)) ∧ Hid (IsInts .i64 w A us ∧ IsInts .i64 w B ts) ∧ Hid (OwnI w wr v L) ∧ Hid (L ++ mg us ts = M) ∧ Hid (L.length + us.length + ts.length = m + n)) (fun p q _ _ => lenV9 p + lenV9 q)
  case atStart =>
    refine ⟨a, b, ca, cb, xs, ys, [], by rw [MN.out.1], by rw [MN.out.2], ⟨HA.out, HB.out, ha63, hb63, HN.out.1, HN.out.2⟩, ⟨HX.out, HY.out⟩, ⟨?_, ?_⟩, HM.out.symm, ?_⟩
    · exact World.ownsRow_made w _ (m + n) (Nat.le_refl _) (by unfold maxLen; omega) (by simp [madeCells])
    · go_grown
    · show [].length + _ + _ = _
      rw [List.length_nil, T.out]; omega
  case round =>
    obtain ⟨A, B, c, d, us, ts, L, rfl, rfl, H1, H2, OW, H4, H5⟩ := hrel
    rcases us with _ | ⟨x, us⟩
    · have e : L ++ ts = M := by have := H4.out; rwa [mg_nil] at this
      have E := hide e
      have q := H5.out
      have LL := hide q
      clear e q H4 H5
      have h1 := H1.out
      have H1' := hide h1
      clear h1 H1
      rw [List.length_nil]
      have b1 : (L.length + ([] : List Int).length) * 8 ≤ 140737488355328 := by have := LL.out; simp at this ⊢; omega
      have b2 : (L.length + ts.length) * 8 ≤ 140737488355328 := by have := LL.out; simp at this ⊢; omega
      go_wp2_with (first
        | (at_builtin; refine wpList_append_ints rfl _ _ rfl w u5 L rfl OW.out A 0 c [] rfl rfl (.inl rfl) H1'.out.2.2.2.2.1 b1 ?_; intro v1 w1 O1; rw [List.append_nil] at O1; have O2 := hide O1; clear O1)
        | (at_builtin; refine wpList_append_ints rfl _ _ rfl w v1 L rfl O2.out B ts.length d ts rfl rfl (H2.out.2.later O2.out.below) H1'.out.2.2.2.2.2 b2 ?_; intro v2 w2 O3; rw [E.out] at O3; have O4 := hide O3; clear O3))
      go_returns
      exact ⟨v2, rfl, O4.out⟩
    rcases ts with _ | ⟨y, ts⟩
    · have e : L ++ x :: us = M := by have := H4.out; rwa [mg_nil2] at this
      have E := hide e
      have q := H5.out
      have LL := hide q
      clear e q H4 H5
      have h1 := H1.out
      have H1' := hide h1
      clear h1 H1
      rw [List.length_nil]
      have hp : (0 : Int) < ((x :: us).length : Int) := by rw [List.length_cons]; omega
      obtain ⟨N, hN⟩ : ∃ N, N = (x :: us).length := ⟨_, rfl⟩
      rw [← hN] at hp ⊢
      have NN := hide hN
      clear hN
      have b1 : (L.length + (x :: us).length) * 8 ≤ 140737488355328 := by have := LL.out; simp at this ⊢; omega
      have b2 : (M.length + ([] : List Int).length) * 8 ≤ 140737488355328 := by have := LL.out; rw [← E.out]; simp at this ⊢; omega
      go_wp2_with (first
        | (at_builtin; refine wpList_append_ints rfl _ _ rfl w u5 L rfl OW.out A N c (x :: us) rfl NN.out (H2.out.1.later OW.out.below) H1'.out.2.2.2.2.1 b1 ?_; intro v1 w1 O1; rw [E.out] at O1; have O2 := hide O1; clear O1)
        | (at_builtin; refine wpList_append_ints rfl _ _ rfl w v1 M rfl O2.out B 0 d [] rfl rfl (.inl rfl) H1'.out.2.2.2.2.2 b2 ?_; intro v2 w2 O3; rw [List.append_nil] at O3; have O4 := hide O3; clear O3))
      go_returns
      exact ⟨v2, rfl, O4.out⟩
    obtain ⟨ga, oa, rfl, ca, la⟩ := ints_head H2.out.1
    obtain ⟨gb, ob, rfl, cb, lb⟩ := ints_head H2.out.2
    have h1 := H1.out
    have g1 : us.length + 1 ≤ c := h1.1
    have g2 : ts.length + 1 ≤ d := h1.2.1
    have H1' := hide h1
    clear h1 H1
    have ca' := (OW.out.below.cell (p := ⟨ga, oa, none⟩) la).trans ca
    have cb' := (OW.out.below.cell (p := ⟨gb, ob, none⟩) lb).trans cb
    obtain ⟨A2, sa, ia, na⟩ := ints_tail H2.out.1 c g1 H1'.out.2.2.1
    obtain ⟨B2, sb, ib, nb⟩ := ints_tail H2.out.2 d g2 H1'.out.2.2.2.1
    have IA := hide (And.intro ia na)
    have IB := hide (And.intro ib nb)
    have LL := H5.out
    rw [List.length_cons, List.length_cons] at LL
    have O0 := OW.out
    have aga := own_not O0.own la
    have agb := own_not O0.own lb
    obtain ⟨k, hk⟩ : ∃ k, k = L.length := ⟨_, rfl⟩
    rw [← hk] at LL
    have KK := hide hk
    have KM := hide (show k + 1 ≤ maxLen by unfold maxLen; omega)
    have KB := hide (show (k + 1) * 8 ≤ 140737488355328 by omega)
    have LL' := hide LL
    have hwa : ga < wr.heap.size := Nat.lt_of_lt_of_le la O0.below.size
    have hwb : gb < wr.heap.size := Nat.lt_of_lt_of_le lb O0.below.size
    have bs := O0.below.size
    clear ia ib na nb OW LL hk
    have OW := hide O0
    clear O0 ca cb
    rw [List.length_cons, List.length_cons]
    obtain ⟨n1, hn1⟩ : ∃ n1, n1 = us.length := ⟨_, rfl⟩
    obtain ⟨n2, hn2⟩ : ∃ n2, n2 = ts.length := ⟨_, rfl⟩
    rw [← hn1] at g1 sa
    rw [← hn2] at g2 sb
    rw [← hn1, ← hn2]
    have N1 := hide hn1
    have N2 := hide hn2
    clear hn1 hn2
    have p1 : (0 : Int) < (n1 : Int) + 1 := by omega
    have p2 : (0 : Int) < (n2 : Int) + 1 := by omega
    by_cases t : y < x
    · have MM : Hid (L ++ y :: mg (x :: us) ts = M) := by have := H4.out; rwa [mg_b t] at this
      have td : decide (y < x) = true := decide_eq_true t
      go_wp2_with fail
      go_quiet (fail)
      go_wp2_with fail
      refine abs_wp (fun W => W.cell? ⟨ga, oa, none⟩ = some (.int .i64 x) ∧ W.cell? ⟨gb, ob, none⟩ = some (.int .i64 y) ∧ ga < W.heap.size ∧ gb < W.heap.size ∧ w.heap.size ≤ W.heap.size ∧ Hid (OwnI w W u5 L)) ?_ ?_
      · exact ⟨by go_simp, by go_simp, by simpa using hwa, by simpa using hwb, by simpa using bs, OW.out.later (below_drewN (Below.refl _ _) _)⟩
      clear hwa hwb bs ca' cb' OW
      rintro W ⟨ca', cb', hwa, hwb, bs, OW⟩
      have ow : W.ownsRow w.heap.size 2 1 u5 k (L.map (Value.int .i64)) := by rw [KK.out]; exact OW.out.own
      have OR := hide ow
      clear ow
      go_region_held3 (fun w' => w'.cell? ⟨ga, oa, none⟩ = some (.int .i64 x) ∧ w'.cell? ⟨gb, ob, none⟩ = some (.int .i64 y))
        (first | exact ⟨far9 hgrow ca' hwa aga, far9 hgrow cb' hwb agb⟩ | go_keep)
        ((refine step_append_lies _ (by rfl) _ _ _ (by rfl) w.heap.size 2 i0 _ 1 8 Try.underlying29 HI.out.1 HI.out.2.1 HI.out.2.2.1 HI.out.2.2.2 rfl (by omega) u5 k (L.map (Value.int .i64)) (by rfl) ((OR.out.alloc _).drew)
              ⟨W.heap.size, 0, none⟩ 1 1 [.int .i64 y] (by rfl) (by rfl) (World.news_of_block (cs := #[.int .i64 y]) (t := 2) (fr := (0, 0)) (heap_alloc_new W _)) one_i64
              (by omega) KM.out KB.out (by simp; omega) (W.heap.size + 1) (by simp) ?_; intro gg cap w1 hown1 hgrow hat hlt))
      all_goals
        have O9 : OwnI w w1 (.slice (some ⟨gg, 0, none⟩) (k + 1) cap) (L ++ [y]) := OwnI.more OW.out (by rw [← KK.out]; exact hown1) hgrow
        have P9 := hide O9
        clear O9 hown1 hgrow hat hlt OR
        go_wp2_with fail
        go_roundw
        case rel =>
          refine ⟨some ⟨ga, oa, none⟩, B2, c, d - 1, x :: us, ts, L ++ [y], ?_, ?_, ?_, ?_, P9.out, ?_, ?_⟩
          · first | (rw [N1.out]; done) | (rw [N1.out]; rfl) | (rw [List.length_cons, N1.out]; done)
          · first | (rw [N2.out]; done) | (rw [N2.out]; rfl) | (rw [List.length_cons, N2.out]; done)
          · have q := H1'.out
            have q1 := IA.out.2
            have q2 := IB.out.2
            show _ ∧ _ ∧ _ ∧ _ ∧ _ ∧ _
            rw [List.length_cons]
            refine ⟨?_, ?_, ?_, ?_, ?_, ?_⟩
            all_goals first | (have := N1.out; have := N2.out; omega) | exact q1 | exact q2 | (intro h; cases h)
          · exact ⟨H2.out.1, IB.out.1⟩
          · show _ = _
            rw [List.append_assoc]; exact MM.out
          · show _ = _
            have := LL'.out
            rw [List.length_append, List.length_cons, ← KK.out]
            simp only [List.length_cons, List.length_nil]
            omega
        case measure => simp [lenV9]
    · have MM : Hid (L ++ x :: mg us (y :: ts) = M) := by have := H4.out; rwa [mg_a t] at this
      have td : decide (y < x) = false := decide_eq_false t
      go_wp2_with fail
      go_quiet (fail)
      go_wp2_with fail
      refine abs_wp (fun W => W.cell? ⟨ga, oa, none⟩ = some (.int .i64 x) ∧ W.cell? ⟨gb, ob, none⟩ = some (.int .i64 y) ∧ ga < W.heap.size ∧ gb < W.heap.size ∧ w.heap.size ≤ W.heap.size ∧ Hid (OwnI w W u5 L)) ?_ ?_
      · exact ⟨by go_simp, by go_simp, by simpa using hwa, by simpa using hwb, by simpa using bs, OW.out.later (below_drewN (Below.refl _ _) _)⟩
      clear hwa hwb bs ca' cb' OW
      rintro W ⟨ca', cb', hwa, hwb, bs, OW⟩
      have ow : W.ownsRow w.heap.size 2 1 u5 k (L.map (Value.int .i64)) := by rw [KK.out]; exact OW.out.own
      have OR := hide ow
      clear ow
      go_region_held3 (fun w' => w'.cell? ⟨ga, oa, none⟩ = some (.int .i64 x) ∧ w'.cell? ⟨gb, ob, none⟩ = some (.int .i64 y))
        (first | exact ⟨far9 hgrow ca' hwa aga, far9 hgrow cb' hwb agb⟩ | go_keep)
        ((refine step_append_lies _ (by rfl) _ _ _ (by rfl) w.heap.size 2 i0 _ 1 8 Try.underlying29 HI.out.1 HI.out.2.1 HI.out.2.2.1 HI.out.2.2.2 rfl (by omega) u5 k (L.map (Value.int .i64)) (by rfl) ((OR.out.alloc _).drew)
              ⟨W.heap.size, 0, none⟩ 1 1 [.int .i64 x] (by rfl) (by rfl) (World.news_of_block (cs := #[.int .i64 x]) (t := 2) (fr := (0, 0)) (heap_alloc_new W _)) one_i64
              (by omega) KM.out KB.out (by simp; omega) (W.heap.size + 1) (by simp) ?_; intro gg cap w1 hown1 hgrow hat hlt))
      all_goals
        have O9 : OwnI w w1 (.slice (some ⟨gg, 0, none⟩) (k + 1) cap) (L ++ [x]) := OwnI.more OW.out (by rw [← KK.out]; exact hown1) hgrow
        have P9 := hide O9
        clear O9 hown1 hgrow hat hlt OR
        go_wp2_with fail
        go_roundw
        case rel =>
          refine ⟨A2, some ⟨gb, ob, none⟩, c - 1, d, us, y :: ts, L ++ [x], ?_, ?_, ?_, ?_, P9.out, ?_, ?_⟩
          · first | (rw [N1.out]; done) | (rw [N1.out]; rfl) | (rw [List.length_cons, N1.out]; done)
          · first | (rw [N2.out]; done) | (rw [N2.out]; rfl) | (rw [List.length_cons, N2.out]; done)
          · have q := H1'.out
            have q1 := IA.out.2
            have q2 := IB.out.2
            show _ ∧ _ ∧ _ ∧ _ ∧ _ ∧ _
            rw [List.length_cons]
            refine ⟨?_, ?_, ?_, ?_, ?_, ?_⟩
            all_goals first | (have := N1.out; have := N2.out; omega) | exact q1 | exact q2 | (intro h; cases h)
          · exact ⟨IA.out.1, H2.out.2⟩
          · show _ = _
            rw [List.append_assoc]; exact MM.out
          · show _ = _
            have := LL'.out
            rw [List.length_append, List.length_cons, ← KK.out]
            simp only [List.length_cons, List.length_nil]
            omega
        case measure => simp [lenV9]
end Go.Proofs.Ytebiddmadmmfpaa
/- timer: the reference's Merge; timer.Merge. -/
namespace Go.Proofs.Ytebiddmadmmfpaa
set_option linter.unusedVariables false
set_option linter.unusedSimpArgs false
open Go.RowKit W T9
theorem new_ints (w : World) (x : Int) (t : TypeId) : IsInts .i64 (w.alloc (.cells #[.int .i64 x] t)) (some ⟨w.heap.size, 0, none⟩) [x] :=
  .inr ⟨_, 0, rfl, ⟨fun j hj => by
    have : j = 0 := by simpa using hj
    subst this; simp [go_sem], by simp⟩⟩
theorem take_drop_cons {xs : List Int} {p : Nat} (h : p < xs.length) : xs.drop p = xs[p] :: xs.drop (p + 1) := List.drop_eq_getElem_cons h
set_option maxRecDepth 100000 in
set_option maxHeartbeats 8000000 in
theorem rmerge_spec (a b : Option Addr) (c d : Nat) (xs ys : List Int) (w : World) (hx : IsInts .i64 w a xs) (hy : IsInts .i64 w b ys) (hl : (xs.length + ys.length) * 8 ≤ 140737488355328) :
    Calls Try.prog 17 #[.slice a xs.length c, .slice b ys.length d] w fun e w' => ∃ v, e = .returned v ∧ OwnI w w' v (mg xs ys) := by
  have HX := hide hx
  have HY := hide hy
  obtain ⟨M, hM⟩ : ∃ M, M = mg xs ys := ⟨_, rfl⟩
  rw [← hM]
  have HM := hide hM
  obtain ⟨m, hm⟩ : ∃ m, m = xs.length := ⟨_, rfl⟩
  obtain ⟨n, hn⟩ : ∃ n, n = ys.length := ⟨_, rfl⟩
  rw [← hm, ← hn] at hl ⊢
  have HA := hide hm
  have HB := hide hn
  clear hx hy hM hm hn
  go_enter Try.func17, Try.ntmps17
  go_wp2_with fail
  go_loopw [5, 6, 7] (fun v i k wr => ∃ (p q : Nat) (L : List Int), p ≤ m ∧ q ≤ n ∧ i = .int .i64 p ∧ k = .int .i64 q ∧ Hid (OwnI w wr v L) ∧ Hid (L ++ mg (xs.drop p) (ys.drop q) = M) ∧ Hid (L.length = p + q)) (fun _ i k _ => (m - (intOf i).toNat) + (n - (intOf k).toNat))
  case atStart =>
    refine ⟨0, 0, [], by omega, by omega, rfl, rfl, ⟨⟨rfl, .inl ⟨rfl, rfl⟩⟩, Below.refl _ _⟩, ?_, rfl⟩
    show [] ++ mg (xs.drop 0) (ys.drop 0) = M
    rw [HM.out]; rfl
  case round =>
    obtain ⟨p, q, L, hp, hq, rfl, rfl, OW, HE, HL⟩ := hrel
    have A1 := HA.out
    have A2 := HB.out
    by_cases lp : p < m
    · have p1 : p < xs.length := by omega
      have ex := take_drop_cons p1
      obtain ⟨x, hxk⟩ : ∃ x, x = xs[p] := ⟨_, rfl⟩
      have xn : xs ≠ [] := fun h => by rw [h] at p1; simp at p1
      obtain ⟨ga, oa, ea, la⟩ := HX.out.resolve_left xn
      have ca := (OW.out.below.cell (p := ⟨ga, oa + p, none⟩) la.lt).trans (la.cell p p1)
      rw [← hxk] at ca ex
      have lga : ga < wr.heap.size := Nat.lt_of_lt_of_le la.lt OW.out.below.size
      have lp' : (p : Int) < (m : Int) := by omega
      by_cases lq : q < n
      · have q1 : q < ys.length := by omega
        have ey := take_drop_cons q1
        obtain ⟨y, hyk⟩ : ∃ y, y = ys[q] := ⟨_, rfl⟩
        have yn : ys ≠ [] := fun h => by rw [h] at q1; simp at q1
        obtain ⟨gb, ob, eb, lb⟩ := HY.out.resolve_left yn
        have cb := (OW.out.below.cell (p := ⟨gb, ob + q, none⟩) lb.lt).trans (lb.cell q q1)
        rw [← hyk] at cb ey
        have lgb : gb < wr.heap.size := Nat.lt_of_lt_of_le lb.lt OW.out.below.size
        have lq' : (q : Int) < (n : Int) := by omega
        have gq : decide (n ≤ q) = false := decide_eq_false (by omega)
        have b1 : (L.length + [x].length) * 8 ≤ 140737488355328 := by have := HL.out; simp; omega
        have b2 : (L.length + [y].length) * 8 ≤ 140737488355328 := by have := HL.out; simp; omega
        by_cases t : y < x
        · have NE : Hid ((L ++ [y]) ++ mg (xs.drop p) (ys.drop (q + 1)) = M) := by
            have := HE.out
            show _ = _
            rw [ex, ey, mg_b t] at this
            rw [ex, ← this]; simp
          have NL : Hid ((L ++ [y]).length = p + (q + 1)) := by have := HL.out; show _ = _; simp; omega
          have t1 : decide (x ≤ y) = false := decide_eq_false (by omega)
          subst ea eb
          clear ex ey hxk hyk xn yn la lb HE HL A1 A2 p1 q1
          go_wp2_with fail
          go_quiet (fail)
          have d1 := (show (wr.drewN nq).cell? ⟨ga, oa + p, none⟩ = some (.int .i64 x) from ca)
          have d2 := (show (wr.drewN nq).cell? ⟨gb, ob + q, none⟩ = some (.int .i64 y) from cb)
          have O0 := OW.out.later (below_drewN (Below.refl _ _) nq)
          clear OW ca cb lga lgb
          generalize wr.drewN nq = W at d1 d2 O0 ⊢
          have OW := hide O0
          clear O0
          go_wp2_with ((at_builtin; refine wpList_append_ints rfl _ _ rfl w u5 L rfl (OW.out.later ((Below.refl _ _).alloc (Nat.le_refl _) _)) (some ⟨W.heap.size, 0, none⟩) 1 1 [y] rfl rfl (new_ints W _ _) (fun h => by cases h) b2 ?_; intro v1 w1 O1))
          have O2 := hide O1
          clear O1
          go_roundw
          case rel => exact ⟨p, q + 1, L ++ [y], hp, by omega, rfl, by go_num, O2.out, NE, NL⟩
          case measure => simp [intOf]; omega
        · have NE : Hid ((L ++ [x]) ++ mg (xs.drop (p + 1)) (ys.drop q) = M) := by
            have := HE.out
            show _ = _
            rw [ex, ey, mg_a t] at this
            rw [ey, ← this]; simp
          have NL : Hid ((L ++ [x]).length = p + 1 + q) := by have := HL.out; show _ = _; simp; omega
          have t1 : decide (x ≤ y) = true := decide_eq_true (by omega)
          subst ea eb
          clear ex ey hxk hyk xn yn la lb HE HL A1 A2 p1 q1
          go_wp2_with fail
          go_quiet (fail)
          have d1 := (show (wr.drewN nq).cell? ⟨ga, oa + p, none⟩ = some (.int .i64 x) from ca)
          have d2 := (show (wr.drewN nq).cell? ⟨gb, ob + q, none⟩ = some (.int .i64 y) from cb)
          have O0 := OW.out.later (below_drewN (Below.refl _ _) nq)
          clear OW ca cb lga lgb
          generalize wr.drewN nq = W at d1 d2 O0 ⊢
          have OW := hide O0
          clear O0
          go_wp2_with ((at_builtin; refine wpList_append_ints rfl _ _ rfl w u5 L rfl (OW.out.later ((Below.refl _ _).alloc (Nat.le_refl _) _)) (some ⟨W.heap.size, 0, none⟩) 1 1 [x] rfl rfl (new_ints W _ _) (fun h => by cases h) b1 ?_; intro v1 w1 O1))
          have O2 := hide O1
          clear O1
          go_roundw
          case rel => exact ⟨p + 1, q, L ++ [x], by omega, hq, by go_num, rfl, O2.out, NE, NL⟩
          case measure => simp [intOf]; omega
      · obtain rfl : q = n := by omega
        have gq : decide (q ≤ q) = true := decide_eq_true (by omega)
        have b1 : (L.length + [x].length) * 8 ≤ 140737488355328 := by have := HL.out; simp; omega
        have dn : ys.drop q = [] := List.drop_eq_nil_of_le (by omega)
        have NE : Hid ((L ++ [x]) ++ mg (xs.drop (p + 1)) (ys.drop q) = M) := by
          have := HE.out
          show _ = _
          rw [ex, dn, mg_nil2] at this
          rw [dn, mg_nil2, ← this]; simp
        have NL : Hid ((L ++ [x]).length = p + 1 + q) := by have := HL.out; show _ = _; simp; omega
        subst ea
        clear ex hxk xn la HE HL A1 A2 p1 dn
        go_wp2_with fail
        go_quiet (fail)
        have d1 := (show (wr.drewN nq).cell? ⟨ga, oa + p, none⟩ = some (.int .i64 x) from ca)
        have O0 := OW.out.later (below_drewN (Below.refl _ _) nq)
        clear OW ca lga
        generalize wr.drewN nq = W at d1 O0 ⊢
        have OW := hide O0
        clear O0
        go_wp2_with ((at_builtin; refine wpList_append_ints rfl _ _ rfl w u5 L rfl (OW.out.later ((Below.refl _ _).alloc (Nat.le_refl _) _)) (some ⟨W.heap.size, 0, none⟩) 1 1 [x] rfl rfl (new_ints W _ _) (fun h => by cases h) b1 ?_; intro v1 w1 O1))
        have O2 := hide O1
        clear O1
        go_roundw
        case rel => exact ⟨p + 1, q, L ++ [x], by omega, hq, by go_num, rfl, O2.out, NE, NL⟩
        case measure => simp [intOf]; omega
    · obtain rfl : p = m := by omega
      have dn : xs.drop p = [] := List.drop_eq_nil_of_le (by omega)
      by_cases lq : q < n
      · have q1 : q < ys.length := by omega
        have ey := take_drop_cons q1
        obtain ⟨y, hyk⟩ : ∃ y, y = ys[q] := ⟨_, rfl⟩
        have yn : ys ≠ [] := fun h => by rw [h] at q1; simp at q1
        obtain ⟨gb, ob, eb, lb⟩ := HY.out.resolve_left yn
        have cb := (OW.out.below.cell (p := ⟨gb, ob + q, none⟩) lb.lt).trans (lb.cell q q1)
        rw [← hyk] at cb ey
        have lgb : gb < wr.heap.size := Nat.lt_of_lt_of_le lb.lt OW.out.below.size
        have lq' : (q : Int) < (n : Int) := by omega
        have gq : decide (n ≤ q) = false := decide_eq_false (by omega)
        have gp : decide (p < p) = false := decide_eq_false (by omega)
        have b2 : (L.length + [y].length) * 8 ≤ 140737488355328 := by have := HL.out; simp; omega
        have NE : Hid ((L ++ [y]) ++ mg (xs.drop p) (ys.drop (q + 1)) = M) := by
          have := HE.out
          show _ = _
          rw [ey, dn, mg_nil] at this
          rw [dn, mg_nil, ← this]; simp
        have NL : Hid ((L ++ [y]).length = p + (q + 1)) := by have := HL.out; show _ = _; simp; omega
        subst eb
        clear ey hyk yn lb HE HL A1 A2 q1 dn
        go_wp2_with fail
        go_quiet (fail)
        have d2 := (show (wr.drewN nq).cell? ⟨gb, ob + q, none⟩ = some (.int .i64 y) from cb)
        have O0 := OW.out.later (below_drewN (Below.refl _ _) nq)
        clear OW cb lgb
        generalize wr.drewN nq = W at d2 O0 ⊢
        have OW := hide O0
        clear O0
        go_wp2_with ((at_builtin; refine wpList_append_ints rfl _ _ rfl w u5 L rfl (OW.out.later ((Below.refl _ _).alloc (Nat.le_refl _) _)) (some ⟨W.heap.size, 0, none⟩) 1 1 [y] rfl rfl (new_ints W _ _) (fun h => by cases h) b2 ?_; intro v1 w1 O1))
        have O2 := hide O1
        clear O1
        go_roundw
        case rel => exact ⟨p, q + 1, L ++ [y], hp, by omega, rfl, by go_num, O2.out, NE, NL⟩
        case measure => simp [intOf]; omega
      · obtain rfl : q = n := by omega
        have dn2 : ys.drop q = [] := List.drop_eq_nil_of_le (by omega)
        have E : Hid (L = M) := by
          have := HE.out
          show _ = _
          rw [dn, dn2, mg_nil, List.append_nil] at this
          exact this
        clear dn dn2 HE HL A1 A2
        go_wp2_with fail
        go_returns
        exact ⟨u5, rfl, by rw [← E.out]; exact OW.out⟩
theorem tmerge_spec (a b : Option Addr) (ca cb : Nat) (xs ys : List Int) (w : World) (hx : IsInts .i64 w a xs) (hy : IsInts .i64 w b ys) (hca : xs.length ≤ ca) (hcb : ys.length ≤ cb) (hna : a = none → ca = 0) (hnb : b = none → cb = 0) (ha63 : ca ≤ 9223372036854775807) (hb63 : cb ≤ 9223372036854775807) (hl : (xs.length + ys.length) * 8 ≤ 140737488355328) :
    Calls Try.prog 16 #[.slice a xs.length ca, .slice b ys.length cb] w fun e w' => ∃ v, e = .returned v ∧ OwnI w w' v (mg xs ys) := by
  have k := merge_spec a b ca cb xs ys w hx hy hca hcb hna hnb ha63 hb63 hl
  clear hx hy hca hcb hna hnb ha63 hb63 hl
  go_enter Try.func16, Try.ntmps16
  go_wp2_with fail
  refine k.mono ?_
  rintro e w1 ⟨v, rfl, O⟩
  have O2 := hide O
  clear O k
  go_wp2_with fail
  go_returns
  exact ⟨v, rfl, O2.out⟩
end Go.Proofs.Ytebiddmadmmfpaa
/- timer: the reference's Same. -/
namespace Go.Proofs.Ytebiddmadmmfpaa
set_option linter.unusedVariables false
set_option linter.unusedSimpArgs false
open Go.RowKit W T9
theorem ext_take {xs ys : List Int} (h : xs.length = ys.length) (e : ∀ (j : Nat) (h1 : j < xs.length) (h2 : j < ys.length), xs[j] = ys[j]) : xs = ys := List.ext_getElem h e
set_option maxRecDepth 100000 in
set_option maxHeartbeats 4000000 in
theorem same9_spec (a b : Option Addr) (c d : Nat) (xs ys : List Int) (w : World) (ha : IsInts .i64 w a xs) (hb : IsInts .i64 w b ys) (hx : xs.length ≤ 140737488355328) (hy : ys.length ≤ 140737488355328) :
    Calls Try.prog 15 #[.slice a xs.length c, .slice b ys.length d] w fun e w' => e = .returned (.bool (decide (xs = ys))) ∧ Below w.heap.size w w' := by
  by_cases ln : xs.length = ys.length
  · by_cases z : xs = []
    · subst z
      have z2 : ys = [] := List.eq_nil_of_length_eq_zero (by simpa using ln.symm)
      subst z2
      rw [decide_eq_true (rfl : ([] : List Int) = [])]
      go_enter Try.func15, Try.ntmps15
      go_wp2
      refine wp_loop_rounds 1 ?_
      rw [rounds_succ]
      go_wp2
      go_returns
      exact ⟨rfl, Below.refl _ _⟩
    · have z2 : ys ≠ [] := fun h => z (List.eq_nil_of_length_eq_zero (by rw [ln, h]; rfl))
      obtain ⟨g, o, rfl, la⟩ := ha.resolve_left z
      obtain ⟨g', o', rfl, lb⟩ := hb.resolve_left z2
      have H := hide la
      have H' := hide lb
      obtain ⟨R, hR⟩ : ∃ R, R = decide (xs = ys) := ⟨_, rfl⟩
      rw [← hR]
      have RR := hide hR
      have LN := hide ln
      obtain ⟨n, hn⟩ : ∃ n, n = xs.length := ⟨_, rfl⟩
      have e2 : ys.length = n := by omega
      rw [← hn, e2]
      have N1 := hide hn
      have N2 := hide e2
      rw [← hn] at hx
      clear la lb z z2 ha hb hR ln hn e2 hy
      go_enter Try.func15, Try.ntmps15
      go_wp2
      go_loopw [5] (fun i wr => ∃ k : Nat, k ≤ n ∧ i = .int .i64 k ∧ Hid (Below w.heap.size w wr) ∧ Hid (∀ (j : Nat) (h1 : j < xs.length) (h2 : j < ys.length), j < k → xs[j] = ys[j])) (fun i _ => n - (intOf i).toNat)
      case atStart => exact ⟨0, by omega, rfl, Below.refl _ _, fun j _ _ h => absurd h (by omega)⟩
      case round =>
        obtain ⟨k, hk, rfl, bl, eqs⟩ := hrel
        by_cases hlt : k < n
        · have k1 : k < xs.length := by have := N1.out; omega
          have k2 : k < ys.length := by have := N2.out; omega
          have e1 := (H.out.later bl.out).cell k k1
          have e2 := (H'.out.later bl.out).cell k k2
          obtain ⟨x, hxk⟩ : ∃ x, x = xs[k] := ⟨_, rfl⟩
          obtain ⟨y, hyk⟩ : ∃ y, y = ys[k] := ⟨_, rfl⟩
          rw [← hxk] at e1
          rw [← hyk] at e2
          have hlt' : (k : Int) < (n : Int) := by omega
          by_cases t : x = y
          · have NX : Hid (∀ (j : Nat) (h1 : j < xs.length) (h2 : j < ys.length), j < k + 1 → xs[j] = ys[j]) := by
              intro j h1 h2 hj
              by_cases q : j = k
              · subst q; rw [← hxk, ← hyk]; exact t
              · exact eqs.out j h1 h2 (by omega)
            subst t
            clear hxk hyk eqs k1 k2
            go_wp2_with fail
            go_quiet (fail)
            go_wp2_with fail
            go_roundw
            case rel => exact ⟨k + 1, by omega, by go_num, below_drewN bl.out _, NX⟩
            case measure => simp [intOf]; omega
          · have F : Hid (R = false) := by
              show R = false
              rw [RR.out]
              refine decide_eq_false fun h => t ?_
              rw [hxk, hyk]
              simp only [h]
            have t1 : (x == y) = false := by simpa using t
            have t2 : (x != y) = true := by rw [bne, t1]; rfl
            clear hxk hyk eqs k1 k2 RR
            go_wp2_with fail
            go_quiet (fail)
            go_wp2_with fail
            go_returns
            exact ⟨by rw [F.out]; rfl, below_drewN bl.out _⟩
        · obtain rfl : k = n := by omega
          have F : Hid (R = true) := by
            show R = true
            rw [RR.out]
            refine decide_eq_true (ext_take LN.out fun j h1 h2 => eqs.out j h1 h2 ?_)
            have := N1.out; omega
          clear eqs RR
          go_wp2
          go_returns
          exact ⟨by rw [F.out]; rfl, bl.out⟩
  · have t1 : ((xs.length : Int) == (ys.length : Int)) = false := by simp; omega
    have t2 : ((xs.length : Int) != (ys.length : Int)) = true := by simp; omega
    rw [decide_eq_false (fun h => ln (by rw [h]) : ¬ xs = ys)]
    go_enter Try.func15, Try.ntmps15
    go_wp2
    go_returns
    exact ⟨rfl, Below.refl _ _⟩
end Go.Proofs.Ytebiddmadmmfpaa
/- Slices of numbers as they are read, with their capacity and their shape. -/
namespace Go.Proofs.Ytebiddmadmmfpaa
set_option linter.unusedVariables false
set_option linter.unusedSimpArgs false
open Go.RowKit W
open Go.ChangeShapes Go.WideShapes in
/-- A slice of numbers as it is read. -/
theorem isIntu_of {H : Type} {enc : TypeId × Value → H} {P : Program} {w : World} {base : Nat} {spare : Nat → Bool} {held : Bool} {n : Nat} {t e : TypeId} {k : IntKind} {v : Value} {y : DataW H × List MemPlace}
    (ht : P.underlying t = some (.slice e)) (he : P.underlying e = some (.int k)) (hc : P.cellsOf e = 1) (h : DataW.trod enc P w base spare held n t [v] = some y) :
    ∃ a c xs, v = .slice a (List.length xs) c ∧ xs.length ≤ c ∧ c ≤ 9223372036854775807 ∧ (a = none → xs.length = 0 ∧ c = 0) ∧ IsInts k w a xs ∧ (∀ x ∈ xs, (Lit.int k x).wf = true) ∧ (xs = [] ∨ ∃ el sp, y.1 = .slice el sp ∧ el.length = xs.length) := by
  rcases open_ints ht he hc h with ⟨hcs, _⟩ | ⟨a, len, cap, zs, hcs, _, hl, hm, hz, hy, hcell, hwf⟩
  · simp at hcs
    exact ⟨none, 0, [], hcs, by simp, by simp, by simp, .inl rfl, by simp, .inl rfl⟩
  · simp at hcs
    have lz : len ≤ zs.length := by rw [hz]; split <;> omega
    have lt : (zs.take len).length = len := by rw [List.length_take]; omega
    unfold maxLen at hm
    refine ⟨some a, cap, zs.take len, by rw [lt]; exact hcs, by rw [lt]; exact hl, by omega, (by intro e; cases e), ?_, fun x hx => hwf x (List.mem_of_mem_take hx), .inr ⟨lits k (zs.take len), lits k (zs.drop len), by rw [hy], by simp [lits]⟩⟩
    rcases Nat.eq_zero_or_pos len with rfl | hpos
    · exact .inl (by simp)
    · have g0 := hcell 0 (by omega)
      obtain ⟨b, off, spot⟩ := a
      have hspot : spot = none := by simpa [Addr.add] using World.cell?_spot g0
      subst hspot
      refine .inr ⟨b, off, rfl, ⟨fun j hj => ?_, ?_⟩⟩
      · rw [lt] at hj
        have := hcell j (by omega)
        rw [add_plain] at this
        rw [this]
        simp [List.getD_eq_getElem?_getD, List.getElem?_eq_getElem (show j < zs.length by omega)]
      · have := hcell 0 (by omega)
        rw [add_plain] at this
        exact cellb_lt this
end Go.Proofs.Ytebiddmadmmfpaa
/- timer: TimerMerges. -/
namespace Go.Proofs.Ytebiddmadmmfpaa
set_option linter.unusedVariables false
set_option linter.unusedSimpArgs false
open Go.RowKit W T9
set_option maxRecDepth 100000 in
set_option maxHeartbeats 4000000 in
theorem law_TimerMerges (a : Option Addr) (ca : Nat) (xs : List Int) (b : Option Addr) (cb : Nat) (ys : List Int)
    (wx : ∀ x ∈ xs, (Lit.int .i64 x).wf = true) (bx : xs.length ≤ 1048576) (hca : xs.length ≤ ca) (ha63 : ca ≤ 9223372036854775807) (hna : a = none → xs.length = 0 ∧ ca = 0)
    (wy : ∀ x ∈ ys, (Lit.int .i64 x).wf = true) (by_ : ys.length ≤ 1048576) (hcb : ys.length ≤ cb) (hb63 : cb ≤ 9223372036854775807) (hnb : b = none → ys.length = 0 ∧ cb = 0)
    (w : World) (hx : IsInts .i64 w a xs) (hy : IsInts .i64 w b ys) :
    Calls Try.prog 4 #[.slice a xs.length ca, .slice b ys.length cb] w fun e w' => e = .returned (.bool true) ∧ Below w.heap.size w w' := by
  have k1 := tmerge_spec a b ca cb xs ys w hx hy hca hcb (fun h => (hna h).2) (fun h => (hnb h).2) ha63 hb63 (by omega)
  have k2 := fun w' (B : Below w.heap.size w w') => rmerge_spec a b ca cb xs ys w' (hx.later B) (hy.later B) (by omega)
  have ml := mg_len xs ys
  have k3 := fun (a1 a2 : Option Addr) (c1 c2 : Nat) (w' : World) (h1 : IsInts .i64 w' a1 (mg xs ys)) (h2 : IsInts .i64 w' a2 (mg xs ys)) => same9_spec a1 a2 c1 c2 (mg xs ys) (mg xs ys) w' h1 h2 (by omega) (by omega)
  have k4 := alive9
  rw [decide_eq_true (rfl : mg xs ys = mg xs ys)] at k3
  have K2 := hide k2
  have K3 := hide k3
  clear wx wy hca ha63 hna hcb hb63 hnb hx hy ml k2 k3 bx by_
  go_enter Try.func4, Try.ntmps4
  go_wp2_with fail
  refine k1.mono ?_
  clear k1
  rintro e w1 ⟨v1, rfl, O1⟩
  have b1 := O1.below
  obtain ⟨a1, c1, rfl, _, _, i1, _⟩ := O1.is
  have I1 := hide i1
  clear O1 i1
  go_wp2_with fail
  refine (K2.out _ b1).mono ?_
  clear K2
  rintro e w2 ⟨v2, rfl, O2⟩
  have h2 := O2.below
  obtain ⟨a2, c2, rfl, _, _, i2, _⟩ := O2.is
  have I2 := hide i2
  have b2 := b1.trans (h2.mono b1.size)
  have J1 := hide (I1.out.later h2)
  clear O2 i2 I1 b1 h2
  go_wp2_with fail
  refine (K3.out a1 a2 c1 c2 _ J1.out I2.out).mono ?_
  clear K3
  rintro e w3 ⟨rfl, h3⟩
  have b3 := b2.trans (h3.mono b2.size)
  clear h3 b2 I2 J1
  go_wp2_with fail
  refine (k4 _).mono ?_
  rintro e w4 ⟨rfl, h4⟩
  have b4 := b3.trans (h4.mono b3.size)
  clear h4 b3 k4
  go_wp2_with fail
  go_returns
  exact ⟨rfl, b4⟩
end Go.Proofs.Ytebiddmadmmfpaa
