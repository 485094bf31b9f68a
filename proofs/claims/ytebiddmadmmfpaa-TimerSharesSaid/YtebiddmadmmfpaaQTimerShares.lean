/- Texts that belong together: Tmerge Trmg Trank Tup Tups Trsort Tbin Tbins Trbin Tref2 Tlaw1 Trup Intu Lawsh. -/
import Derived.Test.YtebiddmadmmfpaaG01
import Derived.Deep.DeepCutAuto
import Derived.Deep.AppendLies
import Derived.Laws.OwnMore
import Derived.OwnWalk
import Derived.Laws.AppendOwnNone
import Derived.Laws.MakeOwn
import Derived.Deep.QuietTactic
import Derived.BigQuiet
import Derived.Test.YtebiddmadmmfpaaG02
import Derived.Test.YtebiddmadmmfpaaG03
import Derived.Deep.OwnRows
set_option linter.unusedSimpArgs false
set_option linter.unusedVariables false
/- timer: merge; Merge. (gen_tm2.py) -/
namespace Go.Proofs.Ytebiddmadmmfpaa
set_option linter.unusedVariables false
set_option linter.unusedSimpArgs false
open Go.RowKit W T9
theorem info_w64 : (Try.prog.info? 2).map (fun i => (i.zero, i.size, i.bytes)) = some (some (.int .i64 0), 1, 8) := by kernel_rfl
theorem size_i64 (w : World) : (Go.sizeOf (Try.prog.elem 29)).run Try.prog w = .ok 1 w := by kernel_rfl
theorem addz (x : Addr) : x.add 0 = x := by unfold Addr.add; simp
/-- l[1:] of a slice of numbers. -/
theorem ints_tail {w : World} {a : Option Addr} {l : List Int} {x : Int} (h : IsInts .i64 w a (x :: l)) (c : Nat) (hc : l.length + 1 ≤ c) (h63 : c ≤ 9223372036854775807) :
    ∃ a2, (∀ v, (Instr.slice 29 (.slice a (l.length + 1) c) (some (.int .i64 1)) none none).run Try.prog v = .ok (.slice a2 l.length (c - 1)) v) ∧ IsInts .i64 w a2 l ∧ (a2 = none → c - 1 = 0) := by
  refine ⟨if c = 1 then a else a.map (·.add (1 * 1)), fun v => ?_, ?_, ?_⟩
  · rw [run_slice_l (P := Try.prog) (w := v) 29 a (l.length + 1) c (by kernel_rfl) .i64 (1 : Int) (by omega) (by omega), size_i64]
    simp [Result.andThen, sliced]
  · rcases h with h | ⟨g, o, rfl, h⟩
    · cases h
    · by_cases e : l = []
      · exact .inl e
      · have : 0 < l.length := by cases l; exact absurd rfl e; simp
        rw [if_neg (by omega)]
        refine .inr ⟨g, o + 1, by simp only [Option.map_some, Nat.mul_one]; rw [Go.WideShapes.add_plain], ⟨fun j hj => ?_, h.lt⟩⟩
        have := h.cell (j + 1) (by simp; omega)
        rw [Nat.add_assoc, Nat.add_comm 1 j, this]
        rfl
  · intro e
    obtain ⟨g, o, h⟩ : ∃ g o, a = some ⟨g, o, none⟩ := by
      rcases h with h | ⟨g, o, h, _⟩
      · cases h
      · exact ⟨g, o, h⟩
    subst h
    split at e
    · cases e
    · cases e
theorem ints_head {w : World} {a : Option Addr} {l : List Int} {x : Int} (h : IsInts .i64 w a (x :: l)) : ∃ g o, a = some ⟨g, o, none⟩ ∧ w.cell? ⟨g, o, none⟩ = some (.int .i64 x) ∧ g < w.heap.size := by
  rcases h with h | ⟨g, o, rfl, h⟩
  · cases h
  · exact ⟨g, o, rfl, by have := h.cell 0 (by simp); simpa using this, h.lt⟩
theorem own_below {w w' : World} {base size n : Nat} {e : TypeId} {v : Value} {xs : List Value} (h : w.ownsRow base e size v n xs) (k : Below w.heap.size w w') : w'.ownsRow base e size v n xs := by
  refine ⟨h.1, h.2.imp id ?_⟩
  rintro ⟨g, cap, cur, hv, hb, hh, r⟩
  exact ⟨g, cap, cur, hv, hb, (k.block g (h.lt g (by rw [hv]; rfl)).2).trans hh, r⟩
theorem cells_ints {w : World} {ad : Addr} {ps : List Int} (h : IsInts .i64 w (some ad) ps) : ∀ j u, (ps.map (Value.int .i64))[j]? = some u → w.cell? (ad.add j) = some u := by
  intro j u hj
  rcases h with e | ⟨g, o, e, L⟩
  · rw [e, List.map_nil, List.getElem?_nil] at hj
    cases hj
  · injection e with e
    subst e
    obtain ⟨hj2, e2⟩ := List.getElem?_eq_some_iff.1 hj
    rw [List.length_map] at hj2
    rw [Go.WideShapes.add_plain, L.cell j hj2, ← e2, List.getElem_map]
/-- A list of numbers that was made since the world w. -/
structure OwnI (w wr : World) (v : Value) (xs : List Int) : Prop where
  own : wr.ownsRow w.heap.size 2 1 v xs.length (xs.map (Value.int .i64))
  below : Below w.heap.size w wr
theorem OwnI.is {w wr : World} {v : Value} {xs : List Int} (h : OwnI w wr v xs) : ∃ a c, v = .slice a xs.length c ∧ xs.length ≤ c ∧ c ≤ maxLen ∧ IsInts .i64 wr a xs ∧ (∀ g, a = some g → w.heap.size ≤ g.block) := by
  rcases h.own.2 with ⟨rfl, h0⟩ | ⟨g, cap, cur, rfl, hb, hg, hc, hm, hs, ht⟩
  · exact ⟨none, 0, by rw [h0], by omega, by simp [maxLen], .inl (List.eq_nil_of_length_eq_zero h0), fun g e => by cases e⟩
  · refine ⟨_, cap, rfl, hc, hm, .inr ⟨g, 0, rfl, ⟨fun k hk => ?_, (h.own.lt g rfl).2⟩⟩, fun x e => by injection e with e; rw [← e]; exact hb⟩
    rw [Nat.zero_add, h.own.cellAt k (by omega)]
    simp [List.getElem?_eq_getElem hk]
theorem OwnI.later {w wr w' : World} {v : Value} {xs : List Int} (h : OwnI w wr v xs) (k : Below wr.heap.size wr w') : OwnI w w' v xs :=
  ⟨own_below h.own k, h.below.trans (k.mono h.below.size)⟩
theorem OwnI.more {w wr w1 : World} {v v' : Value} {xs : List Int} {x : Int} {o : Obj} (h : OwnI w wr v xs)
    (hown : w1.ownsRow w.heap.size 2 1 v' (xs.length + 1) (xs.map (Value.int .i64) ++ [.int .i64 x])) (hg : ((wr.alloc o).drew).grownBy w1 v.ownBlock) : OwnI w w1 v' (xs ++ [x]) :=
  ⟨by simpa using hown, (((h.below.alloc h.below.size _)).drew).grown hg (by have := h.below.size; simp; omega) (fun j hj => (h.own.lt j hj).1)⟩
theorem one_i64 {x : Int} : ∀ u ∈ [Value.int .i64 x], u.oneCell' = true := by intro u hu; rw [List.mem_singleton] at hu; subst hu; rfl
theorem own_not {w : World} {base e n g : Nat} {v : Value} {xs : List Value} (h : w.ownsRow base e 1 v n xs) (hg : g < base) : v.ownBlock ≠ some g := fun q => by have := (h.lt g q).1; omega
theorem wpList_append_ints {w : World} {ops : Array Oper} {rest : List Oper} {o : Oper} {a : Act} {Q : Exit → Act → World → Prop} (hgd : o.guard = none) (s x : Operand)
    (ho : o.op = .call { callee := .builtin .append, args := #[s, x], argTypes := #[29, 29] }) (w0 : World) (v : Value) (qs : List Int) (hs : a.eval s = v) (hown : OwnI w0 w v qs) (sa : Option Addr) (n c : Nat) (ps : List Int) (hx : a.eval x = .slice sa n c) (hn : n = ps.length) (hsrc : IsInts .i64 w sa ps) (hnil : sa = none → c = 0)
    (h63 : (qs.length + ps.length) * 8 ≤ 140737488355328) (h : ∀ v' w', OwnI w0 w' v' (qs ++ ps) → wpList Try.prog ops Q rest (a.put o.dst v') w') : wpList Try.prog ops Q (o :: rest) a w := by
  obtain ⟨i0, hi0, hz0, hz1, hz2⟩ := info_parts info_w64
  subst hn
  cases sa with
  | none =>
    have e : ps = [] := by
      rcases hsrc with e | ⟨g, o, e, _⟩
      · exact e
      · cases e
    subst e
    rw [hnil rfl, List.length_nil] at hx
    refine wpList_append_own_none hgd s x 29 ho w0.heap.size 2 i0 1 Try.underlying29 hi0 v qs.length (qs.map (Value.int .i64)) hs hown.own hx ?_
    exact h v w (by rw [List.append_nil]; exact hown)
  | some ad =>
    refine wpList_append_own _ hgd s x 29 ho w0.heap.size 2 i0 (.int .i64 0) 1 8 Try.underlying29 hi0 hz0 hz1 hz2 rfl (by decide) v qs.length (qs.map (Value.int .i64)) hs hown.own ad ps.length c (ps.map (Value.int .i64)) hx (by rw [List.length_map, Nat.mul_one]) (cells_ints hsrc) ?_ (by unfold maxLen; omega) (by omega) hown.below.size ?_
    · intro u hu
      obtain ⟨y, _, rfl⟩ := List.mem_map.1 hu
      rfl
    · intro v' w' h1 h2 _
      refine h v' w' ⟨by rw [List.length_append, List.map_append]; exact h1, hown.below.grown h2 hown.below.size (fun j hj => (hown.own.lt j hj).1)⟩
theorem far9 {W w1 : World} {o : Obj} {row : Option Nat} (hg : ((W.alloc o).drew).grownBy w1 row) {b f : Nat} {v : Value} (h : W.cell? ⟨b, f, none⟩ = some v) (hb : b < W.heap.size) (ne : row ≠ some b) : w1.cell? ⟨b, f, none⟩ = some v := by
  rw [hg.cell_far ⟨b, f, none⟩ (by simp; omega) (Ne.symm ne)]
  have e : ((W.alloc o).drew).cell? ⟨b, f, none⟩ = W.cell? ⟨b, f, none⟩ := Below.cell (B := W.heap.size) (((Below.refl _ _).alloc (Nat.le_refl _) o).drew) hb
  rw [e]; exact h
def lenV9 : Value → Nat | .slice _ n _ => n | _ => 0
set_option maxRecDepth 100000 in
set_option maxHeartbeats 8000000 in
theorem merge_spec (a b : Option Addr) (ca cb : Nat) (xs ys : List Int) (w : World) (hx : IsInts .i64 w a xs) (hy : IsInts .i64 w b ys) (hca : xs.length ≤ ca) (hcb : ys.length ≤ cb) (hna : a = none → ca = 0) (hnb : b = none → cb = 0) (ha63 : ca ≤ 9223372036854775807) (hb63 : cb ≤ 9223372036854775807) (hl : (xs.length + ys.length) * 8 ≤ 140737488355328) :
    Calls Try.prog 34 #[.slice a xs.length ca, .slice b ys.length cb] w fun e w' => ∃ v, e = .returned v ∧ OwnI w w' v (mg xs ys) := by
  have HX := hide hx
  have HY := hide hy
  have HN := hide (And.intro hna hnb)
  have HA := hide hca
  have HB := hide hcb
  obtain ⟨M, hM⟩ : ∃ M, M = mg xs ys := ⟨_, rfl⟩
  rw [← hM]
  have HM := hide hM
  obtain ⟨m, hm⟩ : ∃ m, m = xs.length := ⟨_, rfl⟩
  obtain ⟨n, hn⟩ : ∃ n, n = ys.length := ⟨_, rfl⟩
  have T := hide (show m + n = xs.length + ys.length by omega)
  rw [← hm, ← hn] at hl ⊢
  have MN := hide (And.intro hm hn)
  obtain ⟨i0, hi0, hz0, hz1, hz2⟩ := info_parts info_w64
  have hmk : ∀ w : World, (Instr.makeSlice 29 (.int .i64 0) (.int .i64 ((m : Int) + (n : Int)))).run Try.prog w = .ok (.slice (some ⟨w.heap.size, 0, none⟩) 0 (m + n)) (w.alloc (.cells (madeCells #[.int .i64 0] (m + n)) 2)) := fun w => by
    have := run_make (P := Try.prog) w 29 2 i0 (.int .i64 0) Try.underlying29 hi0 hz0 .i64 .i64 0 ((m : Int) + (n : Int)) (by omega) (by omega) (by rw [hz2]; omega) (by omega)
    rw [hz1] at this
    rw [this]
    have e : ((m : Int) + (n : Int)).toNat = m + n := by omega
    rw [e]
    simp [Value.cells]
  have HI : Hid (Try.prog.info? 2 = some i0 ∧ i0.zero = some (.int .i64 0) ∧ i0.size = 1 ∧ i0.bytes = 8) := ⟨hi0, hz0, hz1, hz2⟩
  clear hi0 hz0 hz1 hz2 hx hy hca hcb hM hm hn hna hnb
  go_enter Try.func34, Try.ntmps34
  go_wp2_with fail
  clear hmk
  go_loopw [0, 1, 5] (fun p q v wr => ∃ (A B : Option Addr) (c d : Nat) (us ts L : List Int), p = .slice A us.length c ∧ q = .slice B ts.length d ∧ Hid (us.length ≤ c ∧ ts.length ≤ d ∧ c ≤ 9223372036854775807 ∧ d ≤ 9223372036854775807 ∧ (A = none → c = 0) ∧ (B = none → d = 0)) ∧ Hid (IsInts .i64 w A us ∧ IsInts .i64 w B ts) ∧ Hid (OwnI w wr v L) ∧ Hid (L ++ mg us ts = M) ∧ Hid (L.length + us.length + ts.length = m + n)) (fun p q _ _ => lenV9 p + lenV9 q)
  case atStart =>
    refine ⟨a, b, ca, cb, xs, ys, [], by rw [MN.out.1], by rw [MN.out.2], ⟨HA.out, HB.out, ha63, hb63, HN.out.1, HN.out.2⟩, ⟨HX.out, HY.out⟩, ⟨?_, ?_⟩, HM.out.symm, ?_⟩
    · exact World.ownsRow_made w _ (m + n) (Nat.le_refl _) (by unfold maxLen; omega) (by simp [madeCells])
    · go_grown
    · show [].length + _ + _ = _
      rw [List.length_nil, T.out]; omega
  case round =>
    obtain ⟨A, B, c, d, us, ts, L, rfl, rfl, H1, H2, OW, H4, H5⟩ := hrel
    rcases us with _ | ⟨x, us⟩
    · have e : L ++ ts = M := by have := H4.out; rwa [mg_nil] at this
      have E := hide e
      have q := H5.out
      have LL := hide q
      clear e q H4 H5
      have h1 := H1.out
      have H1' := hide h1
      clear h1 H1
      rw [List.length_nil]
      have b1 : (L.length + ([] : List Int).length) * 8 ≤ 140737488355328 := by have := LL.out; simp at this ⊢; omega
      have b2 : (L.length + ts.length) * 8 ≤ 140737488355328 := by have := LL.out; simp at this ⊢; omega
      go_wp2_with (first
        | (at_builtin; refine wpList_append_ints rfl _ _ rfl w u5 L rfl OW.out A 0 c [] rfl rfl (.inl rfl) H1'.out.2.2.2.2.1 b1 ?_; intro v1 w1 O1; rw [List.append_nil] at O1; have O2 := hide O1; clear O1)
        | (at_builtin; refine wpList_append_ints rfl _ _ rfl w v1 L rfl O2.out B ts.length d ts rfl rfl (H2.out.2.later O2.out.below) H1'.out.2.2.2.2.2 b2 ?_; intro v2 w2 O3; rw [E.out] at O3; have O4 := hide O3; clear O3))
      go_returns
      exact ⟨v2, rfl, O4.out⟩
    rcases ts with _ | ⟨y, ts⟩
    · have e : L ++ x :: us = M := by have := H4.out; rwa [mg_nil2] at this
      have E := hide e
      have q := H5.out
      have LL := hide q
      clear e q H4 H5
      have h1 := H1.out
      have H1' := hide h1
      clear h1 H1
      rw [List.length_nil]
      have hp : (0 : Int) < ((x :: us).length : Int) := by rw [List.length_cons]; omega
      obtain ⟨N, hN⟩ : ∃ N, N = (x :: us).length := ⟨_, rfl⟩
      rw [← hN] at hp ⊢
      have NN := hide hN
      clear hN
      have b1 : (L.length + (x :: us).length) * 8 ≤ 140737488355328 := by have := LL.out; simp at this ⊢; omega
      have b2 : (M.length + ([] : List Int).length) * 8 ≤ 140737488355328 := by have := LL.out; rw [← E.out]; simp at this ⊢; omega
      go_wp2_with (first
        | (at_builtin; refine wpList_append_ints rfl _ _ rfl w u5 L rfl OW.out A N c (x :: us) rfl NN.out (H2.out.1.later OW.out.below) H1'.out.2.2.2.2.1 b1 ?_; intro v1 w1 O1; rw [E.out] at O1; have O2 := hide O1; clear O1)
        | (at_builtin; refine wpList_append_ints rfl _ _ rfl w v1 M rfl O2.out B 0 d [] rfl rfl (.inl rfl) H1'.out.2.2.2.2.2 b2 ?_; intro v2 w2 O3; rw [List.append_nil] at O3; have O4 := hide O3; clear O3))
      go_returns
      exact ⟨v2, rfl, O4.out⟩
    obtain ⟨ga, oa, rfl, ca, la⟩ := ints_head H2.out.1
    obtain ⟨gb, ob, rfl, cb, lb⟩ := ints_head H2.out.2
    have h1 := H1.out
    have g1 : us.length + 1 ≤ c := h1.1
    have g2 : ts.length + 1 ≤ d := h1.2.1
    have H1' := hide h1
    clear h1 H1
    have ca' := (OW.out.below.cell (p := ⟨ga, oa, none⟩) la).trans ca
    have cb' := (OW.out.below.cell (p := ⟨gb, ob, none⟩) lb).trans cb
    obtain ⟨A2, sa, ia, na⟩ := ints_tail H2.out.1 c g1 H1'.out.2.2.1
    obtain ⟨B2, sb, ib, nb⟩ := ints_tail H2.out.2 d g2 H1'.out.2.2.2.1
    have IA := hide (And.intro ia na)
    have IB := hide (And.intro ib nb)
    have LL := H5.out
    rw [List.length_cons, List.length_cons] at LL
    have O0 := OW.out
    have aga := own_not O0.own la
    have agb := own_not O0.own lb
    obtain ⟨k, hk⟩ : ∃ k, k = L.length := ⟨_, rfl⟩
    rw [← hk] at LL
    have KK := hide hk
    have KM := hide (show k + 1 ≤ maxLen by unfold maxLen; omega)
    have KB := hide (show (k + 1) * 8 ≤ 140737488355328 by omega)
    have LL' := hide LL
    have hwa : ga < wr.heap.size := Nat.lt_of_lt_of_le la O0.below.size
    have hwb : gb < wr.heap.size := Nat.lt_of_lt_of_le lb O0.below.size
    have bs := O0.below.size
    clear ia ib na nb OW LL hk
    have OW := hide O0
    clear O0 ca cb
    rw [List.length_cons, List.length_cons]
    obtain ⟨n1, hn1⟩ : ∃ n1, n1 = us.length := ⟨_, rfl⟩
    obtain ⟨n2, hn2⟩ : ∃ n2, n2 = ts.length := ⟨_, rfl⟩
    rw [← hn1] at g1 sa
    rw [← hn2] at g2 sb
    rw [← hn1, ← hn2]
    have N1 := hide hn1
    have N2 := hide hn2
    clear hn1 hn2
    have p1 : (0 : Int) < (n1 : Int) + 1 := by omega
    have p2 : (0 : Int) < (n2 : Int) + 1 := by omega
    by_cases t : y < x
    · have MM : Hid (L ++ y :: mg (x :: us) ts = M) := by have := H4.out; rwa [mg_b t] at this
      have td : decide (y < x) = true := decide_eq_true t
      go_wp2_with fail
      go_quiet (fail)
      go_wp2_with fail
      refine abs_wp (fun W => W.cell? ⟨ga, oa, none⟩ = some (.int .i64 x) ∧ W.cell? ⟨gb, ob, none⟩ = some (.int .i64 y) ∧ ga < W.heap.size ∧ gb < W.heap.size ∧ w.heap.size ≤ W.heap.size ∧ Hid (OwnI w W u5 L)) ?_ ?_
      · exact ⟨by go_simp, by go_simp, by simpa using hwa, by simpa using hwb, by simpa using bs, OW.out.later (below_drewN (Below.refl _ _) _)⟩
      clear hwa hwb bs ca' cb' OW
      rintro W ⟨ca', cb', hwa, hwb, bs, OW⟩
      have ow : W.ownsRow w.heap.size 2 1 u5 k (L.map (Value.int .i64)) := by rw [KK.out]; exact OW.out.own
      have OR := hide ow
      clear ow
      go_region_held3 (fun w' => w'.cell? ⟨ga, oa, none⟩ = some (.int .i64 x) ∧ w'.cell? ⟨gb, ob, none⟩ = some (.int .i64 y))
        (first | exact ⟨far9 hgrow ca' hwa aga, far9 hgrow cb' hwb agb⟩ | go_keep)
        ((refine step_append_lies _ (by rfl) _ _ _ (by rfl) w.heap.size 2 i0 _ 1 8 Try.underlying29 HI.out.1 HI.out.2.1 HI.out.2.2.1 HI.out.2.2.2 rfl (by omega) u5 k (L.map (Value.int .i64)) (by rfl) ((OR.out.alloc _).drew)
              ⟨W.heap.size, 0, none⟩ 1 1 [.int .i64 y] (by rfl) (by rfl) (World.news_of_block (cs := #[.int .i64 y]) (t := 2) (fr := (0, 0)) (heap_alloc_new W _)) one_i64
              (by omega) KM.out KB.out (by simp; omega) (W.heap.size + 1) (by simp) ?_; intro gg cap w1 hown1 hgrow hat hlt))
      all_goals
        have O9 : OwnI w w1 (.slice (some ⟨gg, 0, none⟩) (k + 1) cap) (L ++ [y]) := OwnI.more OW.out (by rw [← KK.out]; exact hown1) hgrow
        have P9 := hide O9
        clear O9 hown1 hgrow hat hlt OR
        go_wp2_with fail
        go_roundw
        case rel =>
          refine ⟨some ⟨ga, oa, none⟩, B2, c, d - 1, x :: us, ts, L ++ [y], ?_, ?_, ?_, ?_, P9.out, ?_, ?_⟩
          · first | (rw [N1.out]; done) | (rw [N1.out]; rfl) | (rw [List.length_cons, N1.out]; done)
          · first | (rw [N2.out]; done) | (rw [N2.out]; rfl) | (rw [List.length_cons, N2.out]; done)
          · have q := H1'.out
            have q1 := IA.out.2
            have q2 := IB.out.2
            show _ ∧ _ ∧ _ ∧ _ ∧ _ ∧ _
            rw [List.length_cons]
            refine ⟨?_, ?_, ?_, ?_, ?_, ?_⟩
            all_goals first | (have := N1.out; have := N2.out; omega) | exact q1 | exact q2 | (intro h; cases h)
          · exact ⟨H2.out.1, IB.out.1⟩
          · show _ = _
            rw [List.append_assoc]; exact MM.out
          · show _ = _
            have := LL'.out
            rw [List.length_append, List.length_cons, ← KK.out]
            simp only [List.length_cons, List.length_nil]
            omega
        case measure => simp [lenV9]
    · have MM : Hid (L ++ x :: mg us (y :: ts) = M) := by have := H4.out; rwa [mg_a t] at this
      have td : decide (y < x) = false := decide_eq_false t
      go_wp2_with fail
      go_quiet (fail)
      go_wp2_with fail
      refine abs_wp (fun W => W.cell? ⟨ga, oa, none⟩ = some (.int .i64 x) ∧ W.cell? ⟨gb, ob, none⟩ = some (.int .i64 y) ∧ ga < W.heap.size ∧ gb < W.heap.size ∧ w.heap.size ≤ W.heap.size ∧ Hid (OwnI w W u5 L)) ?_ ?_
      · exact ⟨by go_simp, by go_simp, by simpa using hwa, by simpa using hwb, by simpa using bs, OW.out.later (below_drewN (Below.refl _ _) _)⟩
      clear hwa hwb bs ca' cb' OW
      rintro W ⟨ca', cb', hwa, hwb, bs, OW⟩
      have ow : W.ownsRow w.heap.size 2 1 u5 k (L.map (Value.int .i64)) := by rw [KK.out]; exact OW.out.own
      have OR := hide ow
      clear ow
      go_region_held3 (fun w' => w'.cell? ⟨ga, oa, none⟩ = some (.int .i64 x) ∧ w'.cell? ⟨gb, ob, none⟩ = some (.int .i64 y))
        (first | exact ⟨far9 hgrow ca' hwa aga, far9 hgrow cb' hwb agb⟩ | go_keep)
        ((refine step_append_lies _ (by rfl) _ _ _ (by rfl) w.heap.size 2 i0 _ 1 8 Try.underlying29 HI.out.1 HI.out.2.1 HI.out.2.2.1 HI.out.2.2.2 rfl (by omega) u5 k (L.map (Value.int .i64)) (by rfl) ((OR.out.alloc _).drew)
              ⟨W.heap.size, 0, none⟩ 1 1 [.int .i64 x] (by rfl) (by rfl) (World.news_of_block (cs := #[.int .i64 x]) (t := 2) (fr := (0, 0)) (heap_alloc_new W _)) one_i64
              (by omega) KM.out KB.out (by simp; omega) (W.heap.size + 1) (by simp) ?_; intro gg cap w1 hown1 hgrow hat hlt))
      all_goals
        have O9 : OwnI w w1 (.slice (some ⟨gg, 0, none⟩) (k + 1) cap) (L ++ [x]) := OwnI.more OW.out (by rw [← KK.out]; exact hown1) hgrow
        have P9 := hide O9
        clear O9 hown1 hgrow hat hlt OR
        go_wp2_with fail
        go_roundw
        case rel =>
          refine ⟨A2, some ⟨gb, ob, none⟩, c - 1, d, us, y :: ts, L ++ [x], ?_, ?_, ?_, ?_, P9.out, ?_, ?_⟩
          · first | (rw [N1.out]; done) | (rw [N1.out]; rfl) | (rw [List.length_cons, N1.out]; done)
          · first | (rw [N2.out]; done) | (rw [N2.out]; rfl) | (rw [List.length_cons, N2.out]; done)
          · have q := H1'.out
            have q1 := IA.out.2
            have q2 := IB.out.2
            show _ ∧ _ ∧ _ ∧ _ ∧ _ ∧ _
            rw [List.length_cons]
            refine ⟨?_, ?_, ?_, ?_, ?_, ?_⟩
            all_goals first | (have := N1.out; have := N2.out; omega) | exact q1 | exact q2 | (intro h; cases h)
          · exact ⟨IA.out.1, H2.out.2⟩
          · show _ = _
            rw [List.append_assoc]; exact MM.out
          · show _ = _
            have := LL'.out
            rw [List.length_append, List.length_cons, ← KK.out]
            simp only [List.length_cons, List.length_nil]
            omega
        case measure => simp [lenV9]
end Go.Proofs.Ytebiddmadmmfpaa
/- timer: the reference's Merge; timer.Merge. -/
namespace Go.Proofs.Ytebiddmadmmfpaa
set_option linter.unusedVariables false
set_option linter.unusedSimpArgs false
open Go.RowKit W T9
theorem new_ints (w : World) (x : Int) (t : TypeId) : IsInts .i64 (w.alloc (.cells #[.int .i64 x] t)) (some ⟨w.heap.size, 0, none⟩) [x] :=
  .inr ⟨_, 0, rfl, ⟨fun j hj => by
    have : j = 0 := by simpa using hj
    subst this; simp [go_sem], by simp⟩⟩
theorem take_drop_cons {xs : List Int} {p : Nat} (h : p < xs.length) : xs.drop p = xs[p] :: xs.drop (p + 1) := List.drop_eq_getElem_cons h
set_option maxRecDepth 100000 in
set_option maxHeartbeats 8000000 in
theorem rmerge_spec (a b : Option Addr) (c d : Nat) (xs ys : List Int) (w : World) (hx : IsInts .i64 w a xs) (hy : IsInts .i64 w b ys) (hl : (xs.length + ys.length) * 8 ≤ 140737488355328) :
    Calls Try.prog 17 #[.slice a xs.length c, .slice b ys.length d] w fun e w' => ∃ v, e = .returned v ∧ OwnI w w' v (mg xs ys) := by
  have HX := hide hx
  have HY := hide hy
  obtain ⟨M, hM⟩ : ∃ M, M = mg xs ys := ⟨_, rfl⟩
  rw [← hM]
  have HM := hide hM
  obtain ⟨m, hm⟩ : ∃ m, m = xs.length := ⟨_, rfl⟩
  obtain ⟨n, hn⟩ : ∃ n, n = ys.length := ⟨_, rfl⟩
  rw [← hm, ← hn] at hl ⊢
  have HA := hide hm
  have HB := hide hn
  clear hx hy hM hm hn
  go_enter Try.func17, Try.ntmps17
  go_wp2_with fail
  go_loopw [5, 6, 7] (fun v i k wr => ∃ (p q : Nat) (L : List Int), p ≤ m ∧ q ≤ n ∧ i = .int .i64 p ∧ k = .int .i64 q ∧ Hid (OwnI w wr v L) ∧ Hid (L ++ mg (xs.drop p) (ys.drop q) = M) ∧ Hid (L.length = p + q)) (fun _ i k _ => (m - (intOf i).toNat) + (n - (intOf k).toNat))
  case atStart =>
    refine ⟨0, 0, [], by omega, by omega, rfl, rfl, ⟨⟨rfl, .inl ⟨rfl, rfl⟩⟩, Below.refl _ _⟩, ?_, rfl⟩
    show [] ++ mg (xs.drop 0) (ys.drop 0) = M
    rw [HM.out]; rfl
  case round =>
    obtain ⟨p, q, L, hp, hq, rfl, rfl, OW, HE, HL⟩ := hrel
    have A1 := HA.out
    have A2 := HB.out
    by_cases lp : p < m
    · have p1 : p < xs.length := by omega
      have ex := take_drop_cons p1
      obtain ⟨x, hxk⟩ : ∃ x, x = xs[p] := ⟨_, rfl⟩
      have xn : xs ≠ [] := fun h => by rw [h] at p1; simp at p1
      obtain ⟨ga, oa, ea, la⟩ := HX.out.resolve_left xn
      have ca := (OW.out.below.cell (p := ⟨ga, oa + p, none⟩) la.lt).trans (la.cell p p1)
      rw [← hxk] at ca ex
      have lga : ga < wr.heap.size := Nat.lt_of_lt_of_le la.lt OW.out.below.size
      have lp' : (p : Int) < (m : Int) := by omega
      by_cases lq : q < n
      · have q1 : q < ys.length := by omega
        have ey := take_drop_cons q1
        obtain ⟨y, hyk⟩ : ∃ y, y = ys[q] := ⟨_, rfl⟩
        have yn : ys ≠ [] := fun h => by rw [h] at q1; simp at q1
        obtain ⟨gb, ob, eb, lb⟩ := HY.out.resolve_left yn
        have cb := (OW.out.below.cell (p := ⟨gb, ob + q, none⟩) lb.lt).trans (lb.cell q q1)
        rw [← hyk] at cb ey
        have lgb : gb < wr.heap.size := Nat.lt_of_lt_of_le lb.lt OW.out.below.size
        have lq' : (q : Int) < (n : Int) := by omega
        have gq : decide (n ≤ q) = false := decide_eq_false (by omega)
        have b1 : (L.length + [x].length) * 8 ≤ 140737488355328 := by have := HL.out; simp; omega
        have b2 : (L.length + [y].length) * 8 ≤ 140737488355328 := by have := HL.out; simp; omega
        by_cases t : y < x
        · have NE : Hid ((L ++ [y]) ++ mg (xs.drop p) (ys.drop (q + 1)) = M) := by
            have := HE.out
            show _ = _
            rw [ex, ey, mg_b t] at this
            rw [ex, ← this]; simp
          have NL : Hid ((L ++ [y]).length = p + (q + 1)) := by have := HL.out; show _ = _; simp; omega
          have t1 : decide (x ≤ y) = false := decide_eq_false (by omega)
          subst ea eb
          clear ex ey hxk hyk xn yn la lb HE HL A1 A2 p1 q1
          go_wp2_with fail
          go_quiet (fail)
          have d1 := (show (wr.drewN nq).cell? ⟨ga, oa + p, none⟩ = some (.int .i64 x) from ca)
          have d2 := (show (wr.drewN nq).cell? ⟨gb, ob + q, none⟩ = some (.int .i64 y) from cb)
          have O0 := OW.out.later (below_drewN (Below.refl _ _) nq)
          clear OW ca cb lga lgb
          generalize wr.drewN nq = W at d1 d2 O0 ⊢
          have OW := hide O0
          clear O0
          go_wp2_with ((at_builtin; refine wpList_append_ints rfl _ _ rfl w u5 L rfl (OW.out.later ((Below.refl _ _).alloc (Nat.le_refl _) _)) (some ⟨W.heap.size, 0, none⟩) 1 1 [y] rfl rfl (new_ints W _ _) (fun h => by cases h) b2 ?_; intro v1 w1 O1))
          have O2 := hide O1
          clear O1
          go_roundw
          case rel => exact ⟨p, q + 1, L ++ [y], hp, by omega, rfl, by go_num, O2.out, NE, NL⟩
          case measure => simp [intOf]; omega
        · have NE : Hid ((L ++ [x]) ++ mg (xs.drop (p + 1)) (ys.drop q) = M) := by
            have := HE.out
            show _ = _
            rw [ex, ey, mg_a t] at this
            rw [ey, ← this]; simp
          have NL : Hid ((L ++ [x]).length = p + 1 + q) := by have := HL.out; show _ = _; simp; omega
          have t1 : decide (x ≤ y) = true := decide_eq_true (by omega)
          subst ea eb
          clear ex ey hxk hyk xn yn la lb HE HL A1 A2 p1 q1
          go_wp2_with fail
          go_quiet (fail)
          have d1 := (show (wr.drewN nq).cell? ⟨ga, oa + p, none⟩ = some (.int .i64 x) from ca)
          have d2 := (show (wr.drewN nq).cell? ⟨gb, ob + q, none⟩ = some (.int .i64 y) from cb)
          have O0 := OW.out.later (below_drewN (Below.refl _ _) nq)
          clear OW ca cb lga lgb
          generalize wr.drewN nq = W at d1 d2 O0 ⊢
          have OW := hide O0
          clear O0
          go_wp2_with ((at_builtin; refine wpList_append_ints rfl _ _ rfl w u5 L rfl (OW.out.later ((Below.refl _ _).alloc (Nat.le_refl _) _)) (some ⟨W.heap.size, 0, none⟩) 1 1 [x] rfl rfl (new_ints W _ _) (fun h => by cases h) b1 ?_; intro v1 w1 O1))
          have O2 := hide O1
          clear O1
          go_roundw
          case rel => exact ⟨p + 1, q, L ++ [x], by omega, hq, by go_num, rfl, O2.out, NE, NL⟩
          case measure => simp [intOf]; omega
      · obtain rfl : q = n := by omega
        have gq : decide (q ≤ q) = true := decide_eq_true (by omega)
        have b1 : (L.length + [x].length) * 8 ≤ 140737488355328 := by have := HL.out; simp; omega
        have dn : ys.drop q = [] := List.drop_eq_nil_of_le (by omega)
        have NE : Hid ((L ++ [x]) ++ mg (xs.drop (p + 1)) (ys.drop q) = M) := by
          have := HE.out
          show _ = _
          rw [ex, dn, mg_nil2] at this
          rw [dn, mg_nil2, ← this]; simp
        have NL : Hid ((L ++ [x]).length = p + 1 + q) := by have := HL.out; show _ = _; simp; omega
        subst ea
        clear ex hxk xn la HE HL A1 A2 p1 dn
        go_wp2_with fail
        go_quiet (fail)
        have d1 := (show (wr.drewN nq).cell? ⟨ga, oa + p, none⟩ = some (.int .i64 x) from ca)
        have O0 := OW.out.later (below_drewN (Below.refl _ _) nq)
        clear OW ca lga
        generalize wr.drewN nq = W at d1 O0 ⊢
        have OW := hide O0
        clear O0
        go_wp2_with ((at_builtin; refine wpList_append_ints rfl _ _ rfl w u5 L rfl (OW.out.later ((Below.refl _ _).alloc (Nat.le_refl _) _)) (some ⟨W.heap.size, 0, none⟩) 1 1 [x] rfl rfl (new_ints W _ _) (fun h => by cases h) b1 ?_; intro v1 w1 O1))
        have O2 := hide O1
        clear O1
        go_roundw
        case rel => exact ⟨p + 1, q, L ++ [x], by omega, hq, by go_num, rfl, O2.out, NE, NL⟩
        case measure => simp [intOf]; omega
    · obtain rfl : p = m := by omega
      have dn : xs.drop p = [] := List.drop_eq_nil_of_le (by omega)
      by_cases lq : q < n
      · have q1 : q < ys.length := by omega
        have ey := take_drop_cons q1
        obtain ⟨y, hyk⟩ : ∃ y, y = ys[q] := ⟨_, rfl⟩
        have yn : ys ≠ [] := fun h => by rw [h] at q1; simp at q1
        obtain ⟨gb, ob, eb, lb⟩ := HY.out.resolve_left yn
        have cb := (OW.out.below.cell (p := ⟨gb, ob + q, none⟩) lb.lt).trans (lb.cell q q1)
        rw [← hyk] at cb ey
        have lgb : gb < wr.heap.size := Nat.lt_of_lt_of_le lb.lt OW.out.below.size
        have lq' : (q : Int) < (n : Int) := by omega
        have gq : decide (n ≤ q) = false := decide_eq_false (by omega)
        have gp : decide (p < p) = false := decide_eq_false (by omega)
        have b2 : (L.length + [y].length) * 8 ≤ 140737488355328 := by have := HL.out; simp; omega
        have NE : Hid ((L ++ [y]) ++ mg (xs.drop p) (ys.drop (q + 1)) = M) := by
          have := HE.out
          show _ = _
          rw [ey, dn, mg_nil] at this
          rw [dn, mg_nil, ← this]; simp
        have NL : Hid ((L ++ [y]).length = p + (q + 1)) := by have := HL.out; show _ = _; simp; omega
        subst eb
        clear ey hyk yn lb HE HL A1 A2 q1 dn
        go_wp2_with fail
        go_quiet (fail)
        have d2 := (show (wr.drewN nq).cell? ⟨gb, ob + q, none⟩ = some (.int .i64 y) from cb)
        have O0 := OW.out.later (below_drewN (Below.refl _ _) nq)
        clear OW cb lgb
        generalize wr.drewN nq = W at d2 O0 ⊢
        have OW := hide O0
        clear O0
        go_wp2_with ((at_builtin; refine wpList_append_ints rfl _ _ rfl w u5 L rfl (OW.out.later ((Below.refl _ _).alloc (Nat.le_refl _) _)) (some ⟨W.heap.size, 0, none⟩) 1 1 [y] rfl rfl (new_ints W _ _) (fun h => by cases h) b2 ?_; intro v1 w1 O1))
        have O2 := hide O1
        clear O1
        go_roundw
        case rel => exact ⟨p, q + 1, L ++ [y], hp, by omega, rfl, by go_num, O2.out, NE, NL⟩
        case measure => simp [intOf]; omega
      · obtain rfl : q = n := by omega
        have dn2 : ys.drop q = [] := List.drop_eq_nil_of_le (by omega)
        have E : Hid (L = M) := by
          have := HE.out
          show _ = _
          rw [dn, dn2, mg_nil, List.append_nil] at this
          exact this
        clear dn dn2 HE HL A1 A2
        go_wp2_with fail
        go_returns
        exact ⟨u5, rfl, by rw [← E.out]; exact OW.out⟩
theorem tmerge_spec (a b : Option Addr) (ca cb : Nat) (xs ys : List Int) (w : World) (hx : IsInts .i64 w a xs) (hy : IsInts .i64 w b ys) (hca : xs.length ≤ ca) (hcb : ys.length ≤ cb) (hna : a = none → ca = 0) (hnb : b = none → cb = 0) (ha63 : ca ≤ 9223372036854775807) (hb63 : cb ≤ 9223372036854775807) (hl : (xs.length + ys.length) * 8 ≤ 140737488355328) :
    Calls Try.prog 16 #[.slice a xs.length ca, .slice b ys.length cb] w fun e w' => ∃ v, e = .returned v ∧ OwnI w w' v (mg xs ys) := by
  have k := merge_spec a b ca cb xs ys w hx hy hca hcb hna hnb ha63 hb63 hl
  clear hx hy hca hcb hna hnb ha63 hb63 hl
  go_enter Try.func16, Try.ntmps16
  go_wp2_with fail
  refine k.mono ?_
  rintro e w1 ⟨v, rfl, O⟩
  have O2 := hide O
  clear O k
  go_wp2_with fail
  go_returns
  exact ⟨v, rfl, O2.out⟩
end Go.Proofs.Ytebiddmadmmfpaa
/- timer: rank; Rank. (gen_tm2.py) -/
namespace Go.Proofs.Ytebiddmadmmfpaa
set_option linter.unusedVariables false
set_option linter.unusedSimpArgs false
open Go.RowKit W T9
set_option maxRecDepth 100000 in
set_option maxHeartbeats 8000000 in
theorem rank_walk (n p n1 n0 p1 p0 s1 s0 d1 d0 q1 q0 r1 r0 er er2 v g res : Int) (b : Bool) (v0 : 0 ≤ v) (v2 : v ≤ 9223372036854775807) (v1 : Hid (0 < g → v < 9223372036854775807)) (hy : Hid (0 < g → res = v + 1)) (hn : Hid (¬ 0 < g → res = v))
    (k1 : ∀ w, Calls Try.prog 24 #[.int .i64 n] w fun e w' => e = .returned (.agg #[.int .i64 n1, .int .u64 n0]) ∧ Below w.heap.size w w')
    (k2 : ∀ w, Calls Try.prog 24 #[.int .i64 p] w fun e w' => e = .returned (.agg #[.int .i64 p1, .int .u64 p0]) ∧ Below w.heap.size w w')
    (k3 : ∀ w, Calls Try.prog 27 #[.agg #[.int .i64 n1, .int .u64 n0], .agg #[.int .i64 p1, .int .u64 p0]] w fun e w' => e = .returned (.tuple #[.agg #[.int .i64 s1, .int .u64 s0], .int .i64 er2]) ∧ Below w.heap.size w w')
    (kf : ∀ w, Calls Try.prog 24 #[.int .i64 100000000] w fun e w' => e = .returned (.agg #[.int .i64 d1, .int .u64 d0]) ∧ Below w.heap.size w w')
    (kq : ∀ w, Calls Try.prog 26 #[.agg #[.int .i64 s1, .int .u64 s0], .agg #[.int .i64 d1, .int .u64 d0]] w fun e w' => e = .returned (.tuple #[.agg #[.int .i64 q1, .int .u64 q0], .agg #[.int .i64 r1, .int .u64 r0], .int .i64 er]) ∧ Below w.heap.size w w')
    (km : ∀ w, Calls Try.prog 55 #[.agg #[.int .i64 q1, .int .u64 q0]] w fun e w' => e = .returned (.tuple #[.int .i64 v, .bool b]) ∧ Below w.heap.size w w')
    (kg : ∀ w, Calls Try.prog 49 #[.agg #[.int .i64 r1, .int .u64 r0]] w fun e w' => e = .returned (.int .i64 g) ∧ Below w.heap.size w w')
    (w : World) : Calls Try.prog 29 #[.int .i64 n, .int .i64 p] w fun e w' => e = .returned (.int .i64 res) ∧ Below w.heap.size w w' := by
  go_enter Try.func29, Try.ntmps29
  go_wp2_with fail
  refine (k1 _).mono ?_
  rintro e w1 ⟨rfl, h1⟩
  clear k1
  go_wp2_with fail
  refine (k2 _).mono ?_
  rintro e w2 ⟨rfl, h2⟩
  clear k2
  go_wp2_with fail
  refine (k3 _).mono ?_
  rintro e w3 ⟨rfl, h3⟩
  clear k3
  have b3 : Below w.heap.size w w3 := (h1.trans (h2.mono h1.size)).trans (h3.mono (Nat.le_trans h1.size h2.size))
  have y3 := b3.size
  clear h1 h2 h3
  go_wp2_with fail
  refine abs_wp (fun W => W.cell? ⟨w3.heap.size, 0, none⟩ = some (.int .i64 s1) ∧ W.cell? ⟨w3.heap.size, 1, none⟩ = some (.int .u64 s0) ∧ w3.heap.size < W.heap.size ∧ Below w.heap.size w W) ?_ ?_
  · refine ⟨?_, ?_, ?_, ?_⟩
    all_goals first | assumption | (go_grown; done) | (simp [go_sem]; done) | (simp; done) | omega | (simp; omega)
  rintro W ⟨c0, c1, zW, BW⟩
  go_cut [7, 8] (fun q7 q8 W' => ∃ X Y : Nat, q7 = .pointer (some ⟨X, 0, none⟩) ∧ q8 = .pointer (some ⟨Y, 0, none⟩) ∧ Box2 W'  X (.int .i64 q1) (.int .u64 q0) ∧ Box2 W'  Y (.int .i64 r1) (.int .u64 r0) ∧ Keeps W.heap.size W W')
  case first =>
    have K0 := Keeps.start (Nat.le_refl W.heap.size)
    have K1 := K0.drew
    go_region_held3 (fun w' => w'.cell? ⟨w3.heap.size, 0, none⟩ = some (.int .i64 s1) ∧ w'.cell? ⟨w3.heap.size, 1, none⟩ = some (.int .u64 s0) ∧ Keeps W.heap.size W w') ((refine (fun K => ⟨Keeps.cell K c0 (by omega), Keeps.cell K c1 (by omega), K⟩) (?_ : Keeps W.heap.size W _); ((repeat (first | with_reducible assumption | with_reducible refine Keeps.alloc ?_ _ | with_reducible refine Keeps.drew ?_ | with_reducible refine Keeps.setCell ?_ ?_ _)); (all_goals (first | (simp; done) | omega | (simp; omega))))))
      (first
      | (go_at_call 24; refine (kf _).mono ?_; rintro e v20 ⟨rfl, hb20⟩; have K20 := Keeps.call (B := W.heap.size) (W := W) (by (repeat (first | with_reducible assumption | with_reducible refine Keeps.alloc ?_ _ | with_reducible refine Keeps.drew ?_ | with_reducible refine Keeps.setCell ?_ ?_ _)); (all_goals (first | (simp; done) | omega | (simp; omega)))) hb20; obtain ⟨bc20, bf20, bs20⟩ := bcell hb20; (try simp only [World.size_alloc, World.size_drew] at bc20 bf20 bs20); (try (have ov200 : W.heap.size < v20.heap.size := by omega)); (try (have ov201 : W.heap.size ≤ v20.heap.size := by omega)); (try (have ov202 : ¬ W.heap.size = v20.heap.size := by omega)); (try (have ov203 : ¬ v20.heap.size = W.heap.size := by omega)); (try (have ov204 : W.heap.size + 1 < v20.heap.size := by omega)); (try (have ov205 : W.heap.size + 1 ≤ v20.heap.size := by omega)); (try (have ov206 : ¬ W.heap.size + 1 = v20.heap.size := by omega)); (try (have ov207 : ¬ v20.heap.size = W.heap.size + 1 := by omega)))
      | (go_at_call 26; refine (kq _).mono ?_; rintro e v21 ⟨rfl, hb21⟩; have K21 := Keeps.call (B := W.heap.size) (W := W) (by (repeat (first | with_reducible assumption | with_reducible refine Keeps.alloc ?_ _ | with_reducible refine Keeps.drew ?_ | with_reducible refine Keeps.setCell ?_ ?_ _)); (all_goals (first | (simp; done) | omega | (simp; omega)))) hb21; obtain ⟨bc21, bf21, bs21⟩ := bcell hb21; (try simp only [World.size_alloc, World.size_drew] at bc21 bf21 bs21); (try (have ov210 : W.heap.size < v21.heap.size := by omega)); (try (have ov211 : W.heap.size ≤ v21.heap.size := by omega)); (try (have ov212 : ¬ W.heap.size = v21.heap.size := by omega)); (try (have ov213 : ¬ v21.heap.size = W.heap.size := by omega)); (try (have ov214 : W.heap.size + 1 < v21.heap.size := by omega)); (try (have ov215 : W.heap.size + 1 ≤ v21.heap.size := by omega)); (try (have ov216 : ¬ W.heap.size + 1 = v21.heap.size := by omega)); (try (have ov217 : ¬ v21.heap.size = W.heap.size + 1 := by omega)); (try (have ov218 : v20.heap.size < v21.heap.size := by omega)); (try (have ov219 : v20.heap.size ≤ v21.heap.size := by omega)); (try (have ov2110 : ¬ v20.heap.size = v21.heap.size := by omega)); (try (have ov2111 : ¬ v21.heap.size = v20.heap.size := by omega)); (try (have ov2112 : v20.heap.size + 1 < v21.heap.size := by omega)); (try (have ov2113 : v20.heap.size + 1 ≤ v21.heap.size := by omega)); (try (have ov2114 : ¬ v20.heap.size + 1 = v21.heap.size := by omega)); (try (have ov2115 : ¬ v21.heap.size = v20.heap.size + 1 := by omega))))
    all_goals
      go_wp2_with fail
      go_meet
      case rel =>
        refine ⟨_, _, rfl, rfl, ⟨?_, ?_, ?_, ?_, ?_⟩, ⟨?_, ?_, ?_, ?_, ?_⟩, ?_⟩
        · first | (go_simp; done) | (go_simp; refine World.cell?_setCell_same' _ _ _ ?_; go_simp; done)
        · first | (go_simp; done) | (go_simp; refine World.cell?_setCell_same' _ _ _ ?_; go_simp; done)
        · first | (go_simp; done) | (go_simp; refine World.cell?_setCell_same' _ _ _ ?_; go_simp; done)
        · first | (go_simp; done) | (go_simp; refine World.cell?_setCell_same' _ _ _ ?_; go_simp; done)
        · first | (simp; done) | omega | (simp; omega)
        · first | (go_simp; done) | (go_simp; refine World.cell?_setCell_same' _ _ _ ?_; go_simp; done)
        · first | (go_simp; done) | (go_simp; refine World.cell?_setCell_same' _ _ _ ?_; go_simp; done)
        · first | (go_simp; done) | (go_simp; refine World.cell?_setCell_same' _ _ _ ?_; go_simp; done)
        · first | (go_simp; done) | (go_simp; refine World.cell?_setCell_same' _ _ _ ?_; go_simp; done)
        · first | (simp; done) | omega | (simp; omega)
        · (repeat (first | with_reducible assumption | with_reducible refine Keeps.alloc ?_ _ | with_reducible refine Keeps.drew ?_ | with_reducible refine Keeps.setCell ?_ ?_ _)); (all_goals (first | (simp; done) | omega | (simp; omega)))
  case rest =>
    obtain ⟨X, Y, rfl, rfl, bx, by_, KK⟩ := hcut
    have bl := BW.trans (KK.below.mono BW.size)
    clear KK BW kf kq c0 c1 zW b3
    obtain ⟨x0, x1, x2, x3, x4⟩ := bx
    go_wp2_with fail
    refine (km _).mono ?_
    rintro e w9 ⟨rfl, h9⟩
    have b9 := bl.trans (h9.mono bl.size)
    obtain ⟨z0, z1, z2, z3, z4⟩ := by_.later h9
    clear h9 km bl x0 x1 x2 x3 x4 by_
    go_wp2_with fail
    refine (kg _).mono ?_
    rintro e w10 ⟨rfl, h10⟩
    have b10 := b9.trans (h10.mono b9.size)
    clear h10 kg b9
    by_cases hg : 0 < g
    · obtain rfl : res = v + 1 := hy.out hg
      have v3 := v1.out hg
      go_wp2_with fail
      go_returns
      refine ⟨rfl, ?_⟩
      repeat (first | exact Below.refl _ _ | assumption | refine Below.setCell ?_ (by first | (simp; done) | omega | (simp; omega)) _ | refine Below.drew ?_ | refine below_drewN ?_ _ | refine Below.alloc ?_ (by first | (simp; done) | omega | (simp; omega)) _)
    · obtain rfl : res = v := hn.out (by omega)
      go_wp2_with fail
      go_returns
      refine ⟨rfl, ?_⟩
      repeat (first | exact Below.refl _ _ | assumption | refine Below.setCell ?_ (by first | (simp; done) | omega | (simp; omega)) _ | refine Below.drew ?_ | refine below_drewN ?_ _ | refine Below.alloc ?_ (by first | (simp; done) | omega | (simp; omega)) _)
/-- rank: the nearest rank. -/
theorem rank_spec (n p : Int) (w : World) (h1 : 1 ≤ n) (h2 : n ≤ 9223372036854775807) (p1 : 1 ≤ p) (p2 : p ≤ 100000000) :
    Calls Try.prog 29 #[.int .i64 n, .int .i64 p] w fun e w' => e = .returned (.int .i64 (rnk n p)) ∧ Below w.heap.size w w' := by
  have hn : IsHi n := ⟨by omega, by omega⟩
  have hp : IsHi p := ⟨by omega, by omega⟩
  have k1 := wof_spec n hn
  have k2 := wof_spec p hp
  have kf := wof_spec 100000000 ⟨by omega, by omega⟩
  have k3 := mul_spec (hi n) (lo n) (hi p) (lo p) (hiV_isW (fits_small hn)) (hiV_isW (fits_small hp))
  have a : n * p ≤ n * 100000000 := Int.mul_le_mul_of_nonneg_left p2 (by omega)
  have b : 0 ≤ n * p := Int.mul_nonneg (by omega) (by omega)
  have fm : Fits (n * p) := ⟨by omega, by omega⟩
  rw [V_hi_lo, V_hi_lo] at k3
  unfold sumRes at k3
  unfold wideRes at k1 k2 kf
  rw [resV_fits fm, resE_fits fm] at k3
  have q0 : 0 ≤ n * p / 100000000 := by omega
  have q1 : n * p / 100000000 ≤ n := by omega
  have r0 : 0 ≤ n * p % 100000000 := by omega
  have r1 : n * p % 100000000 < 100000000 := by omega
  have fr : Fits (n * p % 100000000) := ⟨by omega, by omega⟩
  have kg := sign_spec (hi (n * p % 100000000)) (lo (n * p % 100000000)) (isLo_lo _)
  rw [V_hi_lo] at kg
  have c1 : 0 < cmpI (n * p % 100000000) 0 ↔ ¬ n * p % 100000000 = 0 := by
    unfold cmpI; split <;> (try split) <;> omega
  refine rank_walk n p _ _ _ _ _ _ _ _ _ _ _ _ _ _ (n * p / 100000000) _ _ _ q0 (by omega) ?_ ?_ ?_ k1 k2 k3 kf (quo_pos (n * p) 100000000 b (by omega) (by omega) (by omega)) (small_pos _ ⟨by omega, by omega⟩) kg w
  · intro h; rw [c1] at h; omega
  · intro h; rw [c1] at h; unfold rnk; rw [if_neg h]
  · intro h; rw [c1] at h; unfold rnk; rw [if_pos (by omega)]; omega
end Go.Proofs.Ytebiddmadmmfpaa
/- timer: Upto. (gen_tup.py) -/
namespace Go.Proofs.Ytebiddmadmmfpaa
set_option linter.unusedVariables false
set_option linter.unusedSimpArgs false
open Go.RowKit W T9
/-- A box of 5 cells that may be written. -/
structure Box5 (w : World) (b : Nat) (x0 x1 x2 x3 x4 : Value) : Prop where
  x0 : w.cell? ⟨b, 0, none⟩ = some x0
  x1 : w.cell? ⟨b, 1, none⟩ = some x1
  x2 : w.cell? ⟨b, 2, none⟩ = some x2
  x3 : w.cell? ⟨b, 3, none⟩ = some x3
  x4 : w.cell? ⟨b, 4, none⟩ = some x4
  f0 : w.frozen? ⟨b, 0, none⟩ = false
  f1 : w.frozen? ⟨b, 1, none⟩ = false
  f2 : w.frozen? ⟨b, 2, none⟩ = false
  f3 : w.frozen? ⟨b, 3, none⟩ = false
  f4 : w.frozen? ⟨b, 4, none⟩ = false
  lt : b < w.heap.size
theorem Box5.later {w w' : World} {b : Nat} {x0 x1 x2 x3 x4 : Value} (h : Box5 w b x0 x1 x2 x3 x4) (k : Below w.heap.size w w') : Box5 w' b x0 x1 x2 x3 x4 :=
  ⟨(k.cell (p := ⟨b, 0, none⟩) h.lt).trans h.x0, (k.cell (p := ⟨b, 1, none⟩) h.lt).trans h.x1, (k.cell (p := ⟨b, 2, none⟩) h.lt).trans h.x2, (k.cell (p := ⟨b, 3, none⟩) h.lt).trans h.x3, (k.cell (p := ⟨b, 4, none⟩) h.lt).trans h.x4, (k.frozen (p := ⟨b, 0, none⟩) h.lt).trans h.f0, (k.frozen (p := ⟨b, 1, none⟩) h.lt).trans h.f1, (k.frozen (p := ⟨b, 2, none⟩) h.lt).trans h.f2, (k.frozen (p := ⟨b, 3, none⟩) h.lt).trans h.f3, (k.frozen (p := ⟨b, 4, none⟩) h.lt).trans h.f4, Nat.lt_of_lt_of_le h.lt k.size⟩
theorem Box5.made {w : World} {x0 x1 x2 x3 x4 : Value} {t : TypeId} : Box5 (w.alloc (.cells #[x0, x1, x2, x3, x4] t)) w.heap.size x0 x1 x2 x3 x4 := by
  refine ⟨?_, ?_, ?_, ?_, ?_, ?_, ?_, ?_, ?_, ?_, ?_⟩ <;> first | (simp [go_sem]; done) | (simp; done)
theorem size_i64u (w : World) : (Go.sizeOf (Try.prog.elem 29)).run Try.prog w = .ok 1 w := by kernel_rfl
theorem ints_upto (a : Option Addr) (n cap r : Nat) (hr : r ≤ n) (hc : n ≤ cap) (v : World) : (Instr.slice 29 (.slice a n cap) none (some (.int .i64 (r : Int))) none).run Try.prog v = .ok (.slice a r cap) v := by
  rw [run_slice_h (P := Try.prog) (w := v) 29 a n cap (by kernel_rfl) .i64 (r : Int) (by omega) (by omega), size_i64u]
  cases a <;> simp [Result.andThen, sliced, Addr.add]
theorem ints_from (h n cap d : Nat) (hd : d < n) (hc : n ≤ cap) (h63 : n ≤ 9223372036854775807) (v : World) : (Instr.slice 29 (.slice (some ⟨h, 0, none⟩) n cap) (some (.int .i64 (d : Int))) none none).run Try.prog v = .ok (.slice (some ⟨h, d, none⟩) (n - d) (cap - d)) v := by
  rw [run_slice_l (P := Try.prog) (w := v) 29 (some ⟨h, 0, none⟩) n cap (by kernel_rfl) .i64 (d : Int) (by omega) (by omega), size_i64u]
  have : ¬ cap = d := by omega
  simp [Result.andThen, sliced, Addr.add, this]
  intro h; exact h.symm
set_option maxRecDepth 100000 in
set_option maxHeartbeats 8000000 in
theorem upto_pos (b off c n q d : Nat) (p x s1 s0 m : Int) (w : World) (hn : n ≤ 17592186044416) (hd : n = d + (q + 1)) (lt : b < w.heap.size) (L : World → Nat → Prop) (p0 : 0 < p) (p1 : p ≤ 100000000)
    (LL : ∀ w' h w'', L w' h → Below w'.heap.size w' w'' → L w'' h) (L0 : ∀ w' h, L w' h → h < w'.heap.size ∧ w'.cell? ⟨h, q, none⟩ = some (.int .i64 x))
    (kc : ∀ w', Below w.heap.size w w' → CalcN 35 #[.slice (some ⟨b, off, none⟩) n c] w' (.int .i64 0))
    (ks : ∀ w', Below w.heap.size w w' → Calls Try.prog 36 #[.slice (some ⟨b, off, none⟩) n c] w' fun e w'' => ∃ h cap, e = .returned (.slice (some ⟨h, 0, none⟩) n cap) ∧ L w'' h ∧ w'.heap.size ≤ h ∧ n ≤ cap ∧ Below w'.heap.size w' w'')
    (kr : ∀ w', Calls Try.prog 29 #[.int .i64 n, .int .i64 p] w' fun e w'' => e = .returned (.int .i64 ((q : Int) + 1)) ∧ Below w'.heap.size w' w'')
    (ku : ∀ g c2 w', L w' g → Calls Try.prog 37 #[.slice (some ⟨g, 0, none⟩) (q + 1) c2] w' fun e w'' => e = .returned (.agg #[.int .i64 s1, .int .u64 s0]) ∧ Below w'.heap.size w' w'')
    (km : ∀ w', Calls Try.prog 38 #[.agg #[.int .i64 s1, .int .u64 s0], .int .i64 ((q : Int) + 1)] w' fun e w'' => e = .returned (.int .i64 m) ∧ Below w'.heap.size w' w'') :
    Calls Try.prog 20 #[.slice (some ⟨b, off, none⟩) n c, .int .i64 p] w fun e w' => e = .returned (.tuple #[.agg #[.int .i64 ((q : Int) + 1), .int .i64 s1, .int .u64 s0, .int .i64 m, .int .i64 x], .int .i64 0]) ∧ Below w.heap.size w w' := by
  have KS := hide ks
  have KU := hide ku
  have HL := hide LL
  have HC := hide L0
  have g1 : ¬ 100000000 < p := by omega
  have g2 : ¬ p < -100000000 := by omega
  have g3 : (p == 0) = false := by simp; omega
  have g4 : 0 < n := by omega
  have g5 : ((n : Int) == 0) = false := by simp; omega
  have g6 : (0 : Int) < (n : Int) := by omega
  have hqn : q + 1 ≤ n := by omega
  have gp : decide (0 < p) = true := decide_eq_true p0
  have DD := hide hd
  clear ku LL L0 hd
  go_enter Try.func20, Try.ntmps20
  go_wp2_with fail
  refine (kc _ (by go_grown)).mono ?_
  rintro e w1 ⟨rfl, rfl⟩
  clear kc
  clear ks
  go_wp2_with fail
  refine (KS.out _ (by go_grown)).mono ?_
  clear KS
  rintro e w2 ⟨h, cap, rfl, H, hh, hc, hb⟩
  have R1 := (Box5.made (w := w)).later hb
  have B1 : Below w.heap.size w w2 := Below.trans (by go_grown) (hb.mono (by simp))
  have nh : h ≠ w.heap.size := by have := hh; simp at this; omega
  clear hb
  have HH1 := hide H
  clear H
  go_wp2_with fail
  refine (kr _).mono ?_
  clear kr
  rintro e w2b ⟨rfl, hr⟩
  have R2 := R1.later hr
  have B2 := B1.trans (hr.mono B1.size)
  have HH := hide (HL.out _ _ _ HH1.out hr)
  clear hr R1 B1 HH1
  have sl : ∀ v, (Instr.slice 29 (.slice (some ⟨h, 0, none⟩) n cap) none (some (.int .i64 ((q : Int) + 1))) none).run Try.prog v = .ok (.slice (some ⟨h, 0, none⟩) (q + 1) cap) v := fun v => by
    have := ints_upto (some ⟨h, 0, none⟩) n cap (q + 1) (by omega) hc v
    rw [show ((q + 1 : Nat) : Int) = (q : Int) + 1 by omega] at this
    exact this
  obtain ⟨hw4, l0⟩ := HC.out _ _ HH.out
  go_wp2_with fail
  clear sl l0 hw4
  refine (KU.out h cap w2b HH.out).mono ?_
  clear KU
  rintro e w3 ⟨rfl, h3⟩
  have B3 := B2.trans (h3.mono B2.size)
  have y3 := h3.size
  go_wp2_with fail
  refine abs_wp (fun W => W.cell? ⟨w3.heap.size, 0, none⟩ = some (.int .i64 s1) ∧ W.cell? ⟨w3.heap.size, 1, none⟩ = some (.int .u64 s0) ∧ w3.heap.size < W.heap.size ∧ Below w3.heap.size w3 W) ?_ ?_
  · exact ⟨by simp [go_sem], by simp [go_sem], by simp, by go_grown⟩
  rintro W ⟨c0, c1, zW, hW⟩
  have BW := hide (B3.trans (hW.mono B3.size))
  have RB := hide (R2.later (h3.trans (hW.mono h3.size)))
  have nz1 : w3.heap.size ≠ w.heap.size := by have := R2.lt; have := h3.size; omega
  have X0 := KeepX.start (r := w.heap.size) (W := W)
  have X1 := X0.drew
  have K0 := Keeps.start (Nat.le_refl W.heap.size)
  have K1 := K0.drew
  clear hW h3 B3 B2 R2 HH y3
  go_region_held3 (fun w' => w'.cell? ⟨w3.heap.size, 0, none⟩ = some (.int .i64 s1) ∧ w'.cell? ⟨w3.heap.size, 1, none⟩ = some (.int .u64 s0) ∧ KeepX W.heap.size w.heap.size W w')
    ((refine (fun K => ⟨(KeepX.cell K _ _ zW nz1).trans c0, (KeepX.cell K _ _ zW nz1).trans c1, K⟩) (?_ : KeepX W.heap.size w.heap.size W _); (repeat (first | with_reducible assumption | with_reducible refine KeepX.setR ?_ _ _ | with_reducible refine KeepX.alloc ?_ _ | with_reducible refine KeepX.drew ?_))))
    (first
    | (go_at_call 38; (with_reducible refine (km _).mono ?_); rintro e v20 ⟨rfl, hb20⟩; have X20 := KeepX.call (B := W.heap.size) (r := w.heap.size) (W := W) (by repeat (first | with_reducible assumption | with_reducible refine KeepX.setR ?_ _ _ | with_reducible refine KeepX.alloc ?_ _ | with_reducible refine KeepX.drew ?_)) hb20; have K20 := Keeps.call (B := W.heap.size) (W := W) (by repeat (first | with_reducible assumption | with_reducible refine Keeps.alloc ?_ _ | with_reducible refine Keeps.drew ?_)) hb20; obtain ⟨rr0, rr1, rr2, rr3, rr4, gg0, gg1, gg2, gg3, gg4, zz⟩ := RB.out.later (Keeps.below K20)))
  all_goals
    go_wp2_with fail
    refine bodyPost_ret (by simp [results, Try.results20, go_sem, *]; try rfl) rfl ?_
    refine ⟨rfl, ?_⟩
    have b20 := BW.out.trans (K20.below.mono BW.out.size)
    repeat (first | with_reducible assumption | with_reducible refine below_setR ?_ _ _ | with_reducible refine Below.drew ?_)
set_option maxRecDepth 100000 in
set_option maxHeartbeats 8000000 in
theorem upto_neg (b off c n q d : Nat) (p x s1 s0 m : Int) (w : World) (hn : n ≤ 17592186044416) (hd : n = d + (q + 1)) (lt : b < w.heap.size) (L : World → Nat → Prop) (p0 : p < 0) (p1 : -100000000 ≤ p)
    (LL : ∀ w' h w'', L w' h → Below w'.heap.size w' w'' → L w'' h) (L0 : ∀ w' h, L w' h → h < w'.heap.size ∧ w'.cell? ⟨h, d, none⟩ = some (.int .i64 x))
    (kc : ∀ w', Below w.heap.size w w' → CalcN 35 #[.slice (some ⟨b, off, none⟩) n c] w' (.int .i64 0))
    (ks : ∀ w', Below w.heap.size w w' → Calls Try.prog 36 #[.slice (some ⟨b, off, none⟩) n c] w' fun e w'' => ∃ h cap, e = .returned (.slice (some ⟨h, 0, none⟩) n cap) ∧ L w'' h ∧ w'.heap.size ≤ h ∧ n ≤ cap ∧ Below w'.heap.size w' w'')
    (kr : ∀ w', Calls Try.prog 29 #[.int .i64 n, .int .i64 (-p)] w' fun e w'' => e = .returned (.int .i64 ((q : Int) + 1)) ∧ Below w'.heap.size w' w'')
    (ku : ∀ g c2 w', L w' g → Calls Try.prog 37 #[.slice (some ⟨g, d, none⟩) (q + 1) c2] w' fun e w'' => e = .returned (.agg #[.int .i64 s1, .int .u64 s0]) ∧ Below w'.heap.size w' w'')
    (km : ∀ w', Calls Try.prog 38 #[.agg #[.int .i64 s1, .int .u64 s0], .int .i64 ((q : Int) + 1)] w' fun e w'' => e = .returned (.int .i64 m) ∧ Below w'.heap.size w' w'') :
    Calls Try.prog 20 #[.slice (some ⟨b, off, none⟩) n c, .int .i64 p] w fun e w' => e = .returned (.tuple #[.agg #[.int .i64 ((q : Int) + 1), .int .i64 s1, .int .u64 s0, .int .i64 m, .int .i64 x], .int .i64 0]) ∧ Below w.heap.size w w' := by
  have KS := hide ks
  have KU := hide ku
  have HL := hide LL
  have HC := hide L0
  have g1 : ¬ 100000000 < p := by omega
  have g2 : ¬ p < -100000000 := by omega
  have g3 : (p == 0) = false := by simp; omega
  have g4 : 0 < n := by omega
  have g5 : ((n : Int) == 0) = false := by simp; omega
  have g6 : (0 : Int) < (n : Int) := by omega
  have gp : decide (0 < p) = false := decide_eq_false (by omega)
  have gw : IntKind.i64.wrap (-p) = -p := by rw [IntKind.wrap_i64]; omega
  have gd : IntKind.i64.wrap ((n : Int) - ((q : Int) + 1)) = (d : Int) := by rw [IntKind.wrap_i64]; omega
  have gd2 : (n : Int) - ((q : Int) + 1) = (d : Int) := by omega
  have DD := hide hd
  clear ku LL L0 hd
  go_enter Try.func20, Try.ntmps20
  go_wp2_with fail
  refine (kc _ (by go_grown)).mono ?_
  rintro e w1 ⟨rfl, rfl⟩
  clear kc
  clear ks
  go_wp2_with fail
  refine (KS.out _ (by go_grown)).mono ?_
  clear KS
  rintro e w2 ⟨h, cap, rfl, H, hh, hc, hb⟩
  have R1 := (Box5.made (w := w)).later hb
  have B1 : Below w.heap.size w w2 := Below.trans (by go_grown) (hb.mono (by simp))
  have nh : h ≠ w.heap.size := by have := hh; simp at this; omega
  clear hb
  have HH1 := hide H
  clear H
  go_wp2_with fail
  refine (kr _).mono ?_
  clear kr
  rintro e w2b ⟨rfl, hr⟩
  have R2 := R1.later hr
  have B2 := B1.trans (hr.mono B1.size)
  have HH := hide (HL.out _ _ _ HH1.out hr)
  clear hr R1 B1 HH1
  have sl : ∀ v, (Instr.slice 29 (.slice (some ⟨h, 0, none⟩) n cap) (some (.int .i64 (d : Int))) none none).run Try.prog v = .ok (.slice (some ⟨h, d, none⟩) (q + 1) (cap - d)) v := fun v => by
    have e := DD.out
    have := ints_from h n cap d (by omega) hc (by omega) v
    rw [show n - d = q + 1 by omega] at this
    exact this
  obtain ⟨hw4, l0⟩ := HC.out _ _ HH.out
  go_wp2_with fail
  clear sl l0 hw4
  refine (KU.out h (cap - d) w2b HH.out).mono ?_
  clear KU
  rintro e w3 ⟨rfl, h3⟩
  have B3 := B2.trans (h3.mono B2.size)
  have y3 := h3.size
  go_wp2_with fail
  refine abs_wp (fun W => W.cell? ⟨w3.heap.size, 0, none⟩ = some (.int .i64 s1) ∧ W.cell? ⟨w3.heap.size, 1, none⟩ = some (.int .u64 s0) ∧ w3.heap.size < W.heap.size ∧ Below w3.heap.size w3 W) ?_ ?_
  · exact ⟨by simp [go_sem], by simp [go_sem], by simp, by go_grown⟩
  rintro W ⟨c0, c1, zW, hW⟩
  have BW := hide (B3.trans (hW.mono B3.size))
  have RB := hide (R2.later (h3.trans (hW.mono h3.size)))
  have nz1 : w3.heap.size ≠ w.heap.size := by have := R2.lt; have := h3.size; omega
  have X0 := KeepX.start (r := w.heap.size) (W := W)
  have X1 := X0.drew
  have K0 := Keeps.start (Nat.le_refl W.heap.size)
  have K1 := K0.drew
  clear hW h3 B3 B2 R2 HH y3
  go_region_held3 (fun w' => w'.cell? ⟨w3.heap.size, 0, none⟩ = some (.int .i64 s1) ∧ w'.cell? ⟨w3.heap.size, 1, none⟩ = some (.int .u64 s0) ∧ KeepX W.heap.size w.heap.size W w')
    ((refine (fun K => ⟨(KeepX.cell K _ _ zW nz1).trans c0, (KeepX.cell K _ _ zW nz1).trans c1, K⟩) (?_ : KeepX W.heap.size w.heap.size W _); (repeat (first | with_reducible assumption | with_reducible refine KeepX.setR ?_ _ _ | with_reducible refine KeepX.alloc ?_ _ | with_reducible refine KeepX.drew ?_))))
    (first
    | (go_at_call 38; (with_reducible refine (km _).mono ?_); rintro e v20 ⟨rfl, hb20⟩; have X20 := KeepX.call (B := W.heap.size) (r := w.heap.size) (W := W) (by repeat (first | with_reducible assumption | with_reducible refine KeepX.setR ?_ _ _ | with_reducible refine KeepX.alloc ?_ _ | with_reducible refine KeepX.drew ?_)) hb20; have K20 := Keeps.call (B := W.heap.size) (W := W) (by repeat (first | with_reducible assumption | with_reducible refine Keeps.alloc ?_ _ | with_reducible refine Keeps.drew ?_)) hb20; obtain ⟨rr0, rr1, rr2, rr3, rr4, gg0, gg1, gg2, gg3, gg4, zz⟩ := RB.out.later (Keeps.below K20)))
  all_goals
    go_wp2_with fail
    refine bodyPost_ret (by simp [results, Try.results20, go_sem, *]; try rfl) rfl ?_
    refine ⟨rfl, ?_⟩
    have b20 := BW.out.trans (K20.below.mono BW.out.size)
    repeat (first | with_reducible assumption | with_reducible refine below_setR ?_ _ _ | with_reducible refine Below.drew ?_)
end Go.Proofs.Ytebiddmadmmfpaa
/- timer: Upto, whole. -/
namespace Go.Proofs.Ytebiddmadmmfpaa
set_option linter.unusedVariables false
set_option linter.unusedSimpArgs false
open Go.RowKit W T9
/-- What Upto says: its error, how many, which, the edge. -/
def uptoE (xs : List Int) (p : Int) : Int := if fineB xs then (if p = 0 ∨ 100000000 < p ∨ p < -100000000 then 91 else if xs.length = 0 then 90 else 0) else 93
def upP (p : Int) : Int := if 0 < p then p else -p
def upR (xs : List Int) (p : Int) : Nat := (rnk xs.length (upP p)).toNat
def upPart (xs : List Int) (p : Int) : List Int := if 0 < p then (srt xs).take (upR xs p) else (srt xs).drop (xs.length - upR xs p)
def upEdge (xs : List Int) (p : Int) : Int := if 0 < p then (srt xs).getD (upR xs p - 1) 0 else (srt xs).getD (xs.length - upR xs p) 0
abbrev zeroSh : Value := .agg #[.int .i64 0, .int .i64 0, .int .u64 0, .int .i64 0, .int .i64 0]
abbrev shareV (n s m e : Int) : Value := .agg #[.int .i64 n, .int .i64 (hi s), .int .u64 (lo s), .int .i64 m, .int .i64 e]
def uptoN (xs : List Int) (p : Int) : Int := if uptoE xs p = 0 then (upR xs p : Int) else 0
def uptoS (xs : List Int) (p : Int) : Int := if uptoE xs p = 0 then (upPart xs p).sum else 0
def uptoM (xs : List Int) (p : Int) : Int := if uptoE xs p = 0 then (upPart xs p).sum / (upR xs p : Int) else 0
def uptoG (xs : List Int) (p : Int) : Int := if uptoE xs p = 0 then upEdge xs p else 0
abbrev uptoV (xs : List Int) (p : Int) : Value := shareV (uptoN xs p) (uptoS xs p) (uptoM xs p) (uptoG xs p)
theorem hi_0 : hi 0 = 0 := by unfold hi; omega
theorem lo_0 : lo 0 = 0 := by unfold lo; omega
theorem uptoV_bad {xs : List Int} {p : Int} (h : uptoE xs p ≠ 0) : uptoV xs p = zeroSh := by
  unfold uptoV shareV uptoN uptoS uptoM uptoG
  simp only [if_neg h, hi_0, lo_0]
theorem uptoV_good {xs : List Int} {p : Int} (h : uptoE xs p = 0) : uptoV xs p = shareV (upR xs p) (upPart xs p).sum ((upPart xs p).sum / (upR xs p : Int)) (upEdge xs p) := by
  unfold uptoV shareV uptoN uptoS uptoM uptoG
  simp only [if_pos h]
structure UpOk (xs : List Int) (p : Int) : Prop where
  fine : fineB xs = true
  p0 : p ≠ 0
  p1 : p ≤ 100000000
  p2 : -100000000 ≤ p
  l0 : 0 < xs.length
theorem upOk_of {xs : List Int} {p : Int} (h : uptoE xs p = 0) : UpOk xs p := by
  unfold uptoE at h
  split at h
  · split at h
    · omega
    · split at h
      · omega
      · rename_i a b c; exact ⟨a, by omega, by omega, by omega, by omega⟩
  · omega
theorem UpOk.rank {xs : List Int} {p : Int} (h : UpOk xs p) : 1 ≤ upR xs p ∧ upR xs p ≤ xs.length ∧ (upR xs p : Int) = rnk xs.length (upP p) ∧ 1 ≤ upP p ∧ upP p ≤ 100000000 := by
  have a1 := h.p0; have a2 := h.p1; have a3 := h.p2; have a4 := h.l0
  have b : 1 ≤ upP p ∧ upP p ≤ 100000000 := by unfold upP; split <;> omega
  have k := rnk_le (n := (xs.length : Int)) (p := upP p) (by omega) b.1 b.2
  unfold upR; omega
theorem UpOk.partLen {xs : List Int} {p : Int} (h : UpOk xs p) : (upPart xs p).length = upR xs p := by
  have r := h.rank
  have l := srt_len xs
  unfold upPart; split
  · rw [List.length_take]; omega
  · rw [List.length_drop]; omega
theorem fine_sub {xs ys : List Int} (h : fineB ys = true) (s : ∀ x ∈ xs, x ∈ ys) : fineB xs = true := List.all_eq_true.2 fun x hx => List.all_eq_true.1 h x (s x hx)
theorem UpOk.partFine {xs : List Int} {p : Int} (h : UpOk xs p) : fineB (upPart xs p) = true := by
  refine fine_sub (fine_srt h.fine) fun x hx => ?_
  unfold upPart at hx; split at hx
  · exact List.mem_of_mem_take hx
  · exact List.mem_of_mem_drop hx
theorem lie_take {k : IntKind} {w : World} {g o : Nat} {xs : List Int} (h : LieI k w g o xs) (n : Nat) : LieI k w g o (xs.take n) :=
  ⟨fun j hj => by rw [List.length_take] at hj; rw [h.cell j (by omega), List.getElem_take], h.lt⟩
theorem lie_drop {k : IntKind} {w : World} {g o : Nat} {xs : List Int} (h : LieI k w g o xs) (n : Nat) : LieI k w g (o + n) (xs.drop n) :=
  ⟨fun j hj => by rw [List.length_drop] at hj; rw [Nat.add_assoc, h.cell (n + j) (by omega), List.getElem_drop], h.lt⟩
theorem upto_ok (b off c : Nat) (xs : List Int) (p : Int) (w : World) (hx : LieI .i64 w b off xs) (hl : xs.length ≤ 17592186044416) (h : UpOk xs p) :
    Calls Try.prog 20 #[.slice (some ⟨b, off, none⟩) xs.length c, .int .i64 p] w fun e w' => e = .returned (.tuple #[shareV (upR xs p) (upPart xs p).sum ((upPart xs p).sum / (upR xs p : Int)) (upEdge xs p), .int .i64 0]) ∧ Below w.heap.size w w' := by
  obtain ⟨r1, r2, r3, r4, r5⟩ := h.rank
  have pl := h.partLen
  have pf := h.partFine
  have sl := srt_len xs
  obtain ⟨q, hq⟩ : ∃ q, upR xs p = q + 1 := ⟨upR xs p - 1, by omega⟩
  have e1 : (upR xs p : Int) = (q : Int) + 1 := by omega
  have ml := mean_le pf (by omega)
  rw [pl] at ml
  have km := fun w' => mean_spec (upPart xs p).sum (q + 1) w' ml.1 (by rw [← hq]; exact ml.2.1) (by omega) (by omega)
  have e2 : ((q + 1 : Nat) : Int) = (q : Int) + 1 := by omega
  rw [e2] at km
  have kr := fun w' => rank_spec xs.length (upP p) w' (by have := h.l0; omega) (by omega) r4 r5
  rw [← r3, e1] at kr
  have kc := fun w' (K : Below w.heap.size w w') => check_spec (some ⟨b, off, none⟩) c xs w' (.inr ⟨b, off, rfl, hx.later K⟩) (by omega)
  rw [h.fine, show okE true 93 = 0 from rfl] at kc
  have ks := fun w' (K : Below w.heap.size w w') => sorted_spec b off c xs w' (hx.later K) h.l0 hl
  unfold SortedPost at ks
  rw [e1]
  by_cases p0 : 0 < p
  · have ep : upP p = p := if_pos p0
    have epa : upPart xs p = (srt xs).take (q + 1) := by unfold upPart; rw [if_pos p0, hq]
    have lq : q < (srt xs).length := by omega
    have ee : upEdge xs p = (srt xs)[q] := by unfold upEdge; rw [if_pos p0, hq, Nat.add_sub_cancel]; exact at_getD lq
    rw [ee]
    rw [ep] at kr
    exact Go.Proofs.Ytebiddmadmmfpaa.upto_pos b off c xs.length q (xs.length - (q + 1)) p _ _ _ _ w hl (by omega) hx.lt (fun w' h => LieI .i64 w' h 0 (srt xs)) p0 h.p1
      (fun w' g w'' H K => H.later K) (fun w' g H => ⟨H.lt, by have := H.cell q lq; simpa using this⟩) kc ks kr
      (fun g c2 w' H => by
        have k := sum_spec9 (some ⟨g, 0, none⟩) c2 (upPart xs p) w' (.inr ⟨g, 0, rfl, by rw [epa]; exact lie_take H _⟩) (by omega) pf
        rw [pl, hq] at k
        exact k) km
  · have p9 : p < 0 := by have := h.p0; omega
    have ep : upP p = -p := if_neg p0
    have epa : upPart xs p = (srt xs).drop (xs.length - (q + 1)) := by unfold upPart; rw [if_neg p0, hq]
    have lq : xs.length - (q + 1) < (srt xs).length := by omega
    have ee : upEdge xs p = (srt xs)[xs.length - (q + 1)] := by unfold upEdge; rw [if_neg p0, hq]; exact at_getD lq
    rw [ee]
    rw [ep] at kr
    exact Go.Proofs.Ytebiddmadmmfpaa.upto_neg b off c xs.length q (xs.length - (q + 1)) p _ _ _ _ w hl (by omega) hx.lt (fun w' h => LieI .i64 w' h 0 (srt xs)) p9 h.p2
      (fun w' g w'' H K => H.later K) (fun w' g H => ⟨H.lt, by have := H.cell _ lq; simpa using this⟩) kc ks kr
      (fun g c2 w' H => by
        have k := sum_spec9 (some ⟨g, xs.length - (q + 1), none⟩) c2 (upPart xs p) w' (.inr ⟨g, _, rfl, by rw [epa]; have := lie_drop H (xs.length - (q + 1)); rwa [Nat.zero_add] at this⟩) (by omega) pf
        rw [pl, hq] at k
        exact k) km
set_option maxRecDepth 100000 in
set_option maxHeartbeats 8000000 in
theorem upto_no (a : Option Addr) (c n : Nat) (p E V : Int) (w : World) (hl : n ≤ 140737488355328)
    (kc : ∀ w', Below w.heap.size w w' → CalcN 35 #[.slice a n c] w' (.int .i64 V)) (hV : V = 93 ∧ E = 93 ∨ V = 0 ∧ E = 91 ∧ (p = 0 ∨ 100000000 < p ∨ p < -100000000) ∨ V = 0 ∧ E = 90 ∧ n = 0 ∧ p ≠ 0 ∧ p ≤ 100000000 ∧ -100000000 ≤ p) :
    Calls Try.prog 20 #[.slice a n c, .int .i64 p] w fun e w' => e = .returned (.tuple #[zeroSh, .int .i64 E]) ∧ Below w.heap.size w w' := by
  rcases hV with ⟨rfl, rfl⟩ | ⟨rfl, rfl, h⟩ | ⟨rfl, rfl, rfl, h1, h2, h3⟩
  · go_enter Try.func20, Try.ntmps20
    go_wp2_with fail
    refine (kc _ (by go_grown)).mono ?_
    rintro e w1 ⟨rfl, rfl⟩
    clear kc
    go_wp2_with fail
    refine bodyPost_ret (by simp [results, Try.results20, go_sem]; try rfl) rfl ?_
    exact ⟨rfl, by go_grown⟩
  · rcases h with h | h | h
    · subst h
      go_enter Try.func20, Try.ntmps20
      go_wp2_with fail
      refine (kc _ (by go_grown)).mono ?_
      rintro e w1 ⟨rfl, rfl⟩
      clear kc
      go_wp2_with fail
      refine bodyPost_ret (by simp [results, Try.results20, go_sem]; try rfl) rfl ?_
      exact ⟨rfl, by go_grown⟩
    · have g3 : (p == 0) = false := by simp; omega
      go_enter Try.func20, Try.ntmps20
      go_wp2_with fail
      refine (kc _ (by go_grown)).mono ?_
      rintro e w1 ⟨rfl, rfl⟩
      clear kc
      go_wp2_with fail
      refine bodyPost_ret (by simp [results, Try.results20, go_sem]; try rfl) rfl ?_
      exact ⟨rfl, by go_grown⟩
    · have g3 : (p == 0) = false := by simp; omega
      have g1 : ¬ 100000000 < p := by omega
      go_enter Try.func20, Try.ntmps20
      go_wp2_with fail
      refine (kc _ (by go_grown)).mono ?_
      rintro e w1 ⟨rfl, rfl⟩
      clear kc
      go_wp2_with fail
      refine bodyPost_ret (by simp [results, Try.results20, go_sem]; try rfl) rfl ?_
      exact ⟨rfl, by go_grown⟩
  · have g3 : (p == 0) = false := by simpa using h1
    have g1 : ¬ 100000000 < p := by omega
    have g2 : ¬ p < -100000000 := by omega
    clear h1
    go_enter Try.func20, Try.ntmps20
    go_wp2_with fail
    refine (kc _ (by go_grown)).mono ?_
    rintro e w1 ⟨rfl, rfl⟩
    clear kc
    go_wp2_with fail
    refine bodyPost_ret (by simp [results, Try.results20, go_sem]; try rfl) rfl ?_
    exact ⟨rfl, by go_grown⟩
theorem upto_spec (a : Option Addr) (c : Nat) (xs : List Int) (p : Int) (w : World) (hx : IsInts .i64 w a xs) (hl : xs.length ≤ 17592186044416) :
    Calls Try.prog 20 #[.slice a xs.length c, .int .i64 p] w fun e w' => e = .returned (.tuple #[uptoV xs p, .int .i64 (uptoE xs p)]) ∧ Below w.heap.size w w' := by
  by_cases z : uptoE xs p = 0
  · have h := upOk_of z
    rw [uptoV_good z, z]
    have l0 := h.l0
    obtain ⟨g, o, rfl, la⟩ := hx.resolve_left (fun e => by rw [e] at l0; simp at l0)
    exact upto_ok g o c xs p w la hl h
  · rw [uptoV_bad z]
    refine upto_no a c xs.length p (uptoE xs p) (okE (fineB xs) 93) w (by omega) (fun w' K => check_spec a c xs w' (hx.later K) (by omega)) ?_
    unfold uptoE at *
    rcases hf : fineB xs with _ | _
    · exact .inl ⟨rfl, rfl⟩
    · simp only [hf, if_true] at *
      by_cases h : p = 0 ∨ 100000000 < p ∨ p < -100000000
      · exact .inr (.inl ⟨rfl, if_pos h, h⟩)
      · rw [if_neg h] at z ⊢
        by_cases n : xs.length = 0
        · exact .inr (.inr ⟨rfl, if_pos n, n, by omega, by omega, by omega⟩)
        · rw [if_neg n] at z; exact absurd rfl z
end Go.Proofs.Ytebiddmadmmfpaa
/- timer: the reference's Sorted, sum. -/
namespace Go.Proofs.Ytebiddmadmmfpaa
set_option linter.unusedVariables false
set_option linter.unusedSimpArgs false
open Go.RowKit W T9
/-- A list of numbers that is answered. -/
def IntsPost (a0 : Option Addr) (xs : List Int) (w : World) (e : Ending) (w' : World) : Prop := ∃ a c, e = .returned (.slice a xs.length c) ∧ IsInts .i64 w' a xs ∧ xs.length ≤ c ∧ Below w.heap.size w w' ∧ (a = a0 ∨ ∀ x, a = some x → w.heap.size ≤ x.block)
theorem ints_fromA (g o n cap d : Nat) (hd : d < n) (hc : n ≤ cap) (h63 : n ≤ 9223372036854775807) (v : World) : (Instr.slice 29 (.slice (some ⟨g, o, none⟩) n cap) (some (.int .i64 (d : Int))) none none).run Try.prog v = .ok (.slice (some ⟨g, o + d, none⟩) (n - d) (cap - d)) v := by
  rw [run_slice_l (P := Try.prog) (w := v) 29 (some ⟨g, o, none⟩) n cap (by kernel_rfl) .i64 (d : Int) (by omega) (by omega), size_i64u]
  have : ¬ cap = d := by omega
  simp [Result.andThen, sliced, Addr.add, this]
  try (intro h; omega)
set_option maxRecDepth 100000 in
set_option maxHeartbeats 8000000 in
theorem rsorted_spec : ∀ (N : Nat) (a : Option Addr) (c : Nat) (xs : List Int) (w : World), xs.length ≤ N → IsInts .i64 w a xs → xs.length ≤ c → xs.length * 8 ≤ 140737488355328 →
    Calls Try.prog 42 #[.slice a xs.length c] w (IntsPost a (srt xs) w) := by
  intro N
  induction N using Nat.strongRecOn with
  | ind N ih =>
    intro a c xs w hN hx hc hl
    by_cases s : xs.length < 2
    · rw [srt_small s]
      have F : Hid (IntsPost a xs w (.returned (.slice a xs.length c)) w) := ⟨a, c, rfl, hx, hc, Below.refl _ _, .inl rfl⟩
      obtain ⟨n, hn⟩ : ∃ n, n = xs.length := ⟨_, rfl⟩
      rw [← hn] at s F ⊢
      have s2 : (n : Int) < 2 := by omega
      clear ih hx hN hc hl hn
      go_enter Try.func42, Try.ntmps42
      go_wp2_with fail
      go_returns
      exact F.out
    · obtain ⟨g, o, rfl, la⟩ := hx.resolve_left (fun h => by rw [h] at s; simp at s)
      obtain ⟨k, hk⟩ : ∃ k, k = xs.length / 2 := ⟨_, rfl⟩
      have l1 : (xs.take k).length = k := by rw [List.length_take]; omega
      have l2 : (xs.drop k).length = xs.length - k := by rw [List.length_drop]
      have i1 := fun (w' : World) (K : Keeps w.heap.size w w') => ih (xs.length - 1) (by omega) (some ⟨g, o, none⟩) c (xs.take k) w' (by omega) (.inr ⟨g, o, rfl, lie_take (la.later K.below) k⟩) (by omega) (by omega)
      have i2 := fun (w' : World) (K : Keeps w.heap.size w w') => ih (xs.length - 1) (by omega) (some ⟨g, o + k, none⟩) (c - k) (xs.drop k) w' (by omega) (.inr ⟨g, o + k, rfl, lie_drop (la.later K.below) k⟩) (by omega) (by omega)
      rw [l1] at i1
      rw [l2] at i2
      have sm := srt_halves xs k
      have s1 := srt_len (xs.take k)
      have s2 := srt_len (xs.drop k)
      rw [l1] at s1
      rw [l2] at s2
      have km := fun (a1 a2 : Option Addr) (c1 c2 : Nat) (w' : World) (h1 : IsInts .i64 w' a1 (srt (xs.take k))) (h2 : IsInts .i64 w' a2 (srt (xs.drop k))) => rmerge_spec a1 a2 c1 c2 _ _ w' h1 h2 (by omega)
      rw [sm, s1, s2] at km
      unfold IntsPost at i1 i2
      rw [s1] at i1
      rw [s2] at i2
      have sl1 := ints_upto (some ⟨g, o, none⟩) xs.length c k (by omega) hc
      have sl2 := ints_fromA g o xs.length c k (by omega) hc (by omega)
      have ek : (xs.length : Int) / 2 = (k : Int) := by omega
      have FIN : Hid (∀ v w0 w', OwnI w0 w' v (srt xs) → Below w.heap.size w w' → w.heap.size ≤ w0.heap.size → IntsPost (some ⟨g, o, none⟩) (srt xs) w (.returned v) w') := by
        intro v w0 w' O B Z
        obtain ⟨a', c', rfl, h1, _, h2, h3⟩ := O.is
        exact ⟨a', c', rfl, h2, h1, B, .inr fun x e => Nat.le_trans Z (h3 x e)⟩
      generalize srt (xs.take k) = ys at *
      generalize srt (xs.drop k) = zs at *
      obtain ⟨M, hM⟩ : ∃ M, M = srt xs := ⟨_, rfl⟩
      rw [← hM] at km FIN ⊢
      obtain ⟨n, hn⟩ : ∃ n, n = xs.length := ⟨_, rfl⟩
      rw [← hn] at s i2 km sl1 sl2 ek ⊢
      have I1 := hide i1
      have I2 := hide i2
      have KM := hide km
      have lt2 : ¬ (n : Int) < 2 := by omega
      have k0 : (0 : Int) ≤ (k : Int) := by omega
      have c0 : ¬ c = 0 := by omega
      have ck : ¬ c = k := by omega
      have kc : (k : Int) ≤ (c : Int) := by omega
      have kn : (k : Int) ≤ (n : Int) := by omega
      have et : Int.tdiv (n : Int) 2 = (k : Int) := by rw [Int.tdiv_eq_ediv_of_nonneg (by omega)]; exact ek
      have ew : IntKind.i64.wrap (k : Int) = (k : Int) := by rw [IntKind.wrap_i64]; omega
      have az := addz
      have ap := fun (x y z : Nat) => Go.WideShapes.add_plain x y z
      clear ih hx hc hl la hk l1 l2 i1 i2 sm s1 s2 km hM hn s hN
      have K0 := Keeps.start (Nat.le_refl w.heap.size)
      have K1 := K0.drew
      go_enter Try.func42, Try.ntmps42
      go_wp2_with fail
      go_region_held3 (fun w' => Keeps w.heap.size w w')
        ((refine (?_ : Keeps w.heap.size w _); (repeat (first | with_reducible assumption | with_reducible refine Keeps.alloc ?_ _ | with_reducible refine Keeps.drew ?_))))
        (first
        | (go_at_call 42; (with_reducible refine (I1.out _ (by repeat (first | with_reducible assumption | with_reducible refine Keeps.alloc ?_ _ | with_reducible refine Keeps.drew ?_))).mono ?_); rintro e v20 ⟨a1, c1, rfl, J1, jc1, hb20, ja1⟩; have K20 := Keeps.call (B := w.heap.size) (W := w) (by repeat (first | with_reducible assumption | with_reducible refine Keeps.alloc ?_ _ | with_reducible refine Keeps.drew ?_)) hb20)
        | (go_at_call 42; (with_reducible refine (I2.out _ (by repeat (first | with_reducible assumption | with_reducible refine Keeps.alloc ?_ _ | with_reducible refine Keeps.drew ?_))).mono ?_); rintro e v21 ⟨a2, c2, rfl, J2, jc2, hb21, ja2⟩; have K21 := Keeps.call (B := w.heap.size) (W := w) (by repeat (first | with_reducible assumption | with_reducible refine Keeps.alloc ?_ _ | with_reducible refine Keeps.drew ?_)) hb21)
        | (go_at_call 17; (with_reducible refine (KM.out _ _ _ _ _ (J1.later (by first | with_reducible assumption | exact Below.refl _ _)) (J2.later (by first | with_reducible assumption | exact Below.refl _ _))).mono ?_); rintro e v22 ⟨v, rfl, O22⟩; have K22 := Keeps.call (B := w.heap.size) (W := w) (by repeat (first | with_reducible assumption | with_reducible refine Keeps.alloc ?_ _ | with_reducible refine Keeps.drew ?_)) O22.below))
      all_goals
        go_wp2_with fail
        go_returns
        exact FIN.out v _ _ O22 K22.below (by have := K20.size; have := K21.size; omega)
/-- The state of the reference's sum. -/
structure QSum (w wr : World) (s : Bool) (p : Option Addr) (c : Nat) (lr : List Int) (z : Int) : Prop where
  n : NBox wr (w.heap.size + 1) s (.slice p lr.length c)
  r : NBox wr w.heap.size false (.slice none 0 0)
  num : IsNum wr s p c lr z
  below : Below w.heap.size w wr
theorem NBox.put {w : World} {r : Nat} {b : Bool} {v : Value} (h : NBox w r b v) (x : Bool) (y : Value) : NBox ((w.setCell ⟨r, 0, none⟩ (.bool x)).setCell ⟨r, 1, none⟩ y) r x y := by
  obtain ⟨q0, q1, q2, q3, q4, q5⟩ := h
  refine ⟨?_, ?_, ?_, ?_, ?_, ?_⟩
  · simp [go_sem, q0, q5]
  · refine World.cell?_setCell_same' _ _ _ ?_; simp [go_sem, q1]
  · simp [go_sem, q2]
  · simp [go_sem, q3]
  · rw [shape_set, shape_set]; exact q4
  · simpa [World.setCell] using q5
theorem QSum.next {w wr v : World} {s s2 : Bool} {p p2 : Option Addr} {c c2 : Nat} {lr l2 : List Int} {z y : Int} (h : QSum w wr s p c lr z) (k : Below wr.heap.size wr v) (N : IsNum v s2 p2 c2 l2 y) :
    QSum w ((v.setCell ⟨w.heap.size + 1, 0, none⟩ (.bool s2)).setCell ⟨w.heap.size + 1, 1, none⟩ (.slice p2 l2.length c2)) s2 p2 c2 l2 y := by
  have nb := h.n.later k
  have bl := h.below.trans (k.mono h.below.size)
  have ne : (64 : TypeId) ≠ 107 := by decide
  exact ⟨nb.put _ _, ((h.r.later k).ne (by omega) _ _).ne (by omega) _ _, (N.set nb.sh ne _).set (by rw [shape_set]; exact nb.sh) ne _, (bl.setCell (by show w.heap.size ≤ w.heap.size + 1; omega) _).setCell (by show w.heap.size ≤ w.heap.size + 1; omega) _⟩
theorem sum_fits {xs : List Int} (hf : fineB xs = true) (hl : xs.length ≤ 17592186044416) (k : Nat) : Fits (xs.take k).sum := by
  have b := fine_sum hf k
  exact ⟨by omega, by omega⟩
theorem NBox.made9 (w : World) {n : Nat} (h : n = w.heap.size) : NBox (w.alloc (.cells #[.bool false, .slice none 0 0] 64)) n false (.slice none 0 0) := by
  subst h
  refine ⟨?_, ?_, ?_, ?_, ?_, ?_⟩
  · simp [go_sem]
  · simp [go_sem]
  · simp [go_sem]
  · simp [go_sem]
  · exact shape_top w _ _ _ rfl
  · simp
set_option maxRecDepth 100000 in
set_option maxHeartbeats 8000000 in
theorem rsum9_spec (a : Option Addr) (cap : Nat) (xs : List Int) (w : World) (hx : IsInts .i64 w a xs) (hl : xs.length ≤ 17592186044416) (hf : fineB xs = true) :
    Calls Try.prog 43 #[.slice a xs.length cap] w (NumPost w xs.sum) := by
  have HX := hide hx
  have HF := hide hf
  obtain ⟨len, hlen⟩ : ∃ len, len = xs.length := ⟨_, rfl⟩
  rw [← hlen] at hl ⊢
  have LEN := hide hlen
  clear hx hf hlen
  go_enter Try.func43, Try.ntmps43
  go_wp2_with fail
  have Q0 : Hid (QSum w ((w.alloc (.cells #[.bool false, .slice none 0 0] 64)).alloc (.cells #[.bool false, .slice none 0 0] 64)) false none 0 [] (xs.take 0).sum) := by
    refine ⟨?_, ?_, isNum_zero _, by go_grown⟩
    · exact NBox.made9 _ (by simp)
    · exact (NBox.made9 w rfl).later ((Below.refl _ _).alloc (Nat.le_refl _) _)
  go_loopw [4] (fun i wr => ∃ (k : Nat) (s : Bool) (p : Option Addr) (c : Nat) (lr : List Int), k ≤ len ∧ i = .int .i64 k ∧ Hid (QSum w wr s p c lr (xs.take k).sum)) (fun i _ => len - (intOf i).toNat)
  case atStart => exact ⟨0, false, none, 0, [], by omega, rfl, Q0⟩
  case round =>
    obtain ⟨k, s, p, c, lr, hk, rfl, I⟩ := hrel
    clear Q0
    by_cases hlt : k < len
    · have k1 : k < xs.length := by have := LEN.out; omega
      obtain ⟨g, o, ea, la⟩ := HX.out.resolve_left (fun h => by rw [h] at k1; simp at k1)
      subst ea
      have e1 := (I.out.below.cell (p := ⟨g, o + k, none⟩) la.lt).trans (la.cell k k1)
      have st := sum_take k1
      have bx := fine_mem HF.out (List.getElem_mem k1)
      have f1 := sum_fits HF.out (by have := LEN.out; omega) k
      obtain ⟨x, hxk⟩ : ∃ x, x = xs[k] := ⟨_, rfl⟩
      rw [← hxk] at e1 st bx
      have hx0 : IsHi x := ⟨by omega, by omega⟩
      have kf := rint_spec x hx0
      have L1 := I.out.num.few 9 (few_fits f1)
      have KA := fun (sx : Bool) (px : Option Addr) (cx : Nat) (lx : List Int) (w' : World) (K : Keeps wr.heap.size wr w') (N : IsNum w' sx px cx lx x) => addN_spec s sx p px c cx lr lx _ _ w' (I.out.num.later K.below) N (by omega) (by have := N.few 9 (few_fits (fits_small hx0)); omega)
      rw [← st] at KA
      have gw : g < wr.heap.size := Nat.lt_of_lt_of_le la.lt I.out.below.size
      clear hxk st hx0 la k1 f1 bx
      obtain ⟨q0, q1, q2, q3, q4, q5⟩ := I.out.n
      have K0 := Keeps.start (Nat.le_refl wr.heap.size)
      have K1 := K0.drew
      obtain ⟨wo, hwo⟩ : ∃ wo : World, wo = wr := ⟨_, rfl⟩
      clear hwo
      have hlt2 : (k : Int) < (len : Int) := by omega
      go_wp2_with fail
      go_region_with (first
        | (go_at_call 31; (with_reducible refine (kf _).mono ?_); rintro e v20 ⟨s1, p1, c1, l1, rfl, N1, hb20⟩; have K20 := Keeps.call (B := wr.heap.size) (W := wr) (by repeat (first | assumption | refine Keeps.alloc ?_ _ | refine Keeps.drew ?_ | refine Keeps.setCell ?_ (by first | (simp; done) | omega | (simp; omega)) _)) hb20; have n0 := K20.cell q0 q5; have n1 := K20.cell q1 q5)
        | (go_at_call 46; (with_reducible refine (KA _ _ _ _ _ (by repeat (first | assumption | refine Keeps.alloc ?_ _ | refine Keeps.drew ?_ | refine Keeps.setCell ?_ (by first | (simp; done) | omega | (simp; omega)) _)) (N1.later (by repeat (first | exact Below.refl _ _ | assumption | refine Below.setCell ?_ (by first | (simp; done) | omega | (simp; omega)) _ | refine Below.drew ?_ | refine below_drewN ?_ _ | refine Below.alloc ?_ (by first | (simp; done) | omega | (simp; omega)) _)))).mono ?_); rintro e v21 ⟨s2, p2, c2, l2, rfl, N2, hb21⟩; have K21 := Keeps.call (B := wr.heap.size) (W := wr) (by repeat (first | assumption | refine Keeps.alloc ?_ _ | refine Keeps.drew ?_ | refine Keeps.setCell ?_ (by first | (simp; done) | omega | (simp; omega)) _)) hb21; have m0 := K21.cell q0 q5; have m1 := K21.cell q1 q5; have m2 := K21.free q2 q5; have m3 := K21.free q3 q5; have m5 : w.heap.size + 1 < v21.heap.size := (by have := K21.size; omega)))
      all_goals
        have F := hide (I.out.next K21.below N2)
        clear K20 K21 N1 N2 KA kf I
        go_wp2_with fail
        go_roundw
        case rel => exact ⟨k + 1, _, _, _, _, by omega, by go_num, F.out⟩
        case measure => simp [intOf]; omega
    · obtain rfl : k = len := by omega
      have num := I.out.num
      rw [show xs.take k = xs from by rw [LEN.out]; exact List.take_length] at num
      have NM := hide num
      have NB := hide I.out.n
      obtain ⟨q0, q1, _, _, q4, q5⟩ := I.out.n
      obtain ⟨r0, r1, r2, r3, r4, r5⟩ := I.out.r
      have BI := hide I.out.below
      have ne : (64 : TypeId) ≠ 107 := by decide
      have FIN := hide (num_end (w := w) NM.out BI.out r4 (Nat.le_refl _) (.bool s) (.slice p lr.length c))
      clear num I q4 r4 ne
      go_wp2_with fail
      refine bodyPost_ret (by simp [results, Try.results43, go_sem, q0, q1, r0, r1, r2, r3, r5]; try rfl) rfl ?_
      exact FIN.out
end Go.Proofs.Ytebiddmadmmfpaa
/- timer: bounds, bins: the plain mathematics; a row of counters of one's own. -/
namespace Go.Proofs.Ytebiddmadmmfpaa
set_option linter.unusedVariables false
set_option linter.unusedSimpArgs false
open Go.RowKit W T9
/-- May they be bounds? -/
def upB (bs : List Int) : Bool := decide (1 ≤ bs.length ∧ bs.length ≤ 32) && (bs.all (fun x => decide (0 ≤ x)) && decide (bs.Pairwise (· < ·)))
theorem up_iff (bs : List Int) : upB bs = true ↔ (1 ≤ bs.length ∧ bs.length ≤ 32) ∧ (∀ x ∈ bs, 0 ≤ x) ∧ bs.Pairwise (· < ·) := by
  simp [upB]
theorem pair_of {bs : List Int} (h : ∀ (j : Nat) (h : j + 1 < bs.length), bs[j] < bs[j + 1]) : bs.Pairwise (· < ·) := by
  rw [List.pairwise_iff_getElem]
  have aux : ∀ d i (h1 : i + d + 1 < bs.length), bs[i] < bs[i + d + 1] := by
    intro d
    induction d with
    | zero => intro i h1; exact h i h1
    | succ d ih =>
      intro i h1
      have a := ih i (by omega)
      have b := h (i + d + 1) (by omega)
      have e : i + (d + 1) + 1 = i + d + 1 + 1 := by omega
      simp only [e]
      omega
  intro i j hi hj lt
  obtain ⟨d, rfl⟩ : ∃ d, j = i + d + 1 := ⟨j - i - 1, by omega⟩
  exact aux d i hj
theorem up_of {bs : List Int} (h1 : 1 ≤ bs.length) (h2 : bs.length ≤ 32) (h3 : ∀ x : Int, bs[0]? = some x → 0 ≤ x) (h4 : ∀ (j : Nat) (h : j + 1 < bs.length), bs[j] < bs[j + 1]) : upB bs = true := by
  have p := pair_of h4
  refine (up_iff bs).2 ⟨⟨h1, h2⟩, fun x hx => ?_, p⟩
  obtain ⟨j, hj, rfl⟩ := List.getElem_of_mem hx
  have z := h3 bs[0] (by rw [List.getElem?_eq_getElem])
  rcases Nat.eq_zero_or_pos j with rfl | q
  · exact z
  · have := List.pairwise_iff_getElem.1 p 0 j (by omega) hj q; omega
theorem up_no {bs : List Int} (h : ¬ ((1 ≤ bs.length ∧ bs.length ≤ 32) ∧ (∀ x ∈ bs, 0 ≤ x) ∧ bs.Pairwise (· < ·))) : upB bs = false := by
  rcases q : upB bs with _ | _
  · rfl
  · exact absurd ((up_iff bs).1 q) h
theorem up_fall {bs : List Int} {j : Nat} (h : j + 1 < bs.length) (n : ¬ bs[j] < bs[j + 1]) : upB bs = false :=
  up_no fun ⟨_, _, p⟩ => n (List.pairwise_iff_getElem.1 p j (j + 1) (by omega) h (by omega))
theorem up_neg {bs : List Int} {j : Nat} (h : j < bs.length) (n : bs[j] < 0) : upB bs = false :=
  up_no fun ⟨_, p, _⟩ => by have := p bs[j] (List.getElem_mem h); omega
theorem up_pair {bs : List Int} (h : upB bs = true) : bs.Pairwise (· < ·) := ((up_iff bs).1 h).2.2
theorem takeWhile_all {p : Int → Bool} : ∀ {l : List Int}, (∀ x ∈ l, p x = true) → l.takeWhile p = l
  | [], _ => rfl
  | y :: r, h => by rw [List.takeWhile_cons, h y (by simp), takeWhile_all fun x hx => h x (by simp [hx])]; rfl
/-- The bin of a sample. -/
def binK (bs : List Int) (v : Int) : Nat := (bs.takeWhile fun b => decide (b ≤ v)).length
theorem binK_le (bs : List Int) (v : Int) : binK bs v ≤ bs.length := (List.takeWhile_prefix _).length_le
theorem binK_take {bs : List Int} {i : Nat} (h : i < bs.length) (p : bs.Pairwise (· < ·)) (v : Int) : binK (bs.take (i + 1)) v = if bs[i] ≤ v then i + 1 else binK (bs.take i) v := by
  have e : bs.take (i + 1) = bs.take i ++ [bs[i]] := List.take_succ_eq_append_getElem h
  have li : (bs.take i).length = i := by rw [List.length_take]; omega
  unfold binK
  rw [e, List.takeWhile_append]
  by_cases t : bs[i] ≤ v
  · have all : (bs.take i).takeWhile (fun b => decide (b ≤ v)) = bs.take i := by
      refine takeWhile_all fun x hx => ?_
      obtain ⟨j, hj, rfl⟩ := List.getElem_of_mem hx
      rw [li] at hj
      have := List.pairwise_iff_getElem.1 p j i (by omega) h hj
      rw [List.getElem_take]
      simp only [decide_eq_true_eq]; omega
    rw [all, if_pos rfl, if_pos t, List.length_append, li]
    simp [List.takeWhile_cons, t]
  · rw [if_neg t]
    split
    · rename_i q
      have q2 : (bs.take i).takeWhile (fun b => decide (b ≤ v)) = bs.take i := (List.takeWhile_prefix _).eq_of_length q
      rw [q2]
      simp [List.takeWhile_cons, t]
    · rfl
theorem binK_at {bs : List Int} {k : Nat} {v : Int} (h : k ≤ bs.length) (a : ∀ (j : Nat) (h : j < bs.length), j < k → bs[j] ≤ v) (b : ∀ (h : k < bs.length), ¬ bs[k] ≤ v) : binK bs v = k := by
  unfold binK
  have e : bs = bs.take k ++ bs.drop k := (List.take_append_drop k bs).symm
  have li : (bs.take k).length = k := by rw [List.length_take]; omega
  have all : (bs.take k).takeWhile (fun b => decide (b ≤ v)) = bs.take k := by
    refine takeWhile_all fun x hx => ?_
    obtain ⟨j, hj, rfl⟩ := List.getElem_of_mem hx
    rw [li] at hj
    rw [List.getElem_take]
    simpa using a j (by omega) hj
  have none_ : (bs.drop k).takeWhile (fun b => decide (b ≤ v)) = [] := by
    by_cases q : k < bs.length
    · rw [List.drop_eq_getElem_cons q, List.takeWhile_cons]
      have := b q
      simp [this]
    · rw [List.drop_eq_nil_of_le (by omega)]; rfl
  rw [e, List.takeWhile_append, all, if_pos rfl, none_]
  simp; omega
/-- The counters. -/
def cnt1 (bs : List Int) (c : List Int) (v : Int) : List Int := c.set (binK bs v) (c.getD (binK bs v) 0 + 1)
def cntF (bs xs : List Int) : List Int := xs.foldl (cnt1 bs) (List.replicate (bs.length + 1) 0)
theorem cntF_take {bs xs : List Int} {k : Nat} (h : k < xs.length) : cntF bs (xs.take (k + 1)) = cnt1 bs (cntF bs (xs.take k)) xs[k] := by
  unfold cntF; rw [List.take_succ_eq_append_getElem h, List.foldl_append]; rfl
theorem cntF_len (bs xs : List Int) : (cntF bs xs).length = bs.length + 1 := by
  unfold cntF
  have aux : ∀ (ys c : List Int), (ys.foldl (cnt1 bs) c).length = c.length := by
    intro ys
    induction ys with
    | nil => intro c; rfl
    | cons y r ih => intro c; rw [List.foldl_cons, ih]; simp [cnt1]
  rw [aux]; simp
theorem cntF_bound (bs xs : List Int) : ∀ k, ∀ x ∈ cntF bs (xs.take k), 0 ≤ x ∧ x ≤ k := by
  intro k
  induction k with
  | zero => intro x hx; simp only [List.take_zero, cntF, List.foldl_nil] at hx; have := List.eq_of_mem_replicate hx; omega
  | succ k ih =>
    by_cases h : k < xs.length
    · rw [cntF_take h]
      intro x hx
      unfold cnt1 at hx
      rcases List.mem_or_eq_of_mem_set hx with q | q
      · have := ih x q; omega
      · have hb : (cntF bs (xs.take k)).length = bs.length + 1 := cntF_len _ _
        have lt : binK bs xs[k] < (cntF bs (xs.take k)).length := by rw [hb]; have := binK_le bs xs[k]; omega
        have := ih _ (List.getElem_mem lt)
        rw [List.getD_eq_getElem?_getD, List.getElem?_eq_getElem lt] at q
        simp only [Option.getD_some] at q
        omega
    · rw [List.take_of_length_le (by omega)]
      rw [List.take_of_length_le (by omega)] at ih
      intro x hx; have := ih x hx; omega
def binL (bs xs : List Int) : List Int := if fineB xs then if upB bs then cntF bs xs else [] else []
def binE (bs xs : List Int) : Int := if fineB xs then if upB bs then 0 else 92 else 93
/-- A row of counters of one's own. -/
structure Cnt (w wr : World) (L : List Int) : Prop where
  own : wr.ownsRow w.heap.size 3 1 (.slice (some ⟨w.heap.size, 0, none⟩) L.length L.length) L.length (L.map (Value.int .i64))
  below : Below w.heap.size w wr
theorem Cnt.at_ {w wr : World} {L : List Int} (h : Cnt w wr L) (k : Nat) (hk : k < L.length) : wr.cell? ⟨w.heap.size, k, none⟩ = some (.int .i64 (L.getD k 0)) ∧ wr.frozen? ⟨w.heap.size, k, none⟩ = false := by
  refine ⟨?_, h.own.frozenAt k⟩
  rw [h.own.cellAt k (by omega)]
  simp [List.getElem?_eq_getElem hk, List.getD_eq_getElem?_getD]
theorem Cnt.set {w wr : World} {L : List Int} (h : Cnt w wr L) (k : Nat) (x : Int) (q : Nat) : Cnt w ((wr.drewN q).setCell ⟨w.heap.size, k, none⟩ (.int .i64 x)) (L.set k x) := by
  have h0 : (wr.drewN q).ownsRow w.heap.size 3 1 (.slice (some ⟨w.heap.size, 0, none⟩) L.length L.length) L.length (L.map (Value.int .i64)) := h.own
  have s := h0.stored k (.int .i64 x)
  refine ⟨?_, (below_drewN h.below q).setCell (Nat.le_refl _) _⟩
  rw [List.map_set, List.length_set]; exact s.1
theorem Cnt.lt {w wr : World} {L : List Int} (h : Cnt w wr L) : w.heap.size < wr.heap.size := (h.own.lt w.heap.size rfl).2
theorem Cnt.made (w : World) (n : Nat) (hm : n ≤ maxLen) : Cnt w (w.alloc (.cells (madeCells #[.int .i64 0] n) 3)) (List.replicate n 0) := by
  have := World.ownsRow_lit (size := 1) (e := 3) w (madeCells #[.int .i64 0] n) n (Nat.le_refl _) hm (by rw [size_madeCells]; omega)
  rw [toList_madeCells_one] at this
  exact ⟨by rw [List.map_replicate, List.length_replicate]; exact this, (Below.refl _ _).alloc (Nat.le_refl _) _⟩
theorem Cnt.is {w wr : World} {L : List Int} (h : Cnt w wr L) : IsInts .i64 wr (some ⟨w.heap.size, 0, none⟩) L :=
  .inr ⟨_, 0, rfl, ⟨fun j hj => by rw [Nat.zero_add, (h.at_ j hj).1]; simp [List.getD_eq_getElem?_getD, List.getElem?_eq_getElem hj], h.lt⟩⟩
/-- What Bins answers. -/
def BinsPost (bs xs : List Int) (w : World) (e : Ending) (w' : World) : Prop :=
  ∃ a c, e = .returned (.tuple #[.slice a (binL bs xs).length c, .int .i64 (binE bs xs)]) ∧ IsInts .i64 w' a (binL bs xs) ∧ Below w.heap.size w w'
end Go.Proofs.Ytebiddmadmmfpaa
/- timer: mayBound, Bins. -/
namespace Go.Proofs.Ytebiddmadmmfpaa
set_option linter.unusedVariables false
set_option linter.unusedSimpArgs false
open Go.RowKit W T9
theorem info_int9 : (Try.prog.info? 3).map (fun i => (i.zero, i.size, i.bytes)) = some (some (.int .i64 0), 1, 8) := by kernel_rfl
set_option maxRecDepth 100000 in
set_option maxHeartbeats 4000000 in
theorem may_spec (b : Option Addr) (c : Nat) (bs : List Int) (w : World) (hb : IsInts .i64 w b bs) (hl : bs.length ≤ 140737488355328) :
    Calls Try.prog 48 #[.slice b bs.length c] w fun e w' => e = .returned (.bool (upB bs)) ∧ Below w.heap.size w w' := by
  obtain ⟨R, hR⟩ : ∃ R, R = upB bs := ⟨_, rfl⟩
  rw [← hR]
  obtain ⟨n, hn⟩ : ∃ n, n = bs.length := ⟨_, rfl⟩
  rw [← hn] at hl ⊢
  by_cases z : n = 0
  · have e : R = false := by rw [hR]; exact up_no (by omega)
    subst e z
    clear hR hn hb
    go_enter Try.func48, Try.ntmps48
    go_wp2
    go_returns
    exact ⟨rfl, Below.refl _ _⟩
  by_cases m : 32 < n
  · have e : R = false := by rw [hR]; exact up_no (by omega)
    subst e
    have z1 : ((n : Int) == 0) = false := by simp; omega
    have z2 : 0 < n := by omega
    clear hR hn hb z
    go_enter Try.func48, Try.ntmps48
    go_wp2
    go_returns
    exact ⟨rfl, Below.refl _ _⟩
  obtain ⟨g, o, rfl, la⟩ := hb.resolve_left (fun h => by rw [h] at hn; exact z hn)
  have l0 : 0 < bs.length := by omega
  have c0 := la.cell 0 l0
  rw [Nat.add_zero] at c0
  obtain ⟨x0, hx0⟩ : ∃ x0, x0 = bs[0] := ⟨_, rfl⟩
  rw [← hx0] at c0
  have z1 : ((n : Int) == 0) = false := by simp; omega
  have m1 : decide ((32 : Int) < (n : Int)) = false := decide_eq_false (by omega)
  have z2 : 0 < n := by omega
  by_cases t : x0 < 0
  · have e : R = false := by rw [hR]; exact up_neg l0 (by rw [← hx0]; exact t)
    subst e
    clear hR hn hb z la m hx0 l0
    go_enter Try.func48, Try.ntmps48
    go_wp2
    go_returns
    exact ⟨rfl, Below.refl _ _⟩
  have H := hide la
  have RR := hide hR
  have N := hide hn
  have X0 := hide (And.intro hx0 (show 0 ≤ x0 by omega))
  have t1 : decide (x0 < 0) = false := decide_eq_false t
  have e1 : IntKind.i64.wrap ((n : Int) - 1) = (n : Int) - 1 := by rw [IntKind.wrap_i64]; omega
  obtain ⟨p, hp⟩ : ∃ p, n = p + 1 := ⟨n - 1, by omega⟩
  have e2 : (n : Int) - 1 = (p : Int) := by omega
  rw [e2] at e1
  have NP := hide hp
  have m2 : n ≤ 32 := by omega
  clear hR hn hb z la m hx0 t hp
  go_enter Try.func48, Try.ntmps48
  go_wp2_with fail
  go_loopw [21] (fun i wr => ∃ k : Nat, k ≤ p ∧ i = .int .i64 k ∧ Hid (Below w.heap.size w wr) ∧ Hid (∀ (j : Nat) (h : j + 1 < bs.length), j < k → bs[j] < bs[j + 1])) (fun i _ => p - (intOf i).toNat)
  case atStart => exact ⟨0, by omega, rfl, Below.refl _ _, fun j _ h => absurd h (by omega)⟩
  case round =>
    clear c0
    obtain ⟨k, hk, rfl, bl, up⟩ := hrel
    by_cases hlt : k < p
    · have k1 : k + 1 < bs.length := by have := NP.out; have := N.out; omega
      have e5 := (H.out.later bl.out).cell k (by omega)
      have e6 := (H.out.later bl.out).cell (k + 1) k1
      obtain ⟨x, hx⟩ : ∃ x, x = bs[k] := ⟨_, rfl⟩
      obtain ⟨y, hy⟩ : ∃ y, y = bs[k + 1] := ⟨_, rfl⟩
      rw [← hx] at e5
      rw [← hy] at e6
      have w1 : IntKind.i64.wrap ((k : Int) + 1) = ((k + 1 : Nat) : Int) := by rw [IntKind.wrap_i64]; omega
      have hlt' : (k : Int) < (p : Int) := by omega
      have hlt2 : k + 1 < n := by omega
      by_cases t : y ≤ x
      · have F : Hid (R = false) := by
          show R = false
          rw [RR.out]; exact up_fall k1 (by rw [← hx, ← hy]; omega)
        have td : decide (y ≤ x) = true := decide_eq_true t
        clear hx hy k1 up RR
        go_wp2_with fail
        go_quiet (fail)
        go_wp2_with fail
        go_returns
        exact ⟨by rw [F.out]; rfl, below_drewN bl.out _⟩
      · have U : Hid (∀ (j : Nat) (h : j + 1 < bs.length), j < k + 1 → bs[j] < bs[j + 1]) := by
          intro j h hj
          by_cases q : j = k
          · subst q; rw [← hx, ← hy]; omega
          · exact up.out j h (by omega)
        have td : decide (y ≤ x) = false := decide_eq_false t
        clear hx hy up
        go_wp2_with fail
        go_quiet (fail)
        go_wp2_with fail
        go_roundw
        case rel => exact ⟨k + 1, by omega, by go_num, below_drewN bl.out _, U⟩
        case measure => simp [intOf]; omega
    · have F : Hid (R = true) := by
        show R = true
        rw [RR.out]
        have q1 := NP.out
        have q2 := N.out
        refine up_of (by omega) (by omega) (fun x hx => ?_) (fun j h => up.out j h (by omega))
        rw [List.getElem?_eq_getElem (by omega)] at hx
        injection hx with hx
        rw [← hx, ← X0.out.1]; exact X0.out.2
      obtain rfl : k = p := by omega
      clear up RR
      go_wp2
      go_returns
      exact ⟨by rw [F.out]; rfl, bl.out⟩
theorem bins_bad (a : Option Addr) (c : Nat) (xs : List Int) (b : Option Addr) (d : Nat) (bs : List Int) (w : World) (hx : IsInts .i64 w a xs) (hl : xs.length ≤ 140737488355328) (hf : fineB xs = false) :
    Calls Try.prog 22 #[.slice a xs.length c, .slice b bs.length d] w (BinsPost bs xs w) := by
  have kc := check_spec a c xs w hx hl
  rw [hf, show okE false 93 = 93 from rfl] at kc
  have F : Hid (BinsPost bs xs w (.returned (.tuple #[.slice none 0 0, .int .i64 93])) w) := by
    refine ⟨none, 0, ?_, .inl ?_, Below.refl _ _⟩ <;> simp [binL, binE, hf]
  clear hx hf
  go_enter Try.func22, Try.ntmps22
  go_wp2_with fail
  refine kc.mono ?_
  rintro e w1 ⟨rfl, rfl⟩
  clear kc
  go_wp2_with fail
  go_returns
  exact F.out
theorem bins_not (a : Option Addr) (c : Nat) (xs : List Int) (b : Option Addr) (d : Nat) (bs : List Int) (w : World) (hx : IsInts .i64 w a xs) (hl : xs.length ≤ 140737488355328) (hb : IsInts .i64 w b bs) (hl2 : bs.length ≤ 140737488355328) (hf : fineB xs = true) (hu : upB bs = false) :
    Calls Try.prog 22 #[.slice a xs.length c, .slice b bs.length d] w (BinsPost bs xs w) := by
  have kc := check_spec a c xs w hx hl
  rw [hf, show okE true 93 = 0 from rfl] at kc
  have ku := may_spec b d bs w hb hl2
  rw [hu] at ku
  have F : Hid (∀ w', Below w.heap.size w w' → BinsPost bs xs w (.returned (.tuple #[.slice none 0 0, .int .i64 92])) w') := by
    intro w' B
    refine ⟨none, 0, ?_, .inl ?_, B⟩ <;> simp [binL, binE, hf, hu]
  clear hx hf hb hu
  go_enter Try.func22, Try.ntmps22
  go_wp2_with fail
  refine kc.mono ?_
  rintro e w1 ⟨rfl, rfl⟩
  clear kc
  go_wp2_with fail
  refine ku.mono ?_
  rintro e w1 ⟨rfl, h1⟩
  clear ku
  have H1 := hide h1
  clear h1
  go_wp2_with fail
  go_returns
  exact F.out _ H1.out
set_option maxRecDepth 100000 in
set_option maxHeartbeats 8000000 in
theorem bins_good (a : Option Addr) (c : Nat) (xs : List Int) (b : Option Addr) (d : Nat) (bs : List Int) (w : World) (hx : IsInts .i64 w a xs) (hl : xs.length ≤ 140737488355328) (hb : IsInts .i64 w b bs) (hf : fineB xs = true) (hu : upB bs = true) :
    Calls Try.prog 22 #[.slice a xs.length c, .slice b bs.length d] w (BinsPost bs xs w) := by
  obtain ⟨⟨u1, u2⟩, u3, u4⟩ := (up_iff bs).1 hu
  have kc := check_spec a c xs w hx hl
  rw [hf, show okE true 93 = 0 from rfl] at kc
  have ku := may_spec b d bs w hb (by omega)
  rw [hu] at ku
  have F : Hid (∀ W w' cap, Below w.heap.size w W → Cnt W w' (cntF bs xs) → BinsPost bs xs w (.returned (.tuple #[.slice (some ⟨W.heap.size, 0, none⟩) (bs.length + 1) cap, .int .i64 0])) w') := by
    intro W w' cap B C
    refine ⟨some ⟨W.heap.size, 0, none⟩, cap, ?_, ?_, B.trans (C.below.mono B.size)⟩
    · simp [binL, binE, hf, hu, cntF_len]
    · simp only [binL, hf, hu, if_true]; exact C.is
  obtain ⟨gb, ob, rfl, lb⟩ := hb.resolve_left (fun h => by rw [h] at u1; simp at u1)
  have HB := hide lb
  have HX := hide hx
  have UP := hide u4
  obtain ⟨n, hn⟩ : ∃ n, n = bs.length := ⟨_, rfl⟩
  obtain ⟨m, hm⟩ : ∃ m, m = xs.length := ⟨_, rfl⟩
  rw [← hn] at u1 u2 ku ⊢
  rw [← hm] at hl kc ⊢
  have NN := hide hn
  have MM := hide hm
  obtain ⟨i0, hi0, hz0, hz1, hz2⟩ := info_parts info_int9
  have hmk : ∀ v : World, (Instr.makeSlice 49 (.int .i64 ((n : Int) + 1)) (.int .i64 ((n : Int) + 1))).run Try.prog v = .ok (.slice (some ⟨v.heap.size, 0, none⟩) (n + 1) (n + 1)) (v.alloc (.cells (madeCells #[.int .i64 0] (n + 1)) 3)) := fun v => by
    have := run_make (P := Try.prog) v 49 3 i0 (.int .i64 0) Try.underlying49 hi0 hz0 .i64 .i64 ((n : Int) + 1) ((n : Int) + 1) (by omega) (by omega) (by rw [hz2]; omega) (by omega)
    rw [hz1] at this
    rw [this]
    have e : ((n : Int) + 1).toNat = n + 1 := by omega
    rw [e]
    simp [Value.cells]
  clear hx hf hb hu u3 u4 lb hn hm hi0 hz0 hz1 hz2
  go_enter Try.func22, Try.ntmps22
  go_wp2_with fail
  refine kc.mono ?_
  rintro e w1 ⟨rfl, rfl⟩
  clear kc
  go_wp2_with fail
  refine ku.mono ?_
  rintro e W ⟨rfl, hW⟩
  clear ku
  have HW := hide hW
  have gW : Hid (gb < W.heap.size) := Nat.lt_of_lt_of_le HB.out.lt hW.size
  have bW : Hid (LieI .i64 W gb ob bs) := HB.out.later hW
  have xW : Hid (IsInts .i64 W a xs) := HX.out.later hW
  clear hW
  go_wp2_with fail
  clear hmk
  have C0 : Hid (Cnt W (W.alloc (.cells (madeCells #[.int .i64 0] (n + 1)) 3)) (cntF bs (xs.take 0))) := by
    have := Cnt.made W (n + 1) (by unfold maxLen; omega)
    rw [show List.replicate (n + 1) (0 : Int) = cntF bs (xs.take 0) from by rw [NN.out]; rfl] at this
    exact this
  go_loopw [26] (fun i wr => ∃ k : Nat, k ≤ m ∧ i = .int .i64 k ∧ Hid (Cnt W wr (cntF bs (xs.take k)))) (fun i _ => m - (intOf i).toNat)
  case atStart => exact ⟨0, by omega, rfl, C0⟩
  case round =>
    obtain ⟨k, hk, rfl, C⟩ := hrel
    clear C0
    by_cases hlt : k < m
    · have k1 : k < xs.length := by have := MM.out; omega
      obtain ⟨x, hxk⟩ : ∃ x, x = xs[k] := ⟨_, rfl⟩
      obtain ⟨g, o, ea, lx⟩ := xW.out.resolve_left (fun h => by rw [h] at k1; simp at k1)
      subst ea
      have c0 := (C.out.below.cell (p := ⟨g, o + k, none⟩) lx.lt).trans (lx.cell k k1)
      rw [← hxk] at c0
      have ST := hide (cntF_take (bs := bs) k1)
      rw [← hxk] at ST
      have LL := cntF_len bs (xs.take k)
      have BD := cntF_bound bs xs k
      obtain ⟨L, hL⟩ : ∃ L, L = cntF bs (xs.take k) := ⟨_, rfl⟩
      rw [← hL] at ST LL BD C
      have C1 := hide C.out
      obtain ⟨wo, hwo⟩ : ∃ wo, wo = wr := ⟨_, rfl⟩
      clear C hxk lx k1 hL hwo
      have LLh := hide LL
      have BDh := hide BD
      clear LL BD
      go_wp2_with fail
      go_loop [10, 32] (fun bn j => ∃ q : Nat, q ≤ n ∧ j = .int .i64 q ∧ bn = .int .i64 (binK (bs.take q) x : Nat)) (fun _ j => n - (intOf j).toNat)
      case atStart => exact ⟨0, by omega, rfl, rfl⟩
      case round =>
        obtain ⟨q, hq, rfl, rfl⟩ := hrel
        by_cases hlq : q < n
        · have q1 : q < bs.length := by have := NN.out; omega
          have e1 := (C1.out.below.cell (p := ⟨gb, ob + q, none⟩) gW.out).trans (bW.out.cell q q1)
          have ST2 := binK_take q1 UP.out x
          obtain ⟨y, hy⟩ : ∃ y, y = bs[q] := ⟨_, rfl⟩
          rw [← hy] at e1 ST2
          have hlq2 : (q : Int) < (n : Int) := by omega
          have hlq3 : decide (q < n) = true := decide_eq_true hlq
          by_cases t : y ≤ x
          · rw [if_pos t] at ST2
            have td : decide (y ≤ x) = true := decide_eq_true t
            have S2 := hide ST2
            clear ST2 hy q1
            go_wp2_with fail
            go_round
            case rel => exact ⟨q + 1, by omega, by go_num, by rw [S2.out]; go_num⟩
            case measure => simp [intOf]; omega
          · rw [if_neg t] at ST2
            have td : decide (y ≤ x) = false := decide_eq_false t
            have S2 := hide ST2
            clear ST2 hy q1
            go_wp2_with fail
            go_round
            case rel => exact ⟨q + 1, by omega, by go_num, by rw [S2.out]⟩
            case measure => simp [intOf]; omega
        · obtain rfl : q = n := by omega
          rw [show bs.take q = bs from by rw [NN.out]; exact List.take_length]
          have bk := binK_le bs x
          obtain ⟨z, hz⟩ : ∃ z, z = binK bs x := ⟨_, rfl⟩
          have zl : z < L.length := by rw [LLh.out, hz]; omega
          have zn : z < q + 1 := by have := NN.out; omega
          obtain ⟨r1, r2⟩ := C1.out.at_ z zl
          obtain ⟨v, hv⟩ : ∃ v, v = L.getD z 0 := ⟨_, rfl⟩
          have vb : 0 ≤ v ∧ v ≤ k := by
            have := BDh.out _ (List.getElem_mem zl)
            rw [hv, List.getD_eq_getElem?_getD, List.getElem?_eq_getElem zl]
            exact this
          obtain ⟨v0, v1⟩ := vb
          have NC : Hid (Cnt W (wr.setCell ⟨W.heap.size, z, none⟩ (.int .i64 (v + 1))) (cntF bs (xs.take (k + 1)))) := by
            have := C1.out.set z (v + 1) 0
            rw [ST.out]
            unfold cnt1
            rw [← hz, ← hv]
            exact this
          rw [← hv] at r1
          have zlt := C1.out.lt
          rw [← hz]
          clear bk hz hv C1 BDh LLh ST zl
          go_wp2_with fail
          go_roundw
          case rel => exact ⟨k + 1, by omega, by go_num, NC⟩
          case measure => simp [intOf]; omega
    · obtain rfl : k = m := by omega
      have C1 : Hid (Cnt W wr (cntF bs xs)) := by
        have := C.out
        rw [show xs.take k = xs from by rw [MM.out]; exact List.take_length] at this
        exact this
      have F2 := F.out W wr (n + 1) HW.out C1.out
      rw [← NN.out] at F2
      have F3 := hide F2
      clear C F2 F
      go_wp2_with fail
      go_returns
      exact F3.out
theorem bins_spec (a : Option Addr) (c : Nat) (xs : List Int) (b : Option Addr) (d : Nat) (bs : List Int) (w : World) (hx : IsInts .i64 w a xs) (hl : xs.length ≤ 140737488355328) (hb : IsInts .i64 w b bs) (hl2 : bs.length ≤ 140737488355328) :
    Calls Try.prog 22 #[.slice a xs.length c, .slice b bs.length d] w (BinsPost bs xs w) := by
  rcases hf : fineB xs with _ | _
  · exact bins_bad a c xs b d bs w hx hl hf
  · rcases hu : upB bs with _ | _
    · exact bins_not a c xs b d bs w hx hl hb hl2 hf hu
    · exact bins_good a c xs b d bs w hx hl hb hf hu
end Go.Proofs.Ytebiddmadmmfpaa
/- timer: the reference's fine, Bins. -/
namespace Go.Proofs.Ytebiddmadmmfpaa
set_option linter.unusedVariables false
set_option linter.unusedSimpArgs false
open Go.RowKit W T9
set_option maxRecDepth 100000 in
set_option maxHeartbeats 4000000 in
theorem rfine_spec (a : Option Addr) (c : Nat) (xs : List Int) (w : World) (hx : IsInts .i64 w a xs) (hl : xs.length ≤ 140737488355328) :
    CalcN 41 #[.slice a xs.length c] w (.bool (fineB xs)) := by
  rcases hx with rfl | ⟨g, o, rfl, hx⟩
  · go_enter Try.func41, Try.ntmps41
    go_wp2
    refine wp_loop_rounds 1 ?_
    rw [rounds_succ]
    go_wp2
    go_returns
    exact ⟨rfl, rfl⟩
  obtain ⟨E, hE⟩ : ∃ E, E = fineB xs := ⟨_, rfl⟩
  rw [← hE]
  have EE := hide hE
  have H := hide hx
  clear hE hx
  go_enter Try.func41, Try.ntmps41
  go_wp2
  go_loop [3] (fun i => ∃ k : Nat, k ≤ xs.length ∧ i = .int .i64 k ∧ Hid (∀ (j : Nat) (h : j < xs.length), j < k → 0 ≤ xs[j] ∧ xs[j] ≤ 100000000000000)) (fun i => xs.length - (intOf i).toNat)
  case atStart => exact ⟨0, by omega, rfl, fun j _ h => absurd h (by omega)⟩
  case round =>
    obtain ⟨k, hk, rfl, hd⟩ := hrel
    by_cases hlt : k < xs.length
    · have c0 := H.out.cell k hlt
      obtain ⟨x, hxk⟩ : ∃ x, x = xs[k] := ⟨_, rfl⟩
      rw [← hxk] at c0
      by_cases t : 0 ≤ x ∧ x ≤ 100000000000000
      · have N : Hid (∀ (j : Nat) (h : j < xs.length), j < k + 1 → 0 ≤ xs[j] ∧ xs[j] ≤ 100000000000000) := by
          intro j h hj
          by_cases q : j = k
          · subst q; rw [← hxk]; exact t
          · exact hd.out j h (by omega)
        have t1 : ¬ x < 0 := by omega
        have t2 : ¬ 100000000000000 < x := by omega
        clear hd hxk t
        go_wp2_with fail
        go_round
        case rel => exact ⟨k + 1, by omega, by go_num, N⟩
        case measure => simp [intOf]; omega
      · have F : Hid (E = false) := by
          show E = false
          rw [EE.out, not_fine hlt (by rw [← hxk]; exact t)]
        by_cases t1 : x < 0
        · clear hd hxk t EE
          go_wp2_with fail
          go_returns
          exact ⟨by rw [F.out]; rfl, rfl⟩
        · have t2 : 100000000000000 < x := by omega
          clear hd hxk t EE
          go_wp2_with fail
          go_returns
          exact ⟨by rw [F.out]; rfl, rfl⟩
    · obtain rfl : k = xs.length := by omega
      have F : Hid (E = true) := by
        show E = true
        rw [EE.out, fine_of fun j h => hd.out j h h]
      clear hd EE
      go_wp2
      go_returns
      exact ⟨by rw [F.out]; rfl, rfl⟩
/-- What the reference's loop over bounds keeps: may those up to here be? -/
def UpTo (bs : List Int) (k : Nat) : Prop := (∀ (j : Nat) (h : j < bs.length), j < k → 0 ≤ bs[j]) ∧ (∀ (j : Nat) (h : j + 1 < bs.length), j + 1 < k → bs[j] < bs[j + 1])
theorem upto_next {bs : List Int} {k : Nat} (h : UpTo bs k) (hk : k < bs.length) (a : 0 ≤ bs[k]) (b : ∀ (j : Nat) (e : k = j + 1), bs[j]'(by omega) < bs[k]) : UpTo bs (k + 1) := by
  refine ⟨fun j hj lt => ?_, fun j hj lt => ?_⟩
  · by_cases q : j = k
    · subst q; exact a
    · exact h.1 j hj (by omega)
  · by_cases q : k = j + 1
    · have := b j q
      subst q; exact this
    · exact h.2 j hj (by omega)
theorem upto_done {bs : List Int} (h : UpTo bs bs.length) (h1 : 1 ≤ bs.length) (h2 : bs.length ≤ 32) : upB bs = true :=
  up_of h1 h2 (fun x hx => by rw [List.getElem?_eq_getElem (by omega)] at hx; injection hx with hx; rw [← hx]; exact h.1 0 (by omega) (by omega)) fun j hj => h.2 j hj hj
set_option maxRecDepth 100000 in
set_option maxHeartbeats 4000000 in
theorem rbins_bad (a : Option Addr) (c : Nat) (xs : List Int) (b : Option Addr) (d : Nat) (bs : List Int) (w : World) (hx : IsInts .i64 w a xs) (hl : xs.length ≤ 140737488355328) (hf : fineB xs = false) :
    Calls Try.prog 23 #[.slice a xs.length c, .slice b bs.length d] w (BinsPost bs xs w) := by
  have kc := rfine_spec a c xs w hx hl
  rw [hf] at kc
  have F : Hid (BinsPost bs xs w (.returned (.tuple #[.slice none 0 0, .int .i64 93])) w) := by
    refine ⟨none, 0, ?_, .inl ?_, Below.refl _ _⟩ <;> simp [binL, binE, hf]
  clear hx hf
  go_enter Try.func23, Try.ntmps23
  go_wp2_with fail
  refine kc.mono ?_
  rintro e w1 ⟨rfl, rfl⟩
  clear kc
  go_wp2_with fail
  go_returns
  exact F.out
theorem Cnt.drewN {w wr : World} {L : List Int} (h : Cnt w wr L) (q : Nat) : Cnt w (wr.drewN q) L := ⟨h.own, below_drewN h.below q⟩
set_option maxRecDepth 100000 in
set_option maxHeartbeats 4000000 in
theorem rbins_len (a : Option Addr) (c : Nat) (xs : List Int) (b : Option Addr) (d : Nat) (bs : List Int) (w : World) (hx : IsInts .i64 w a xs) (hl : xs.length ≤ 140737488355328) (hl2 : bs.length ≤ 140737488355328) (hf : fineB xs = true) (hn : ¬ (1 ≤ bs.length ∧ bs.length ≤ 32)) :
    Calls Try.prog 23 #[.slice a xs.length c, .slice b bs.length d] w (BinsPost bs xs w) := by
  have kc := rfine_spec a c xs w hx hl
  rw [hf] at kc
  have hu : upB bs = false := up_no fun h => hn h.1
  have F : Hid (BinsPost bs xs w (.returned (.tuple #[.slice none 0 0, .int .i64 92])) w) := by
    refine ⟨none, 0, ?_, .inl ?_, Below.refl _ _⟩ <;> simp [binL, binE, hf, hu]
  obtain ⟨n, e⟩ : ∃ n, n = bs.length := ⟨_, rfl⟩
  rw [← e] at hn hl2 ⊢
  clear hx hf hu e
  by_cases z : n = 0
  · subst z
    clear hn
    go_enter Try.func23, Try.ntmps23
    go_wp2_with fail
    refine kc.mono ?_
    rintro e w1 ⟨rfl, rfl⟩
    clear kc
    go_wp2_with fail
    refine wp_loop_rounds 1 ?_
    rw [rounds_succ]
    go_wp2_with fail
    go_returns
    exact F.out
  · have n1 : 1 ≤ n := by omega
    have n2 : 32 < n := by omega
    have n3 : decide ((n : Int) ≤ 32) = false := decide_eq_false (by omega)
    have n4 : decide ((1 : Int) ≤ (n : Int)) = true := decide_eq_true (by omega)
    have n5 : 0 < n := by omega
    have n6 : (0 : Int) < (n : Int) := by omega
    clear hn z
    go_enter Try.func23, Try.ntmps23
    go_wp2_with fail
    refine kc.mono ?_
    rintro e w1 ⟨rfl, rfl⟩
    clear kc
    go_wp2_with fail
    refine wp_loop_rounds 1 ?_
    rw [rounds_succ]
    go_wp2_with fail
    go_returns
    exact F.out
set_option maxRecDepth 100000 in
set_option maxHeartbeats 8000000 in
theorem rbins_good (a : Option Addr) (c : Nat) (xs : List Int) (b : Option Addr) (d : Nat) (bs : List Int) (w : World) (hx : IsInts .i64 w a xs) (hl : xs.length ≤ 140737488355328) (hb : IsInts .i64 w b bs) (hf : fineB xs = true) (u1 : 1 ≤ bs.length) (u2 : bs.length ≤ 32) :
    Calls Try.prog 23 #[.slice a xs.length c, .slice b bs.length d] w (BinsPost bs xs w) := by
  have kc := rfine_spec a c xs w hx hl
  rw [hf] at kc
  have F1 : Hid (∀ w', upB bs = false → Below w.heap.size w w' → BinsPost bs xs w (.returned (.tuple #[.slice none 0 0, .int .i64 92])) w') := by
    intro w' hu B
    refine ⟨none, 0, ?_, .inl ?_, B⟩ <;> simp [binL, binE, hf, hu]
  have F : Hid (∀ W w' cap, upB bs = true → Below w.heap.size w W → Cnt W w' (cntF bs xs) → BinsPost bs xs w (.returned (.tuple #[.slice (some ⟨W.heap.size, 0, none⟩) (bs.length + 1) cap, .int .i64 0])) w') := by
    intro W w' cap hu B C
    refine ⟨some ⟨W.heap.size, 0, none⟩, cap, ?_, ?_, B.trans (C.below.mono B.size)⟩
    · simp [binL, binE, hf, hu, cntF_len]
    · simp only [binL, hf, hu, if_true]; exact C.is
  obtain ⟨gb, ob, rfl, lb⟩ := hb.resolve_left (fun h => by rw [h] at u1; simp at u1)
  have HB := hide lb
  have HX := hide hx
  obtain ⟨n, hn⟩ : ∃ n, n = bs.length := ⟨_, rfl⟩
  obtain ⟨m, hm⟩ : ∃ m, m = xs.length := ⟨_, rfl⟩
  rw [← hn] at u1 u2 ⊢
  rw [← hm] at hl kc ⊢
  have NN := hide hn
  have MM := hide hm
  obtain ⟨i0, hi0, hz0, hz1, hz2⟩ := info_parts info_int9
  have hmk : ∀ v : World, (Instr.makeSlice 49 (.int .i64 ((n : Int) + 1)) (.int .i64 ((n : Int) + 1))).run Try.prog v = .ok (.slice (some ⟨v.heap.size, 0, none⟩) (n + 1) (n + 1)) (v.alloc (.cells (madeCells #[.int .i64 0] (n + 1)) 3)) := fun v => by
    have := run_make (P := Try.prog) v 49 3 i0 (.int .i64 0) Try.underlying49 hi0 hz0 .i64 .i64 ((n : Int) + 1) ((n : Int) + 1) (by omega) (by omega) (by rw [hz2]; omega) (by omega)
    rw [hz1] at this
    rw [this]
    have e : ((n : Int) + 1).toNat = n + 1 := by omega
    rw [e]
    simp [Value.cells]
  have n3 : decide ((n : Int) ≤ 32) = true := decide_eq_true (by omega)
  have n4 : decide ((1 : Int) ≤ (n : Int)) = true := decide_eq_true (by omega)
  clear hx hf hb lb hn hm hi0 hz0 hz1 hz2
  go_enter Try.func23, Try.ntmps23
  go_wp2_with fail
  refine kc.mono ?_
  rintro e w1 ⟨rfl, rfl⟩
  clear kc
  go_wp2_with fail
  clear n3 n4
  go_loopw [6, 7] (fun o i wr => ∃ (k : Nat) (ok : Bool), k ≤ n ∧ i = .int .i64 k ∧ o = .bool ok ∧ Hid (ok = true → UpTo bs k) ∧ Hid (ok = false → upB bs = false) ∧ Hid (Below w.heap.size w wr)) (fun _ i _ => n - (intOf i).toNat)
  case atStart => exact ⟨0, true, by omega, rfl, rfl, fun _ => ⟨fun j _ h => absurd h (by omega), fun j _ h => absurd h (by omega)⟩, fun h => (by cases h), Below.refl _ _⟩
  case round =>
    obtain ⟨k, ok, hk, rfl, rfl, UT, UF, bl⟩ := hrel
    rcases ok with _ | _
    · have F2 := hide (F1.out wr (UF.out rfl) bl.out)
      clear F1 F hmk UT UF
      by_cases hlt : k < n
      · have hlt2 : (k : Int) < (n : Int) := by omega
        go_wp2_with fail
        go_returns
        exact F2.out
      · obtain rfl : k = n := by omega
        go_wp2_with fail
        go_returns
        exact F2.out
    · by_cases hlt : k < n
      · have k1 : k < bs.length := by have := NN.out; omega
        have LB := HB.out.later bl.out
        have e1 := LB.cell k k1
        obtain ⟨y, hy⟩ : ∃ y, y = bs[k] := ⟨_, rfl⟩
        rw [← hy] at e1
        have hlt2 : (k : Int) < (n : Int) := by omega
        by_cases t : 0 ≤ y
        · have td : decide (0 ≤ y) = true := decide_eq_true t
          rcases Nat.eq_zero_or_pos k with z | z
          · have U2 : Hid (UpTo bs (k + 1)) := upto_next (UT.out rfl) k1 (by rw [← hy]; exact t) (fun j e => by omega)
            have z1 : ((k : Int) == 0) = true := by simp; omega
            clear hy LB UT UF F F1 hmk k1 t z
            go_wp2_with fail
            go_quiet (fail)
            go_wp2_with fail
            go_roundw
            case rel => exact ⟨k + 1, true, by omega, by go_num, rfl, (fun _ => U2.out), (fun h => by cases h), below_drewN bl.out _⟩
            case measure => simp [intOf]; omega
          · obtain ⟨j, rfl⟩ : ∃ j, k = j + 1 := ⟨k - 1, by omega⟩
            have e2 := LB.cell j (by omega)
            obtain ⟨x, hx⟩ : ∃ x, x = bs[j] := ⟨_, rfl⟩
            rw [← hx] at e2
            have z1 : (((j : Int) + 1) == 0) = false := by simp; omega
            have z2 : IntKind.i64.wrap ((j : Int) + 1 - 1) = (j : Int) := by rw [IntKind.wrap_i64]; omega
            have z3 : (((j + 1 : Nat) : Int) == 0) = false := by simp; omega
            have z4 : j < n := by omega
            have z5 : (j : Int) < (n : Int) := by omega
            by_cases q : x < y
            · have qd : decide (x < y) = true := decide_eq_true q
              have U2 : Hid (UpTo bs (j + 1 + 1)) := upto_next (UT.out rfl) k1 (by rw [← hy]; exact t) (fun i e => by
                have : i = j := by omega
                subst this
                rw [← hy, ← hx]; exact q)
              clear hy hx LB UT UF F F1 hmk k1 t z q
              go_wp2_with fail
              go_quiet (fail)
              go_wp2_with fail
              go_roundw
              case rel => exact ⟨j + 1 + 1, true, by omega, by go_num, rfl, (fun _ => U2.out), (fun h => by cases h), below_drewN bl.out _⟩
              case measure => simp [intOf]; omega
            · have qd : decide (x < y) = false := decide_eq_false q
              have U2 : Hid (upB bs = false) := up_fall k1 (by rw [← hy, ← hx]; exact q)
              clear hy hx LB UT UF F F1 hmk k1 t z q
              go_wp2_with fail
              go_quiet (fail)
              go_wp2_with fail
              go_roundw
              case rel => exact ⟨j + 1 + 1, false, by omega, by go_num, rfl, (fun h => by cases h), (fun _ => U2.out), below_drewN bl.out _⟩
              case measure => simp [intOf]; omega
        · have td : decide (0 ≤ y) = false := decide_eq_false t
          have U2 : Hid (upB bs = false) := up_neg k1 (by rw [← hy]; omega)
          clear hy LB UT UF F F1 hmk k1 t
          go_wp2_with fail
          go_quiet (fail)
          go_wp2_with fail
          go_roundw
          case rel => exact ⟨k + 1, false, by omega, by go_num, rfl, (fun h => by cases h), (fun _ => U2.out), below_drewN bl.out _⟩
          case measure => simp [intOf]; omega
      · obtain rfl : k = n := by omega
        have hu : upB bs = true := by
          have e := NN.out
          have u := UT.out rfl
          rw [e] at u
          exact upto_done u (by omega) (by omega)
        obtain ⟨W, rfl⟩ : ∃ W, W = wr := ⟨_, rfl⟩
        have HW := hide bl.out
        have F9 : Hid (∀ w', Cnt W w' (cntF bs xs) → BinsPost bs xs w (.returned (.tuple #[.slice (some ⟨W.heap.size, 0, none⟩) (k + 1) (k + 1), .int .i64 0])) w') := by
          intro w' C
          rw [NN.out]
          exact F.out W w' _ hu HW.out C
        have gW : Hid (gb < W.heap.size) := Nat.lt_of_lt_of_le HB.out.lt HW.out.size
        have bW : Hid (LieI .i64 W gb ob bs) := HB.out.later HW.out
        have xW : Hid (IsInts .i64 W a xs) := HX.out.later HW.out
        clear bl UT UF F F1 hu hlt
        have C0 : Hid (Cnt W (W.alloc (.cells (madeCells #[.int .i64 0] (k + 1)) 3)) (cntF bs (xs.take 0))) := by
          have := Cnt.made W (k + 1) (by unfold maxLen; omega)
          rw [show List.replicate (k + 1) (0 : Int) = cntF bs (xs.take 0) from by rw [NN.out]; rfl] at this
          exact this
        go_wp2_with fail
        clear hmk
        go_loopw [9] (fun i wr => ∃ p : Nat, p ≤ m ∧ i = .int .i64 p ∧ Hid (Cnt W wr (cntF bs (xs.take p)))) (fun i _ => m - (intOf i).toNat)
        case atStart => exact ⟨0, by omega, rfl, C0⟩
        case round =>
          obtain ⟨p, hp, rfl, C⟩ := hrel
          clear C0
          by_cases hlt : p < m
          · have k1 : p < xs.length := by have := MM.out; omega
            obtain ⟨x, hxk⟩ : ∃ x, x = xs[p] := ⟨_, rfl⟩
            obtain ⟨g, o, ea, lx⟩ := xW.out.resolve_left (fun h => by rw [h] at k1; simp at k1)
            subst ea
            have c0 : Hid (∀ v L, Cnt W v L → v.cell? ⟨g, o + p, none⟩ = some (.int .i64 x)) := fun v L C => (C.below.cell (p := ⟨g, o + p, none⟩) lx.lt).trans (by rw [hxk]; exact lx.cell p k1)
            have ST := hide (cntF_take (bs := bs) k1)
            rw [← hxk] at ST
            have LL := cntF_len bs (xs.take p)
            have BD := cntF_bound bs xs p
            obtain ⟨L, hL⟩ : ∃ L, L = cntF bs (xs.take p) := ⟨_, rfl⟩
            rw [← hL] at ST LL BD C
            have C1 := hide C.out
            clear C hxk lx k1 hL
            have LLh := hide LL
            have BDh := hide BD
            clear LL BD
            have hlt2 : (p : Int) < (m : Int) := by omega
            go_wp2_with fail
            go_loopw [10] (fun j wi => ∃ q : Nat, q ≤ k ∧ j = .int .i64 q ∧ Hid (Cnt W wi L) ∧ Hid (∀ (i : Nat) (h : i < bs.length), i < q → bs[i] ≤ x)) (fun j _ => k - (intOf j).toNat)
            case atStart => exact ⟨0, by omega, rfl, C1, fun i _ h => absurd h (by omega)⟩
            case round =>
              obtain ⟨q, hq, rfl, C2, LO⟩ := hrel
              have e0 := c0.out _ _ C2.out
              by_cases hlq : q < k
              · have q1 : q < bs.length := by have := NN.out; omega
                have e1 := (C2.out.below.cell (p := ⟨gb, ob + q, none⟩) gW.out).trans (bW.out.cell q q1)
                obtain ⟨y, hy⟩ : ∃ y, y = bs[q] := ⟨_, rfl⟩
                rw [← hy] at e1
                have hlq2 : (q : Int) < (k : Int) := by omega
                by_cases t : y ≤ x
                · have td : decide (y ≤ x) = true := decide_eq_true t
                  have LO2 : Hid (∀ (i : Nat) (h : i < bs.length), i < q + 1 → bs[i] ≤ x) := by
                    intro i h lt
                    by_cases z : i = q
                    · subst z; rw [← hy]; exact t
                    · exact LO.out i h (by omega)
                  clear hy q1 LO t
                  go_wp2_with fail
                  go_quiet (fail)
                  go_wp2_with fail
                  go_roundw
                  case rel => exact ⟨q + 1, by omega, by go_num, C2.out.drewN _, LO2⟩
                  case measure => simp [intOf]; omega
                · have td : decide (y ≤ x) = false := decide_eq_false t
                  have bk : binK bs x = q := binK_at (by omega) LO.out (fun h => by rw [← hy]; exact t)
                  have zl : q < L.length := by rw [LLh.out]; omega
                  obtain ⟨r1, r2⟩ := C2.out.at_ q zl
                  obtain ⟨v, hv⟩ : ∃ v, v = L.getD q 0 := ⟨_, rfl⟩
                  have vb : 0 ≤ v ∧ v ≤ p := by
                    have := BDh.out _ (List.getElem_mem zl)
                    rw [hv, List.getD_eq_getElem?_getD, List.getElem?_eq_getElem zl]
                    exact this
                  obtain ⟨v0, v1⟩ := vb
                  have NC : Hid (∀ nq, Cnt W ((wr.drewN nq).setCell ⟨W.heap.size, q, none⟩ (.int .i64 (v + 1))) (cntF bs (xs.take (p + 1)))) := by
                    intro nq
                    have := C2.out.set q (v + 1) nq
                    rw [ST.out]
                    unfold cnt1
                    rw [bk, ← hv]
                    exact this
                  rw [← hv] at r1
                  have zlt := C2.out.lt
                  clear hy q1 LO t bk hv zl BDh LLh ST
                  go_wp2_with fail
                  go_quiet (fail)
                  go_wp2_with fail
                  go_roundw
                  case rel => exact ⟨p + 1, by omega, by go_num, NC.out _⟩
                  case measure => simp [intOf]; omega
              · obtain rfl : q = k := by omega
                have hlq3 : ¬ (q : Int) < (q : Int) := by omega
                have bk : binK bs x = q := binK_at (by have := NN.out; omega) LO.out (fun h => by have := NN.out; omega)
                have zl : q < L.length := by rw [LLh.out]; have := NN.out; omega
                obtain ⟨r1, r2⟩ := C2.out.at_ q zl
                obtain ⟨v, hv⟩ : ∃ v, v = L.getD q 0 := ⟨_, rfl⟩
                have vb : 0 ≤ v ∧ v ≤ p := by
                  have := BDh.out _ (List.getElem_mem zl)
                  rw [hv, List.getD_eq_getElem?_getD, List.getElem?_eq_getElem zl]
                  exact this
                obtain ⟨v0, v1⟩ := vb
                have NC : Hid (∀ nq, Cnt W ((wr.drewN nq).setCell ⟨W.heap.size, q, none⟩ (.int .i64 (v + 1))) (cntF bs (xs.take (p + 1)))) := by
                  intro nq
                  have := C2.out.set q (v + 1) nq
                  rw [ST.out]
                  unfold cnt1
                  rw [bk, ← hv]
                  exact this
                rw [← hv] at r1
                have zlt := C2.out.lt
                clear LO bk hv zl BDh LLh ST
                go_wp2_with fail
                go_quiet (fail)
                go_wp2_with fail
                go_roundw
                case rel => exact ⟨p + 1, by omega, by go_num, NC.out _⟩
                case measure => simp [intOf]; omega
          · obtain rfl : p = m := by omega
            have C1 : Hid (Cnt W wr (cntF bs xs)) := by
              have := C.out
              rw [show xs.take p = xs from by rw [MM.out]; exact List.take_length] at this
              exact this
            have F3 := hide (F9.out _ C1.out)
            clear C F9
            go_wp2_with fail
            go_returns
            exact F3.out
theorem rbins_spec (a : Option Addr) (c : Nat) (xs : List Int) (b : Option Addr) (d : Nat) (bs : List Int) (w : World) (hx : IsInts .i64 w a xs) (hl : xs.length ≤ 140737488355328) (hb : IsInts .i64 w b bs) (hl2 : bs.length ≤ 140737488355328) :
    Calls Try.prog 23 #[.slice a xs.length c, .slice b bs.length d] w (BinsPost bs xs w) := by
  rcases hf : fineB xs with _ | _
  · exact rbins_bad a c xs b d bs w hx hl hf
  · by_cases hn : 1 ≤ bs.length ∧ bs.length ≤ 32
    · exact rbins_good a c xs b d bs w hx hl hb hf hn.1 hn.2
    · exact rbins_len a c xs b d bs w hx hl hl2 hf hn
end Go.Proofs.Ytebiddmadmmfpaa
/- timer: Rank, both; the statement's frame. (gen_tm2.py) -/
namespace Go.Proofs.Ytebiddmadmmfpaa
set_option linter.unusedVariables false
set_option linter.unusedSimpArgs false
open Go.RowKit W T9 Lb
/-- What Rank answers. -/
def rkV (n p : Int) : Int := if p < 1 ∨ 100000000 < p then 0 else if n < 1 then 0 else rnk n p
def rkE (n p : Int) : Int := if p < 1 ∨ 100000000 < p then 91 else if n < 1 then 90 else 0
theorem rank9_spec (n p : Int) (hn : IsHi n) (w : World) :
    Calls Try.prog 12 #[.int .i64 n, .int .i64 p] w fun e w' => e = .returned (.tuple #[.int .i64 (rkV n p), .int .i64 (rkE n p)]) ∧ Below w.heap.size w w' := by
  by_cases a : p < 1
  · have e1 : rkV n p = 0 := by unfold rkV; rw [if_pos (.inl a)]
    have e2 : rkE n p = 91 := by unfold rkE; rw [if_pos (.inl a)]
    rw [e1, e2]
    clear e1 e2
    go_enter Try.func12, Try.ntmps12
    go_wp2
    go_returns
    exact ⟨rfl, by go_grown⟩
  by_cases b : 100000000 < p
  · have e1 : rkV n p = 0 := by unfold rkV; rw [if_pos (.inr b)]
    have e2 : rkE n p = 91 := by unfold rkE; rw [if_pos (.inr b)]
    rw [e1, e2]
    clear e1 e2
    go_enter Try.func12, Try.ntmps12
    go_wp2
    go_returns
    exact ⟨rfl, by go_grown⟩
  have c : ¬ (p < 1 ∨ 100000000 < p) := by omega
  by_cases d : n < 1
  · have e1 : rkV n p = 0 := by unfold rkV; rw [if_neg c, if_pos d]
    have e2 : rkE n p = 90 := by unfold rkE; rw [if_neg c, if_pos d]
    rw [e1, e2]
    clear e1 e2 c
    go_enter Try.func12, Try.ntmps12
    go_wp2
    go_returns
    exact ⟨rfl, by go_grown⟩
  · have e1 : rkV n p = rnk n p := by unfold rkV; rw [if_neg c, if_neg d]
    have e2 : rkE n p = 0 := by unfold rkE; rw [if_neg c, if_neg d]
    have k := fun w => rank_spec n p w (by omega) (by have := hn.b; omega) (by omega) (by omega)
    rw [e1, e2]
    clear e1 e2 c
    generalize rnk n p = r at *
    go_enter Try.func12, Try.ntmps12
    go_wp2_with fail
    refine (k _).mono ?_
    rintro e w1 ⟨rfl, h1⟩
    clear k
    go_wp2
    go_returns
    exact ⟨rfl, h1⟩
set_option maxRecDepth 100000 in
set_option maxHeartbeats 8000000 in
theorem rrank_walk (n p q r a b v : Int) (w : World) (g1 : ¬ p < 1) (g2 : ¬ 100000000 < p) (g3 : ¬ n < 1) (v0 : 0 ≤ q) (v2 : q ≤ 9223372036854775807) (v1 : Hid (r ≠ 0 → q < 9223372036854775807)) (hy : Hid (r ≠ 0 → v = q + 1)) (hn : Hid (r = 0 → v = q)) (hb : IntKind.i64.wrap b = q)
    (k1 : ∀ w', Calls Try.prog 31 #[.int .i64 p] w' (NumPost w' p))
    (k2 : ∀ w', Calls Try.prog 31 #[.int .i64 n] w' (NumPost w' n))
    (k3 : ∀ s p' c l s' p'' c' l' w', IsNum w' s p' c l p → IsNum w' s' p'' c' l' n → Calls Try.prog 30 #[.agg #[.bool s, .slice p' l.length c], .agg #[.bool s', .slice p'' l'.length c']] w' (NumPost w' (p * n)))
    (k4 : ∀ w', Calls Try.prog 31 #[.int .i64 100000000] w' (NumPost w' 100000000))
    (k5 : ∀ s p' c l s' p'' c' l' w', IsNum w' s p' c l (p * n) → IsNum w' s' p'' c' l' 100000000 → Calls Try.prog 32 #[.agg #[.bool s, .slice p' l.length c], .agg #[.bool s', .slice p'' l'.length c']] w' (QuoPost w' q r))
    (k6 : ∀ s' p' c' l' w', IsNum w' s' p' c' l' q → Calls Try.prog 33 #[.agg #[.bool s', .slice p' l'.length c']] w' fun e w'' => e = .returned (.tuple #[.agg #[.int .i64 a, .int .u64 b], .bool true]) ∧ Below w'.heap.size w' w'') :
    Calls Try.prog 13 #[.int .i64 n, .int .i64 p] w fun e w' => e = .returned (.tuple #[.int .i64 v, .int .i64 0]) ∧ Below w.heap.size w w' := by
  have K3 := hide k3
  have K5 := hide k5
  have K6 := hide k6
  have HB := hide hb
  clear k3 k5 k6 hb
  go_enter Try.func13, Try.ntmps13
  go_wp2_with fail
  refine (k1 _).mono ?_
  clear k1
  rintro e w1 ⟨s1, p1, c1, l1, rfl, N1, h1⟩
  have M1 := hide N1
  clear N1
  go_wp2_with fail
  refine (k2 _).mono ?_
  clear k2
  rintro e w2 ⟨s2, p2, c2, l2, rfl, N2, h2⟩
  have M2 := hide N2
  clear N2
  go_wp2_with fail
  refine (K3.out _ _ _ _ _ _ _ _ _ (M1.out.later h2) M2.out).mono ?_
  clear K3
  rintro e w3 ⟨s3, p3, c3, l3, rfl, N3, h3⟩
  have B3 : Below w.heap.size w w3 := (h1.trans (h2.mono h1.size)).trans (h3.mono (Nat.le_trans h1.size h2.size))
  have y3 := B3.size
  have M3 := hide N3
  clear N3 h1 h2 h3 M1 M2
  go_wp2_with fail
  refine abs_wp (fun W => W.cell? ⟨w3.heap.size, 0, none⟩ = some (.bool s3) ∧ W.cell? ⟨w3.heap.size, 1, none⟩ = some (.slice p3 l3.length c3) ∧ w3.heap.size < W.heap.size ∧ Below w3.heap.size w3 W) ?_ ?_
  · refine ⟨?_, ?_, ?_, ?_⟩
    all_goals first | assumption | (go_grown; done) | (simp [go_sem]; done) | (simp; done)
  rintro W ⟨c0, c1', zW, BW0⟩
  have NW := hide (M3.out.later BW0)
  have BW := hide (B3.trans (BW0.mono B3.size))
  have yW := BW.out.size
  clear M3 BW0 B3
  go_cut [7, 8] (fun q5 q6 W' => ∃ (X Y : Nat) (s1 : Bool) (p1 : Option Addr) (c1 : Nat) (l1 : List Int) (s2 : Bool) (p2 : Option Addr) (c2 : Nat) (l2 : List Int), q5 = .pointer (some ⟨X, 0, none⟩) ∧ q6 = .pointer (some ⟨Y, 0, none⟩) ∧ Box2 W' X (.bool s1) (.slice p1 l1.length c1) ∧ Box2 W' Y (.bool s2) (.slice p2 l2.length c2) ∧ Hid (IsNum W' s1 p1 c1 l1 q) ∧ Hid (l2.length = 0 ↔ r = 0) ∧ Keeps W.heap.size W W')
  case first =>
    have K0 := Keeps.start (Nat.le_refl W.heap.size)
    have K1 := K0.drew
    go_region_held3 (fun w' => w'.cell? ⟨w3.heap.size, 0, none⟩ = some (.bool s3) ∧ w'.cell? ⟨w3.heap.size, 1, none⟩ = some (.slice p3 l3.length c3) ∧ Keeps W.heap.size W w')
      ((refine (fun K => ⟨Keeps.cell K c0 zW, Keeps.cell K c1' zW, K⟩) (?_ : Keeps W.heap.size W _); ((repeat (first | with_reducible assumption | with_reducible refine Keeps.alloc ?_ _ | with_reducible refine Keeps.drew ?_ | with_reducible refine Keeps.setCell ?_ ?_ _)); (all_goals (first | (simp; done) | omega | (simp; omega))))))
      (first
      | (go_at_call 31; (with_reducible refine (k4 _).mono ?_); rintro e v20 ⟨s2, p2, c2, l2, rfl, N2, hb20⟩; have K20 := Keeps.call (B := W.heap.size) (W := W) (by (repeat (first | with_reducible assumption | with_reducible refine Keeps.alloc ?_ _ | with_reducible refine Keeps.drew ?_ | with_reducible refine Keeps.setCell ?_ ?_ _)); (all_goals (first | (simp; done) | omega | (simp; omega)))) hb20; obtain ⟨bc20, bf20, bs20⟩ := bcell hb20; (try simp only [World.size_alloc, World.size_drew] at bc20 bf20 bs20); (try (have ov200 : W.heap.size < v20.heap.size := by omega)); (try (have ov201 : W.heap.size ≤ v20.heap.size := by omega)); (try (have ov202 : ¬ W.heap.size = v20.heap.size := by omega)); (try (have ov203 : ¬ v20.heap.size = W.heap.size := by omega)); (try (have ov204 : W.heap.size + 1 < v20.heap.size := by omega)); (try (have ov205 : W.heap.size + 1 ≤ v20.heap.size := by omega)); (try (have ov206 : ¬ W.heap.size + 1 = v20.heap.size := by omega)); (try (have ov207 : ¬ v20.heap.size = W.heap.size + 1 := by omega)))
      | (go_at_call 32; (with_reducible refine (K5.out _ _ _ _ _ _ _ _ _ (NW.out.later (Keeps.below (B := W.heap.size) (W := W) (by (repeat (first | with_reducible assumption | with_reducible refine Keeps.alloc ?_ _ | with_reducible refine Keeps.drew ?_ | with_reducible refine Keeps.setCell ?_ ?_ _)); (all_goals (first | (simp; done) | omega | (simp; omega)))))) (N2.later (by (repeat (first | with_reducible assumption | with_reducible exact Below.refl _ _ | with_reducible refine Below.alloc ?_ ?_ _ | with_reducible refine Below.drew ?_ | with_reducible refine Below.setCell ?_ ?_ _)); (all_goals (first | (simp; done) | omega | (simp; omega)))))).mono ?_); rintro e v21 ⟨s5, p5, c5, l5, s4, p4, c4, l4, rfl, N5, N4, hb21⟩; have K21 := Keeps.call (B := W.heap.size) (W := W) (by (repeat (first | with_reducible assumption | with_reducible refine Keeps.alloc ?_ _ | with_reducible refine Keeps.drew ?_ | with_reducible refine Keeps.setCell ?_ ?_ _)); (all_goals (first | (simp; done) | omega | (simp; omega)))) hb21; obtain ⟨bc21, bf21, bs21⟩ := bcell hb21; (try simp only [World.size_alloc, World.size_drew] at bc21 bf21 bs21); (try (have ov210 : W.heap.size < v21.heap.size := by omega)); (try (have ov211 : W.heap.size ≤ v21.heap.size := by omega)); (try (have ov212 : ¬ W.heap.size = v21.heap.size := by omega)); (try (have ov213 : ¬ v21.heap.size = W.heap.size := by omega)); (try (have ov214 : W.heap.size + 1 < v21.heap.size := by omega)); (try (have ov215 : W.heap.size + 1 ≤ v21.heap.size := by omega)); (try (have ov216 : ¬ W.heap.size + 1 = v21.heap.size := by omega)); (try (have ov217 : ¬ v21.heap.size = W.heap.size + 1 := by omega)); (try (have ov218 : v20.heap.size < v21.heap.size := by omega)); (try (have ov219 : v20.heap.size ≤ v21.heap.size := by omega)); (try (have ov2110 : ¬ v20.heap.size = v21.heap.size := by omega)); (try (have ov2111 : ¬ v21.heap.size = v20.heap.size := by omega)); (try (have ov2112 : v20.heap.size + 1 < v21.heap.size := by omega)); (try (have ov2113 : v20.heap.size + 1 ≤ v21.heap.size := by omega)); (try (have ov2114 : ¬ v20.heap.size + 1 = v21.heap.size := by omega)); (try (have ov2115 : ¬ v21.heap.size = v20.heap.size + 1 := by omega))))
    all_goals
      go_wp2_with fail
      go_meet
      case rel =>
        refine ⟨_, _, s5, p5, c5, l5, s4, p4, c4, l4, rfl, rfl, ⟨?_, ?_, ?_, ?_, ?_⟩, ⟨?_, ?_, ?_, ?_, ?_⟩, (hide ?_ : Hid (IsNum _ _ _ _ _ _)), hide ((mag_zero N4.mag).trans Lb.ab_zero), ?_⟩
        · first | (go_simp; done) | (go_simp; refine World.cell?_setCell_same' _ _ _ ?_; go_simp; done)
        · first | (go_simp; done) | (go_simp; refine World.cell?_setCell_same' _ _ _ ?_; go_simp; done)
        · first | (go_simp; done) | (go_simp; refine World.cell?_setCell_same' _ _ _ ?_; go_simp; done)
        · first | (go_simp; done) | (go_simp; refine World.cell?_setCell_same' _ _ _ ?_; go_simp; done)
        · first | (simp; done) | omega | (simp; omega)
        · first | (go_simp; done) | (go_simp; refine World.cell?_setCell_same' _ _ _ ?_; go_simp; done)
        · first | (go_simp; done) | (go_simp; refine World.cell?_setCell_same' _ _ _ ?_; go_simp; done)
        · first | (go_simp; done) | (go_simp; refine World.cell?_setCell_same' _ _ _ ?_; go_simp; done)
        · first | (go_simp; done) | (go_simp; refine World.cell?_setCell_same' _ _ _ ?_; go_simp; done)
        · first | (simp; done) | omega | (simp; omega)
        · have sz21 := hb21.size; (try simp only [World.size_alloc, World.size_drew] at sz21); (repeat (first | with_reducible exact N5 | with_reducible refine IsNum.set (t := 64) (m := 2) ?_ ?_ (by decide) _ | with_reducible refine IsNum.later ?_ ((Below.refl _ _).alloc (Nat.le_refl _) _) | with_reducible refine IsNum.later ?_ ((Below.refl _ _).drew))); (all_goals (repeat (first | (with_reducible refine shape_top2 _ _ _ _ _ ?_; (focus (first | (with_reducible rfl) | omega | (simp; done) | (simp; omega))); done) | rw [shape_drew] | rw [shape_set] | (with_reducible refine Eq.trans (shape_old _ _ ?_) ?_; (focus (first | (with_reducible rfl) | omega | (simp; done) | (simp; omega)))) | (with_reducible refine Eq.trans (shape_later hb21 ?_) ?_; (focus (first | (with_reducible rfl) | omega | (simp; done) | (simp; omega)))) | (with_reducible refine Eq.trans (shape_later hb20 ?_) ?_; (focus (first | (with_reducible rfl) | omega | (simp; done) | (simp; omega)))))))
        · (repeat (first | with_reducible assumption | with_reducible refine Keeps.alloc ?_ _ | with_reducible refine Keeps.drew ?_ | with_reducible refine Keeps.setCell ?_ ?_ _)); (all_goals (first | (simp; done) | omega | (simp; omega)))
  case rest =>
    obtain ⟨X, Y, s1, p1, e1, l1, s2, p2, e2, l2, rfl, rfl, bx, bY, N1, HZ, KK⟩ := hcut
    have bl := BW.out.trans (KK.below.mono BW.out.size)
    clear KK BW c0 c1' zW k4 NW
    obtain ⟨x0, x1, x2, x3, x4⟩ := bx
    go_wp2_with fail
    refine (K6.out _ _ _ _ _ N1.out).mono ?_
    clear K6
    rintro e w9 ⟨rfl, h9⟩
    have b9 := bl.trans (h9.mono bl.size)
    have y9 := b9.size
    obtain ⟨z0, z1, z2, z3, z4⟩ := bY.later h9
    have hb := HB.out
    have ne : ¬ Y = w9.heap.size := by omega
    have ne2 : ¬ w9.heap.size = Y := by omega
    clear h9 N1 bl x0 x1 x2 x3 x4 bY HB
    by_cases hg : r = 0
    · obtain rfl : v = q := hn.out hg
      have hz : l2.length = 0 := HZ.out.2 hg
      rw [hz] at z1
      clear hg hz hy hn
      go_wp2_with fail
      go_returns
      exact ⟨rfl, by go_grown⟩
    · obtain rfl : v = q + 1 := hy.out hg
      have v3 := v1.out hg
      have hz : 0 < l2.length := by have := HZ.out; omega
      have hz2 : (0 : Int) < (l2.length : Int) := by omega
      clear hg hy hn HZ
      generalize l2.length = L at *
      go_wp2_with fail
      go_returns
      exact ⟨rfl, by go_grown⟩
end Go.Proofs.Ytebiddmadmmfpaa
/- timer: TimerRanks. (gen_tm2.py) -/
namespace Go.Proofs.Ytebiddmadmmfpaa
set_option linter.unusedVariables false
set_option linter.unusedSimpArgs false
open Go.RowKit W T9 Lb
theorem rrank_spec (n p : Int) (hn : IsHi n) (w : World) :
    Calls Try.prog 13 #[.int .i64 n, .int .i64 p] w fun e w' => e = .returned (.tuple #[.int .i64 (rkV n p), .int .i64 (rkE n p)]) ∧ Below w.heap.size w w' := by
  by_cases a : p < 1
  · have e1 : rkV n p = 0 := by unfold rkV; rw [if_pos (.inl a)]
    have e2 : rkE n p = 91 := by unfold rkE; rw [if_pos (.inl a)]
    rw [e1, e2]
    clear e1 e2
    go_enter Try.func13, Try.ntmps13
    go_wp2
    go_returns
    exact ⟨rfl, by go_grown⟩
  by_cases b : 100000000 < p
  · have e1 : rkV n p = 0 := by unfold rkV; rw [if_pos (.inr b)]
    have e2 : rkE n p = 91 := by unfold rkE; rw [if_pos (.inr b)]
    rw [e1, e2]
    clear e1 e2
    go_enter Try.func13, Try.ntmps13
    go_wp2
    go_returns
    exact ⟨rfl, by go_grown⟩
  have c : ¬ (p < 1 ∨ 100000000 < p) := by omega
  by_cases d : n < 1
  · have e1 : rkV n p = 0 := by unfold rkV; rw [if_neg c, if_pos d]
    have e2 : rkE n p = 90 := by unfold rkE; rw [if_neg c, if_pos d]
    rw [e1, e2]
    clear e1 e2 c
    go_enter Try.func13, Try.ntmps13
    go_wp2
    go_returns
    exact ⟨rfl, by go_grown⟩
  have e1 : rkV n p = rnk n p := by unfold rkV; rw [if_neg c, if_neg d]
  have e2 : rkE n p = 0 := by unfold rkE; rw [if_neg c, if_neg d]
  rw [e1, e2]
  obtain ⟨n1, n2⟩ := hn
  have hp : IsHi p := ⟨by omega, by omega⟩
  have cm : p * n = n * p := Int.mul_comm p n
  have x1 : n * p ≤ n * 100000000 := Int.mul_le_mul_of_nonneg_left (by omega) (by omega)
  have x0 : 0 ≤ n * p := Int.mul_nonneg (by omega) (by omega)
  have fm : Fits (p * n) := ⟨by omega, by omega⟩
  have q0 : 0 ≤ p * n / 100000000 := by omega
  have q1 : p * n / 100000000 ≤ n := by omega
  have fq : IsHi (p * n / 100000000) := ⟨by omega, by omega⟩
  refine rrank_walk n p (p * n / 100000000) (p * n % 100000000) (hi (p * n / 100000000)) (lo (p * n / 100000000)) (rnk n p) w a b d q0 (by omega) ?_ ?_ ?_ ?_ (rint_spec p hp) (rint_spec n ⟨n1, n2⟩) ?_ (rint_spec 100000000 ⟨by omega, by omega⟩) ?_ ?_
  · intro h; omega
  · intro h; unfold rnk; rw [← cm, if_neg h]
  · intro h; unfold rnk; rw [← cm, if_pos h]; omega
  · rw [IntKind.wrap_i64]; unfold lo; omega
  · intro s p' c l s' p'' c' l' w' H1 H2
    exact mulN_spec s s' p' p'' c c' l l' p n w' H1 H2 (by have := H1.few 9 (few_fits (fits_small hp)); omega) (by have := H2.few 9 (few_fits (fits_small ⟨n1, n2⟩)); omega)
  · intro s p' c l s' p'' c' l' w' H1 H2
    have k := quoN_spec s s' p' p'' c c' l l' (p * n) 100000000 w' H1 H2 (by omega) (by have := H1.few 9 (few_fits fm); omega) (by have := H2.few 9 (few_fits ⟨by omega, by omega⟩); omega)
    rw [Int.tdiv_eq_ediv_of_nonneg (by omega), Int.tmod_eq_emod_of_nonneg (by omega)] at k
    exact k
  · intro s' p' c' l' w' H
    exact to_small s' p' c' l' _ w' H (fits_small fq)
set_option maxRecDepth 100000 in
set_option maxHeartbeats 8000000 in
theorem law_TimerRanks (n p : Int) (wn : (Lit.int .i64 n).wf = true) (wp_ : (Lit.int .i64 p).wf = true) (w : World) :
    Calls Try.prog 3 #[.int .i64 n, .int .i64 p] w fun e w' => e = .returned (.bool true) ∧ Below w.heap.size w w' := by
  have k1 := rank9_spec n p (hi_of_wf wn)
  have k2 := rrank_spec n p (hi_of_wf wn)
  have k3 := alive9
  generalize rkV n p = v at *
  generalize rkE n p = er at *
  clear wn wp_
  go_enter Try.func3, Try.ntmps3
  go_wp2_with fail
  refine (k1 _).mono ?_
  rintro e w1 ⟨rfl, h1⟩
  go_wp2_with fail
  refine (k2 _).mono ?_
  rintro e w2 ⟨rfl, h2⟩
  go_wp2_with fail
  refine (k3 _).mono ?_
  rintro e w3 ⟨rfl, h3⟩
  have B3 : Below w.heap.size w w3 := (h1.trans (h2.mono h1.size)).trans (h3.mono (Nat.le_trans h1.size h2.size))
  clear h1 h2 h3 k1 k2 k3
  go_wp2_with fail
  go_returns
  exact ⟨rfl, B3⟩
end Go.Proofs.Ytebiddmadmmfpaa
/- timer: the reference's Upto. (gen_trup.py) -/
namespace Go.Proofs.Ytebiddmadmmfpaa
set_option linter.unusedVariables false
set_option linter.unusedSimpArgs false
open Go.RowKit W T9
set_option maxRecDepth 100000 in
set_option maxHeartbeats 8000000 in
theorem rupto_pos (a : Option Addr) (c n q d : Nat) (p x z s1 s0 m : Int) (w : World) (hn : n ≤ 17592186044416) (hd : n = d + (q + 1)) (L : World → Nat → Nat → Prop) (p0 : 0 < p) (p1 : p ≤ 100000000)
    (LL : ∀ w' g o w'', L w' g o → Below w'.heap.size w' w'' → L w'' g o) (L0 : ∀ w' g o, L w' g o → g < w'.heap.size ∧ w'.cell? ⟨g, o + q, none⟩ = some (.int .i64 x))
    (kc : ∀ w', Below w.heap.size w w' → CalcN 41 #[.slice a n c] w' (.bool true))
    (ks : ∀ w', Below w.heap.size w w' → w.heap.size < w'.heap.size → Calls Try.prog 42 #[.slice a n c] w' fun e w'' => ∃ g o cap, e = .returned (.slice (some ⟨g, o, none⟩) n cap) ∧ L w'' g o ∧ g ≠ w.heap.size ∧ n ≤ cap ∧ Below w'.heap.size w' w'')
    (kr : ∀ w', Calls Try.prog 13 #[.int .i64 n, .int .i64 p] w' fun e w'' => e = .returned (.tuple #[.int .i64 ((q : Int) + 1), .int .i64 0]) ∧ Below w'.heap.size w' w'')
    (ku : ∀ g o c2 w', L w' g o → Calls Try.prog 43 #[.slice (some ⟨g, o, none⟩) (q + 1) c2] w' (NumPost w' z))
    (kw : ∀ s p' c' l w', IsNum w' s p' c' l z → Calls Try.prog 44 #[.agg #[.bool s, .slice p' l.length c']] w' fun e w'' => e = .returned (.agg #[.int .i64 s1, .int .u64 s0]) ∧ Below w'.heap.size w' w'')
    (kp : ∀ s p' c' l w', IsNum w' s p' c' l z → Calls Try.prog 45 #[.agg #[.bool s, .slice p' l.length c'], .int .i64 ((q : Int) + 1)] w' fun e w'' => e = .returned (.int .i64 m) ∧ Below w'.heap.size w' w'') :
    Calls Try.prog 21 #[.slice a n c, .int .i64 p] w fun e w' => e = .returned (.tuple #[.agg #[.int .i64 ((q : Int) + 1), .int .i64 s1, .int .u64 s0, .int .i64 m, .int .i64 x], .int .i64 0]) ∧ Below w.heap.size w w' := by
  have KS := hide ks
  have KU := hide ku
  have KW := hide kw
  have KP := hide kp
  have HL := hide LL
  have HC := hide L0
  have g1 : ¬ 100000000 < p := by omega
  have g2 : ¬ p < -100000000 := by omega
  have g3 : (p == 0) = false := by simp; omega
  have g4 : 0 < n := by omega
  have g5 : ((n : Int) == 0) = false := by simp; omega
  have g6 : (0 : Int) < (n : Int) := by omega
  have gq : IntKind.i64.wrap ((q : Int) + 1 - 1) = (q : Int) := by rw [IntKind.wrap_i64]; omega
  have gq2 : (q : Int) + 1 - 1 = (q : Int) := by omega
  have q0 : (0 : Int) ≤ (q : Int) := by omega
  have q1 : (q : Int) < (q : Int) + 1 := by omega
  have hqn : q + 1 ≤ n := by omega
  have gp : decide (0 < p) = true := decide_eq_true p0
  have gn : ¬ p < 0 := by omega
  have DD := hide hd
  clear ku kw kp LL L0 hd
  go_enter Try.func21, Try.ntmps21
  go_wp2_with fail
  refine (kc _ (by go_grown)).mono ?_
  rintro e w1 ⟨rfl, rfl⟩
  clear kc
  clear ks
  go_wp2_with fail
  refine (KS.out _ (by go_grown) (by simp)).mono ?_
  clear KS
  rintro e w2 ⟨g, o, cap, rfl, H, nh, hc, hb⟩
  have R1 := (Box5.made (w := w)).later hb
  have B1 : Below w.heap.size w w2 := Below.trans (by go_grown) (hb.mono (by simp))
  clear hb
  have HH1 := hide H
  clear H
  go_wp2_with fail
  refine (kr _).mono ?_
  clear kr
  rintro e w2b ⟨rfl, hr⟩
  have R2 := R1.later hr
  have B2 := B1.trans (hr.mono B1.size)
  have HH := hide (HL.out _ _ _ _ HH1.out hr)
  clear hr R1 B1 HH1
  have sl : ∀ v, (Instr.slice 29 (.slice (some ⟨g, o, none⟩) n cap) none (some (.int .i64 ((q : Int) + 1))) none).run Try.prog v = .ok (.slice (some ⟨g, o, none⟩) (q + 1) cap) v := fun v => by
    have := ints_upto (some ⟨g, o, none⟩) n cap (q + 1) (by omega) hc v
    rw [show ((q + 1 : Nat) : Int) = (q : Int) + 1 by omega] at this
    exact this
  go_wp2_with fail
  clear sl
  refine (KU.out g o cap w2b HH.out).mono ?_
  clear KU
  rintro e w3 ⟨sg, pn, cn, ln, rfl, NM, h3⟩
  have NM3 := hide NM
  clear NM
  have B3 := B2.trans (h3.mono B2.size)
  go_wp2_with fail
  refine abs_wp (fun W => W.cell? ⟨w3.heap.size, 0, none⟩ = some (.bool sg) ∧ W.cell? ⟨w3.heap.size, 1, none⟩ = some (.slice pn ln.length cn) ∧ w3.heap.size < W.heap.size ∧ Below w3.heap.size w3 W) ?_ ?_
  · exact ⟨by simp [go_sem], by simp [go_sem], by simp, by go_grown⟩
  rintro W ⟨c0, c1, zW, hW⟩
  have BW := hide (B3.trans (hW.mono B3.size))
  have RB := hide (R2.later (h3.trans (hW.mono h3.size)))
  have NW := hide (NM3.out.later hW)
  obtain ⟨zg, cx⟩ := HC.out _ _ _ (HL.out _ _ _ _ HH.out (h3.trans (hW.mono h3.size)))
  have nz1 : w3.heap.size ≠ w.heap.size := by have := R2.lt; have := h3.size; omega
  have X0 := KeepX.start (r := w.heap.size) (W := W)
  have X1 := X0.drew
  have K0 := Keeps.start (Nat.le_refl W.heap.size)
  have K1 := K0.drew
  clear hW h3 B3 B2 R2 HH NM3
  go_region_held3 (fun w' => w'.cell? ⟨w3.heap.size, 0, none⟩ = some (.bool sg) ∧ w'.cell? ⟨w3.heap.size, 1, none⟩ = some (.slice pn ln.length cn) ∧ w'.cell? ⟨g, o + q, none⟩ = some (.int .i64 x) ∧ KeepX W.heap.size w.heap.size W w')
    ((refine (fun K => ⟨(KeepX.cell K _ _ zW nz1).trans c0, (KeepX.cell K _ _ zW nz1).trans c1, (KeepX.cell K _ _ zg nh).trans cx, K⟩) (?_ : KeepX W.heap.size w.heap.size W _); (repeat (first | with_reducible assumption | with_reducible refine KeepX.setR ?_ _ _ | with_reducible refine KeepX.alloc ?_ _ | with_reducible refine KeepX.drew ?_))))
    (first
    | (go_at_call 44; (with_reducible refine (KW.out _ _ _ _ _ (NW.out.later (Keeps.below (B := W.heap.size) (W := W) (by repeat (first | with_reducible assumption | with_reducible refine Keeps.alloc ?_ _ | with_reducible refine Keeps.drew ?_))))).mono ?_); rintro e v20 ⟨rfl, hb20⟩; have X20 := KeepX.call (B := W.heap.size) (r := w.heap.size) (W := W) (by repeat (first | with_reducible assumption | with_reducible refine KeepX.setR ?_ _ _ | with_reducible refine KeepX.alloc ?_ _ | with_reducible refine KeepX.drew ?_)) hb20; have K20 := Keeps.call (B := W.heap.size) (W := W) (by repeat (first | with_reducible assumption | with_reducible refine Keeps.alloc ?_ _ | with_reducible refine Keeps.drew ?_)) hb20)
    | (go_at_call 45; (with_reducible refine (KP.out _ _ _ _ _ (NW.out.later (Keeps.below (B := W.heap.size) (W := W) (by repeat (first | with_reducible assumption | with_reducible refine Keeps.alloc ?_ _ | with_reducible refine Keeps.drew ?_))))).mono ?_); rintro e v21 ⟨rfl, hb21⟩; have X21 := KeepX.call (B := W.heap.size) (r := w.heap.size) (W := W) (by repeat (first | with_reducible assumption | with_reducible refine KeepX.setR ?_ _ _ | with_reducible refine KeepX.alloc ?_ _ | with_reducible refine KeepX.drew ?_)) hb21; have K21 := Keeps.call (B := W.heap.size) (W := W) (by repeat (first | with_reducible assumption | with_reducible refine Keeps.alloc ?_ _ | with_reducible refine Keeps.drew ?_)) hb21; obtain ⟨rr0, rr1, rr2, rr3, rr4, gg0, gg1, gg2, gg3, gg4, zz⟩ := RB.out.later (Keeps.below K21)))
  all_goals
    go_wp2_with fail
    refine bodyPost_ret (by simp [results, Try.results21, go_sem, *]; try rfl) rfl ?_
    refine ⟨rfl, ?_⟩
    have b20 := BW.out.trans (K21.below.mono BW.out.size)
    repeat (first | with_reducible assumption | with_reducible refine below_setR ?_ _ _ | with_reducible refine Below.drew ?_)
set_option maxRecDepth 100000 in
set_option maxHeartbeats 8000000 in
theorem rupto_neg (a : Option Addr) (c n q d : Nat) (p x z s1 s0 m : Int) (w : World) (hn : n ≤ 17592186044416) (hd : n = d + (q + 1)) (L : World → Nat → Nat → Prop) (p0 : p < 0) (p1 : -100000000 ≤ p)
    (LL : ∀ w' g o w'', L w' g o → Below w'.heap.size w' w'' → L w'' g o) (L0 : ∀ w' g o, L w' g o → g < w'.heap.size ∧ w'.cell? ⟨g, o + d, none⟩ = some (.int .i64 x))
    (kc : ∀ w', Below w.heap.size w w' → CalcN 41 #[.slice a n c] w' (.bool true))
    (ks : ∀ w', Below w.heap.size w w' → w.heap.size < w'.heap.size → Calls Try.prog 42 #[.slice a n c] w' fun e w'' => ∃ g o cap, e = .returned (.slice (some ⟨g, o, none⟩) n cap) ∧ L w'' g o ∧ g ≠ w.heap.size ∧ n ≤ cap ∧ Below w'.heap.size w' w'')
    (kr : ∀ w', Calls Try.prog 13 #[.int .i64 n, .int .i64 (-p)] w' fun e w'' => e = .returned (.tuple #[.int .i64 ((q : Int) + 1), .int .i64 0]) ∧ Below w'.heap.size w' w'')
    (ku : ∀ g o c2 w', L w' g o → Calls Try.prog 43 #[.slice (some ⟨g, (o + d), none⟩) (q + 1) c2] w' (NumPost w' z))
    (kw : ∀ s p' c' l w', IsNum w' s p' c' l z → Calls Try.prog 44 #[.agg #[.bool s, .slice p' l.length c']] w' fun e w'' => e = .returned (.agg #[.int .i64 s1, .int .u64 s0]) ∧ Below w'.heap.size w' w'')
    (kp : ∀ s p' c' l w', IsNum w' s p' c' l z → Calls Try.prog 45 #[.agg #[.bool s, .slice p' l.length c'], .int .i64 ((q : Int) + 1)] w' fun e w'' => e = .returned (.int .i64 m) ∧ Below w'.heap.size w' w'') :
    Calls Try.prog 21 #[.slice a n c, .int .i64 p] w fun e w' => e = .returned (.tuple #[.agg #[.int .i64 ((q : Int) + 1), .int .i64 s1, .int .u64 s0, .int .i64 m, .int .i64 x], .int .i64 0]) ∧ Below w.heap.size w w' := by
  have KS := hide ks
  have KU := hide ku
  have KW := hide kw
  have KP := hide kp
  have HL := hide LL
  have HC := hide L0
  have g1 : ¬ 100000000 < p := by omega
  have g2 : ¬ p < -100000000 := by omega
  have g3 : (p == 0) = false := by simp; omega
  have g4 : 0 < n := by omega
  have g5 : ((n : Int) == 0) = false := by simp; omega
  have g6 : (0 : Int) < (n : Int) := by omega
  have gq : IntKind.i64.wrap ((q : Int) + 1 - 1) = (q : Int) := by rw [IntKind.wrap_i64]; omega
  have gq2 : (q : Int) + 1 - 1 = (q : Int) := by omega
  have q0 : (0 : Int) ≤ (q : Int) := by omega
  have q1 : (q : Int) < (q : Int) + 1 := by omega
  have gp : decide (0 < p) = false := decide_eq_false (by omega)
  have gw : IntKind.i64.wrap (-p) = -p := by rw [IntKind.wrap_i64]; omega
  have gd : IntKind.i64.wrap ((n : Int) - ((q : Int) + 1)) = (d : Int) := by rw [IntKind.wrap_i64]; omega
  have gd2 : (n : Int) - ((q : Int) + 1) = (d : Int) := by omega
  have DD := hide hd
  clear ku kw kp LL L0 hd
  go_enter Try.func21, Try.ntmps21
  go_wp2_with fail
  refine (kc _ (by go_grown)).mono ?_
  rintro e w1 ⟨rfl, rfl⟩
  clear kc
  clear ks
  go_wp2_with fail
  refine (KS.out _ (by go_grown) (by simp)).mono ?_
  clear KS
  rintro e w2 ⟨g, o, cap, rfl, H, nh, hc, hb⟩
  have R1 := (Box5.made (w := w)).later hb
  have B1 : Below w.heap.size w w2 := Below.trans (by go_grown) (hb.mono (by simp))
  clear hb
  have HH1 := hide H
  clear H
  go_wp2_with fail
  refine (kr _).mono ?_
  clear kr
  rintro e w2b ⟨rfl, hr⟩
  have R2 := R1.later hr
  have B2 := B1.trans (hr.mono B1.size)
  have HH := hide (HL.out _ _ _ _ HH1.out hr)
  clear hr R1 B1 HH1
  have sl : ∀ v, (Instr.slice 29 (.slice (some ⟨g, o, none⟩) n cap) (some (.int .i64 (d : Int))) none none).run Try.prog v = .ok (.slice (some ⟨g, o + d, none⟩) (q + 1) (cap - d)) v := fun v => by
    have e := DD.out
    have := ints_fromA g o n cap d (by omega) hc (by omega) v
    rw [show n - d = q + 1 by omega] at this
    exact this
  go_wp2_with fail
  clear sl
  refine (KU.out g o (cap - d) w2b HH.out).mono ?_
  clear KU
  rintro e w3 ⟨sg, pn, cn, ln, rfl, NM, h3⟩
  have NM3 := hide NM
  clear NM
  have B3 := B2.trans (h3.mono B2.size)
  go_wp2_with fail
  refine abs_wp (fun W => W.cell? ⟨w3.heap.size, 0, none⟩ = some (.bool sg) ∧ W.cell? ⟨w3.heap.size, 1, none⟩ = some (.slice pn ln.length cn) ∧ w3.heap.size < W.heap.size ∧ Below w3.heap.size w3 W) ?_ ?_
  · exact ⟨by simp [go_sem], by simp [go_sem], by simp, by go_grown⟩
  rintro W ⟨c0, c1, zW, hW⟩
  have BW := hide (B3.trans (hW.mono B3.size))
  have RB := hide (R2.later (h3.trans (hW.mono h3.size)))
  have NW := hide (NM3.out.later hW)
  obtain ⟨zg, cx⟩ := HC.out _ _ _ (HL.out _ _ _ _ HH.out (h3.trans (hW.mono h3.size)))
  have nz1 : w3.heap.size ≠ w.heap.size := by have := R2.lt; have := h3.size; omega
  have X0 := KeepX.start (r := w.heap.size) (W := W)
  have X1 := X0.drew
  have K0 := Keeps.start (Nat.le_refl W.heap.size)
  have K1 := K0.drew
  clear hW h3 B3 B2 R2 HH NM3
  go_region_held3 (fun w' => w'.cell? ⟨w3.heap.size, 0, none⟩ = some (.bool sg) ∧ w'.cell? ⟨w3.heap.size, 1, none⟩ = some (.slice pn ln.length cn) ∧ w'.cell? ⟨g, o + d, none⟩ = some (.int .i64 x) ∧ KeepX W.heap.size w.heap.size W w')
    ((refine (fun K => ⟨(KeepX.cell K _ _ zW nz1).trans c0, (KeepX.cell K _ _ zW nz1).trans c1, (KeepX.cell K _ _ zg nh).trans cx, K⟩) (?_ : KeepX W.heap.size w.heap.size W _); (repeat (first | with_reducible assumption | with_reducible refine KeepX.setR ?_ _ _ | with_reducible refine KeepX.alloc ?_ _ | with_reducible refine KeepX.drew ?_))))
    (first
    | (go_at_call 44; (with_reducible refine (KW.out _ _ _ _ _ (NW.out.later (Keeps.below (B := W.heap.size) (W := W) (by repeat (first | with_reducible assumption | with_reducible refine Keeps.alloc ?_ _ | with_reducible refine Keeps.drew ?_))))).mono ?_); rintro e v20 ⟨rfl, hb20⟩; have X20 := KeepX.call (B := W.heap.size) (r := w.heap.size) (W := W) (by repeat (first | with_reducible assumption | with_reducible refine KeepX.setR ?_ _ _ | with_reducible refine KeepX.alloc ?_ _ | with_reducible refine KeepX.drew ?_)) hb20; have K20 := Keeps.call (B := W.heap.size) (W := W) (by repeat (first | with_reducible assumption | with_reducible refine Keeps.alloc ?_ _ | with_reducible refine Keeps.drew ?_)) hb20)
    | (go_at_call 45; (with_reducible refine (KP.out _ _ _ _ _ (NW.out.later (Keeps.below (B := W.heap.size) (W := W) (by repeat (first | with_reducible assumption | with_reducible refine Keeps.alloc ?_ _ | with_reducible refine Keeps.drew ?_))))).mono ?_); rintro e v21 ⟨rfl, hb21⟩; have X21 := KeepX.call (B := W.heap.size) (r := w.heap.size) (W := W) (by repeat (first | with_reducible assumption | with_reducible refine KeepX.setR ?_ _ _ | with_reducible refine KeepX.alloc ?_ _ | with_reducible refine KeepX.drew ?_)) hb21; have K21 := Keeps.call (B := W.heap.size) (W := W) (by repeat (first | with_reducible assumption | with_reducible refine Keeps.alloc ?_ _ | with_reducible refine Keeps.drew ?_)) hb21; obtain ⟨rr0, rr1, rr2, rr3, rr4, gg0, gg1, gg2, gg3, gg4, zz⟩ := RB.out.later (Keeps.below K21)))
  all_goals
    go_wp2_with fail
    refine bodyPost_ret (by simp [results, Try.results21, go_sem, *]; try rfl) rfl ?_
    refine ⟨rfl, ?_⟩
    have b20 := BW.out.trans (K21.below.mono BW.out.size)
    repeat (first | with_reducible assumption | with_reducible refine below_setR ?_ _ _ | with_reducible refine Below.drew ?_)
set_option maxRecDepth 100000 in
set_option maxHeartbeats 8000000 in
theorem rupto_no (a : Option Addr) (c n : Nat) (p E : Int) (V : Bool) (w : World) (hl : n ≤ 140737488355328)
    (kc : ∀ w', Below w.heap.size w w' → CalcN 41 #[.slice a n c] w' (.bool V)) (hV : V = false ∧ E = 93 ∨ V = true ∧ E = 91 ∧ (p = 0 ∨ 100000000 < p ∨ p < -100000000) ∨ V = true ∧ E = 90 ∧ n = 0 ∧ p ≠ 0 ∧ p ≤ 100000000 ∧ -100000000 ≤ p) :
    Calls Try.prog 21 #[.slice a n c, .int .i64 p] w fun e w' => e = .returned (.tuple #[zeroSh, .int .i64 E]) ∧ Below w.heap.size w w' := by
  rcases hV with ⟨rfl, rfl⟩ | ⟨rfl, rfl, h⟩ | ⟨rfl, rfl, rfl, h1, h2, h3⟩
  · have trv : True := trivial
    · skip
      go_enter Try.func21, Try.ntmps21
      go_wp2_with fail
      refine (kc _ (by go_grown)).mono ?_
      rintro e w1 ⟨rfl, rfl⟩
      clear kc
      go_wp2_with fail
      refine bodyPost_ret (by simp [results, Try.results21, go_sem]; try rfl) rfl ?_
      exact ⟨rfl, by go_grown⟩
  · rcases h with h | h | h
    · subst h
      go_enter Try.func21, Try.ntmps21
      go_wp2_with fail
      refine (kc _ (by go_grown)).mono ?_
      rintro e w1 ⟨rfl, rfl⟩
      clear kc
      go_wp2_with fail
      refine bodyPost_ret (by simp [results, Try.results21, go_sem]; try rfl) rfl ?_
      exact ⟨rfl, by go_grown⟩
    · have g3 : (p == 0) = false := by simp; omega
      go_enter Try.func21, Try.ntmps21
      go_wp2_with fail
      refine (kc _ (by go_grown)).mono ?_
      rintro e w1 ⟨rfl, rfl⟩
      clear kc
      go_wp2_with fail
      refine bodyPost_ret (by simp [results, Try.results21, go_sem]; try rfl) rfl ?_
      exact ⟨rfl, by go_grown⟩
    · have g3 : (p == 0) = false := by simp; omega
      have g1 : ¬ 100000000 < p := by omega
      go_enter Try.func21, Try.ntmps21
      go_wp2_with fail
      refine (kc _ (by go_grown)).mono ?_
      rintro e w1 ⟨rfl, rfl⟩
      clear kc
      go_wp2_with fail
      refine bodyPost_ret (by simp [results, Try.results21, go_sem]; try rfl) rfl ?_
      exact ⟨rfl, by go_grown⟩
  · have g3 : (p == 0) = false := by simpa using h1
    have g1 : ¬ 100000000 < p := by omega
    have g2 : ¬ p < -100000000 := by omega
    clear h1
    · skip
      go_enter Try.func21, Try.ntmps21
      go_wp2_with fail
      refine (kc _ (by go_grown)).mono ?_
      rintro e w1 ⟨rfl, rfl⟩
      clear kc
      go_wp2_with fail
      refine bodyPost_ret (by simp [results, Try.results21, go_sem]; try rfl) rfl ?_
      exact ⟨rfl, by go_grown⟩
theorem rkV_ok {n p : Int} (h1 : 1 ≤ n) (h2 : 1 ≤ p) (h3 : p ≤ 100000000) : rkV n p = rnk n p ∧ rkE n p = 0 := by
  unfold rkV rkE
  rw [if_neg (by omega), if_neg (by omega), if_neg (by omega), if_neg (by omega)]
  exact ⟨rfl, rfl⟩
theorem rupto_ok (g0 o0 c : Nat) (xs : List Int) (p : Int) (w : World) (hx : LieI .i64 w g0 o0 xs) (hc : xs.length ≤ c) (hl : xs.length * 8 ≤ 140737488355328) (h : UpOk xs p) :
    Calls Try.prog 21 #[.slice (some ⟨g0, o0, none⟩) xs.length c, .int .i64 p] w fun e w' => e = .returned (.tuple #[shareV (upR xs p) (upPart xs p).sum ((upPart xs p).sum / (upR xs p : Int)) (upEdge xs p), .int .i64 0]) ∧ Below w.heap.size w w' := by
  obtain ⟨r1, r2, r3, r4, r5⟩ := h.rank
  have pl := h.partLen
  have pf := h.partFine
  have sl := srt_len xs
  obtain ⟨q, hq⟩ : ∃ q, upR xs p = q + 1 := ⟨upR xs p - 1, by omega⟩
  have e1 : (upR xs p : Int) = (q : Int) + 1 := by omega
  have ml := mean_le pf (by omega)
  have fs := sum_fits pf (by omega) (upPart xs p).length
  rw [List.take_length] at fs
  have zb : (upPart xs p).sum < 22300745198530623141535718272648361505980416 := by obtain ⟨_, f2⟩ := fs; omega
  have kw := fun s p' c' l w' (H : IsNum w' s p' c' l (upPart xs p).sum) => rwide_spec s p' c' l _ w' H fs
  unfold wideRes at kw
  have hm : IsHi ((upPart xs p).sum / ((q : Int) + 1)) := by
    have := ml.2.2
    rw [pl, e1] at this
    exact ⟨by omega, by omega⟩
  have kp := fun s p' c' l w' (H : IsNum w' s p' c' l (upPart xs p).sum) => part_spec s p' c' l _ ((q : Int) + 1) w' H ml.1 zb (by omega) ⟨by omega, by omega⟩ hm
  have kr := fun w' => rrank_spec xs.length (upP p) ⟨by omega, by omega⟩ w'
  have rk := rkV_ok (n := (xs.length : Int)) (p := upP p) (by have := h.l0; omega) r4 r5
  rw [rk.1, rk.2, ← r3, e1] at kr
  have kc := fun w' (K : Below w.heap.size w w') => rfine_spec (some ⟨g0, o0, none⟩) c xs w' (.inr ⟨g0, o0, rfl, hx.later K⟩) (by omega)
  rw [h.fine] at kc
  have l0 := h.l0
  have ks : ∀ w', Below w.heap.size w w' → w.heap.size < w'.heap.size → Calls Try.prog 42 #[.slice (some ⟨g0, o0, none⟩) xs.length c] w' fun e w'' => ∃ g o cap, e = .returned (.slice (some ⟨g, o, none⟩) xs.length cap) ∧ LieI .i64 w'' g o (srt xs) ∧ g ≠ w.heap.size ∧ xs.length ≤ cap ∧ Below w'.heap.size w' w'' := by
    intro w' K lt
    refine (rsorted_spec xs.length (some ⟨g0, o0, none⟩) c xs w' (Nat.le_refl _) (.inr ⟨g0, o0, rfl, hx.later K⟩) hc hl).mono ?_
    rintro e w'' ⟨a', c', rfl, i, hc', b, fr⟩
    obtain ⟨g, o, rfl, li⟩ := i.resolve_left (fun e => by rw [e] at sl; simp at sl; omega)
    refine ⟨g, o, c', by rw [sl], li, ?_, by omega, b⟩
    rcases fr with e | f
    · injection e with e; injection e with e1 e2; rw [e1]; have := hx.lt; omega
    · have : w'.heap.size ≤ g := f _ rfl
      omega
  rw [e1]
  by_cases p0 : 0 < p
  · have ep : upP p = p := if_pos p0
    have epa : upPart xs p = (srt xs).take (q + 1) := by unfold upPart; rw [if_pos p0, hq]
    have lq : q < (srt xs).length := by omega
    have ee : upEdge xs p = (srt xs)[q] := by unfold upEdge; rw [if_pos p0, hq, Nat.add_sub_cancel]; exact at_getD lq
    rw [ee]
    rw [ep] at kr
    exact rupto_pos (some ⟨g0, o0, none⟩) c xs.length q (xs.length - (q + 1)) p _ _ _ _ _ w (by omega) (by omega) (fun w' g o => LieI .i64 w' g o (srt xs)) p0 h.p1
      (fun w' g o w'' H K => H.later K) (fun w' g o H => ⟨H.lt, H.cell q lq⟩) kc ks kr
      (fun g o c2 w' H => by
        have k := rsum9_spec (some ⟨g, o, none⟩) c2 (upPart xs p) w' (.inr ⟨g, o, rfl, by rw [epa]; exact lie_take H _⟩) (by omega) pf
        rw [pl, hq] at k
        exact k) kw kp
  · have p9 : p < 0 := by have := h.p0; omega
    have ep : upP p = -p := if_neg p0
    have epa : upPart xs p = (srt xs).drop (xs.length - (q + 1)) := by unfold upPart; rw [if_neg p0, hq]
    have lq : xs.length - (q + 1) < (srt xs).length := by omega
    have ee : upEdge xs p = (srt xs)[xs.length - (q + 1)] := by unfold upEdge; rw [if_neg p0, hq]; exact at_getD lq
    rw [ee]
    rw [ep] at kr
    exact rupto_neg (some ⟨g0, o0, none⟩) c xs.length q (xs.length - (q + 1)) p _ _ _ _ _ w (by omega) (by omega) (fun w' g o => LieI .i64 w' g o (srt xs)) p9 h.p2
      (fun w' g o w'' H K => H.later K) (fun w' g o H => ⟨H.lt, H.cell _ lq⟩) kc ks kr
      (fun g o c2 w' H => by
        have k := rsum9_spec (some ⟨g, o + (xs.length - (q + 1)), none⟩) c2 (upPart xs p) w' (.inr ⟨g, _, rfl, by rw [epa]; exact lie_drop H (xs.length - (q + 1))⟩) (by omega) pf
        rw [pl, hq] at k
        exact k) kw kp
theorem rupto_spec (a : Option Addr) (c : Nat) (xs : List Int) (p : Int) (w : World) (hx : IsInts .i64 w a xs) (hc : xs.length ≤ c) (hl : xs.length * 8 ≤ 140737488355328) :
    Calls Try.prog 21 #[.slice a xs.length c, .int .i64 p] w fun e w' => e = .returned (.tuple #[uptoV xs p, .int .i64 (uptoE xs p)]) ∧ Below w.heap.size w w' := by
  by_cases z : uptoE xs p = 0
  · have h := upOk_of z
    rw [uptoV_good z, z]
    have l0 := h.l0
    obtain ⟨g, o, rfl, la⟩ := hx.resolve_left (fun e => by rw [e] at l0; simp at l0)
    exact rupto_ok g o c xs p w la hc hl h
  · rw [uptoV_bad z]
    refine rupto_no a c xs.length p (uptoE xs p) (fineB xs) w (by omega) (fun w' K => rfine_spec a c xs w' (hx.later K) (by omega)) ?_
    unfold uptoE at *
    rcases hf : fineB xs with _ | _
    · exact .inl ⟨rfl, by simp⟩
    · simp only [hf, if_true] at *
      by_cases h : p = 0 ∨ 100000000 < p ∨ p < -100000000
      · exact .inr (.inl ⟨trivial, if_pos h, h⟩)
      · rw [if_neg h] at z ⊢
        by_cases n : xs.length = 0
        · exact .inr (.inr ⟨trivial, if_pos n, n, by omega, by omega, by omega⟩)
        · rw [if_neg n] at z; exact absurd rfl z
end Go.Proofs.Ytebiddmadmmfpaa
/- Slices of numbers as they are read, with their capacity and their shape. -/
namespace Go.Proofs.Ytebiddmadmmfpaa
set_option linter.unusedVariables false
set_option linter.unusedSimpArgs false
open Go.RowKit W
open Go.ChangeShapes Go.WideShapes in
/-- A slice of numbers as it is read. -/
theorem isIntu_of {H : Type} {enc : TypeId × Value → H} {P : Program} {w : World} {base : Nat} {spare : Nat → Bool} {held : Bool} {n : Nat} {t e : TypeId} {k : IntKind} {v : Value} {y : DataW H × List MemPlace}
    (ht : P.underlying t = some (.slice e)) (he : P.underlying e = some (.int k)) (hc : P.cellsOf e = 1) (h : DataW.trod enc P w base spare held n t [v] = some y) :
    ∃ a c xs, v = .slice a (List.length xs) c ∧ xs.length ≤ c ∧ c ≤ 9223372036854775807 ∧ (a = none → xs.length = 0 ∧ c = 0) ∧ IsInts k w a xs ∧ (∀ x ∈ xs, (Lit.int k x).wf = true) ∧ (xs = [] ∨ ∃ el sp, y.1 = .slice el sp ∧ el.length = xs.length) := by
  rcases open_ints ht he hc h with ⟨hcs, _⟩ | ⟨a, len, cap, zs, hcs, _, hl, hm, hz, hy, hcell, hwf⟩
  · simp at hcs
    exact ⟨none, 0, [], hcs, by simp, by simp, by simp, .inl rfl, by simp, .inl rfl⟩
  · simp at hcs
    have lz : len ≤ zs.length := by rw [hz]; split <;> omega
    have lt : (zs.take len).length = len := by rw [List.length_take]; omega
    unfold maxLen at hm
    refine ⟨some a, cap, zs.take len, by rw [lt]; exact hcs, by rw [lt]; exact hl, by omega, (by intro e; cases e), ?_, fun x hx => hwf x (List.mem_of_mem_take hx), .inr ⟨lits k (zs.take len), lits k (zs.drop len), by rw [hy], by simp [lits]⟩⟩
    rcases Nat.eq_zero_or_pos len with rfl | hpos
    · exact .inl (by simp)
    · have g0 := hcell 0 (by omega)
      obtain ⟨b, off, spot⟩ := a
      have hspot : spot = none := by simpa [Addr.add] using World.cell?_spot g0
      subst hspot
      refine .inr ⟨b, off, rfl, ⟨fun j hj => ?_, ?_⟩⟩
      · rw [lt] at hj
        have := hcell j (by omega)
        rw [add_plain] at this
        rw [this]
        simp [List.getD_eq_getElem?_getD, List.getElem?_eq_getElem (show j < zs.length by omega)]
      · have := hcell 0 (by omega)
        rw [add_plain] at this
        exact cellb_lt this
end Go.Proofs.Ytebiddmadmmfpaa
/- timer: TimerShares. -/
namespace Go.Proofs.Ytebiddmadmmfpaa
set_option linter.unusedVariables false
set_option linter.unusedSimpArgs false
open Go.RowKit W T9
set_option maxRecDepth 100000 in
set_option maxHeartbeats 8000000 in
theorem shares_walk (a : Option Addr) (n c : Nat) (p x0 x1 x2 x3 x4 E : Int) (w : World)
    (k1 : Calls Try.prog 20 #[.slice a n c, .int .i64 p] w fun e w' => e = .returned (.tuple #[.agg #[.int .i64 x0, .int .i64 x1, .int .u64 x2, .int .i64 x3, .int .i64 x4], .int .i64 E]) ∧ Below w.heap.size w w')
    (k2 : ∀ w', Below w.heap.size w w' → Calls Try.prog 21 #[.slice a n c, .int .i64 p] w' fun e w'' => e = .returned (.tuple #[.agg #[.int .i64 x0, .int .i64 x1, .int .u64 x2, .int .i64 x3, .int .i64 x4], .int .i64 E]) ∧ Below w'.heap.size w' w'') :
    Calls Try.prog 6 #[.slice a n c, .int .i64 p] w fun e w' => e = .returned (.bool true) ∧ Below w.heap.size w w' := by
  have K2 := hide k2
  have k4 := alive9
  clear k2
  go_enter Try.func6, Try.ntmps6
  go_wp2_with fail
  refine k1.mono ?_
  clear k1
  rintro e w1 ⟨rfl, b1⟩
  go_wp2_with fail
  refine (K2.out _ (b1.trans ((Below.refl _ _).alloc (by first | exact b1.size | (simp; exact b1.size)) _))).mono ?_
  clear K2
  rintro e w2 ⟨rfl, h2⟩
  have R2 := (Box5.made (w := w1) (x0 := .int .i64 x0) (x1 := .int .i64 x1) (x2 := .int .u64 x2) (x3 := .int .i64 x3) (x4 := .int .i64 x4) (t := 43)).later h2
  have b2 : Below w.heap.size w w2 := b1.trans (Below.trans ((Below.refl _ _).alloc (by first | exact b1.size | (simp; exact b1.size)) _) (h2.mono (by have := b1.size; simp; omega)))
  obtain ⟨q0, q1, q2, q3, q4, f0, f1, f2, f3, f4, z⟩ := R2
  have ne1 : ¬ w1.heap.size = w2.heap.size := by omega
  have ne2 : ¬ w2.heap.size = w1.heap.size := by omega
  have B2 := hide b2
  clear h2 b1 b2
  go_wp2_with fail
  refine (k4 _).mono ?_
  rintro e w4 ⟨rfl, h4⟩
  have b4 := hide (B2.out.trans (Below.trans ((Below.refl _ _).alloc (by first | exact B2.out.size | (simp; exact B2.out.size)) _) (h4.mono (by have := B2.out.size; simp; omega))))
  clear h4 k4
  go_wp2_with fail
  go_returns
  exact ⟨rfl, b4.out⟩
theorem law_TimerShares (a : Option Addr) (ca : Nat) (xs : List Int) (p : Int)
    (wx : ∀ x ∈ xs, (Lit.int .i64 x).wf = true) (bx : xs.length ≤ 17592186044416) (hca : xs.length ≤ ca) (ha63 : ca ≤ 9223372036854775807) (hna : a = none → xs.length = 0 ∧ ca = 0) (wp_ : (Lit.int .i64 p).wf = true)
    (w : World) (hx : IsInts .i64 w a xs) :
    Calls Try.prog 6 #[.slice a xs.length ca, .int .i64 p] w fun e w' => e = .returned (.bool true) ∧ Below w.heap.size w w' :=
  shares_walk a xs.length ca p _ _ _ _ _ _ w (upto_spec a ca xs p w hx (by omega)) (fun w' K => rupto_spec a ca xs p w' (hx.later K) hca (by omega))
end Go.Proofs.Ytebiddmadmmfpaa
