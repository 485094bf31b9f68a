/- sink: Frame whole; clones; New. -/
import Derived.Test.YtbahhlgcebgfeaaDoorSnk6
namespace Go.Proofs.YtbahhlgcebgfeaaDoor
set_option linter.unusedVariables false
set_option linter.unusedSimpArgs false
open Go.RowKit W
set_option maxRecDepth 100000 in
set_option maxHeartbeats 4000000 in
theorem frame_no {w : World} {g : Nat} {pv cv wv lv : Value} {last n : Int} (h : SB w g pv cv true last wv lv n) (b : Value) (id : Int) (hi : id ≤ last) :
    CalcN 12 #[.pointer (some ⟨g, 0, none⟩), .int .i64 id, b] w (.int .i64 180) := by
  have cl := h.cells
  have c0 := cl.1
  have c3 := cl.2.2.2.1
  have c4 := cl.2.2.2.2.1
  have lg := blk_lt h
  have kM := smade c0
  clear cl h
  go_enter Tryd.func12, Tryd.ntmps12
  go_wp2_with fail
  refine Calls.mono kM ?_
  rintro e w1 ⟨rfl, rfl⟩
  go_wp2_with fail
  go_returns
  exact ⟨rfl, rfl⟩
theorem frame_spec {B : Nat} {w : World} {g : Nat} {S : SS} {M : Nat → Prop} (h : SkA B w g S M) {ba : Option Addr} {bl : List UInt8} {bc : Nat} {ea : Addr} (sm : SmS S bl.length) (hb : IsBytes w ba bl) (hbc : bl.length ≤ bc) (nb : bl ≠ [] → ∀ a, ba = some a → ¬ M a.block ∧ a.block < w.heap.size) (ef : w.cell? ⟨0, 0, none⟩ = some (EV ea)) (b1 : 1 ≤ B) (id : Int) :
    Calls Tryd.prog 12 #[.pointer (some ⟨g, 0, none⟩), .int .i64 id, .slice ba bl.length bc] w (FrPost B w g S M id bl) := by
  have hA := h
  obtain ⟨pa, pc, cv, wv, lv, C, h⟩ := h
  by_cases ng : S.hd = true ∧ id ≤ S.last
  · have sb := h.sb
    rw [ng.1] at sb
    refine Calls.mono (frame_no sb _ id ng.2) ?_
    rintro e w' ⟨rfl, rfl⟩
    refine ⟨by unfold frE; rw [if_pos ng], ?_, Chg.refl _ _⟩
    have : frS S id bl = S := by unfold frS; rw [if_pos ng]
    rw [this]
    exact ⟨M, hA, fun k m => .inl m⟩
  · have W0 : ∃ b0, Wk B g w M w pa pc S.P cv S.hd S.last wv lv S.n C S.wh S.lo b0 bl ea ∧ (bl ≠ [] → ba = b0) := by
      by_cases e : bl = []
      · exact ⟨none, h.wk (.inl e) (fun a q => by cases q) ef b1, fun q => absurd e q⟩
      · exact ⟨ba, h.wk hb (nb e) ef b1, fun _ => rfl⟩
    obtain ⟨b0, WK, hq⟩ := W0
    have K := frame_go (id := id) WK hq hbc sm.n (fun x hx => sm.b x.2 (by rw [← h.cs]; exact List.mem_map.2 ⟨x, hx, rfl⟩)) sm.l (by have := sm.c; rw [← h.cs, List.length_map] at this; exact this) sm.w sm.o ng
    rw [h.cs] at K
    exact K
theorem addr_blk (a : Addr) (j : Nat) : (a.add j).block = a.block := by
  obtain ⟨b1, o1, s1⟩ := a
  cases s1 <;> (simp only [Addr.add]; split <;> rfl)
theorem info_choice : (Tryd.prog.info? 59).map (fun i => (i.zero, i.size, i.bytes)) = some (some (.agg #[.int .i64 0, .bool false]), 2, 16) := by kernel_rfl
set_option maxRecDepth 100000 in
set_option maxHeartbeats 4000000 in
theorem clone_ch {w : World} {a : Option Addr} {n c : Nat} {xs : List Value} (hl : xs.length = n * 2) (hn : a = none → n = 0 ∧ c = 0) (hc : ∀ ad, a = some ad → ∀ j u, xs[j]? = some u → w.cell? (ad.add j) = some u ∧ ad.block < w.heap.size) (h1 : ∀ u ∈ xs, u.oneCell' = true) (hb : n * 16 ≤ 140737488355328) :
    Calls Tryd.prog 20 #[.slice a n c] w fun e w' => ∃ v, e = .returned v ∧ w'.ownsRow w.heap.size 59 2 v n xs ∧ Below w.heap.size w w' := by
  cases a with
  | none =>
    obtain ⟨rfl, rfl⟩ := hn rfl
    have hx : xs = [] := List.eq_nil_of_length_eq_zero (by omega)
    have en := @Lib.run_eql_slice_nil Tryd.prog
    go_enter Tryd.func20, Tryd.ntmps20
    go_wp2_with fail
    go_returns
    exact ⟨_, rfl, ⟨by first | rfl | exact hl | (rw [hx]; rfl), .inl ⟨rfl, rfl⟩⟩, Below.refl _ _⟩
  | some ad =>
    have en := @Lib.run_eql_slice_nil Tryd.prog
    obtain ⟨i0, hi0, hz0, hz1, hz2⟩ := info_parts info_choice
    have I0 := hide hi0
    have Z0 := hide hz0
    have Z1 := hide hz1
    have Z2 := hide hz2
    have HL := hide hl
    have HC : Hid (∀ j u, xs[j]? = some u → (w.alloc (.cells #[] 59)).cell? (ad.add j) = some u) := hide (fun j u e => by
      obtain ⟨q, lt⟩ := hc ad rfl j u e
      exact (((Below.refl w.heap.size w).alloc (Nat.le_refl _) (.cells #[] 59)).cell (by rw [addr_blk]; exact lt)).trans q)
    have H1 := hide h1
    have O0 : Hid ((w.alloc (.cells #[] 59)).ownsRow w.heap.size 59 2 (.slice (some ⟨w.heap.size, 0, none⟩) 0 0) 0 []) := hide ⟨rfl, .inr ⟨w.heap.size, 0, #[], rfl, Nat.le_refl _, heap_alloc_new w _, Nat.le_refl _, by decide, rfl, rfl⟩⟩
    clear hl hn hc h1 hi0 hz0 hz1 hz2
    go_enter Tryd.func20, Tryd.ntmps20
    go_wp2_with (at_builtin; go_loud (refine wpList_append_own _ rfl _ _ 22 rfl w.heap.size 59 i0 (.agg #[.int .i64 0, .bool false]) 2 16 Tryd.underlying22 I0.out Z0.out Z1.out Z2.out rfl (by decide) (.slice (some ⟨w.heap.size, 0, none⟩) 0 0) 0 [] rfl O0.out ad n c xs rfl HL.out HC.out H1.out (by unfold maxLen; omega) (by omega) (by simp) ?_); intro v' w' o' gr _; rw [Nat.zero_add, List.nil_append] at o'; have OO := hide o'; have GG : Hid (Below w.heap.size w w') := hide (((Below.refl w.heap.size w).alloc (Nat.le_refl _) (.cells #[] 59)).grown gr (by simp) (fun k e => by injection e with e; exact Nat.le_of_eq e)); clear o' gr)
    go_returns
    exact ⟨_, rfl, OO.out, GG.out⟩
set_option maxRecDepth 100000 in
set_option maxHeartbeats 4000000 in
theorem clone_i {w : World} {a : Option Addr} {n c : Nat} {xs : List Value} (hl : xs.length = n * 1) (hn : a = none → n = 0 ∧ c = 0) (hc : ∀ ad, a = some ad → ∀ j u, xs[j]? = some u → w.cell? (ad.add j) = some u ∧ ad.block < w.heap.size) (h1 : ∀ u ∈ xs, u.oneCell' = true) (hb : n * 8 ≤ 140737488355328) :
    Calls Tryd.prog 25 #[.slice a n c] w fun e w' => ∃ v, e = .returned v ∧ w'.ownsRow w.heap.size 2 1 v n xs ∧ Below w.heap.size w w' := by
  cases a with
  | none =>
    obtain ⟨rfl, rfl⟩ := hn rfl
    have hx : xs = [] := List.eq_nil_of_length_eq_zero (by omega)
    have en := @Lib.run_eql_slice_nil Tryd.prog
    go_enter Tryd.func25, Tryd.ntmps25
    go_wp2_with fail
    go_returns
    exact ⟨_, rfl, ⟨by first | rfl | exact hl | (rw [hx]; rfl), .inl ⟨rfl, rfl⟩⟩, Below.refl _ _⟩
  | some ad =>
    have en := @Lib.run_eql_slice_nil Tryd.prog
    obtain ⟨i0, hi0, hz0, hz1, hz2⟩ := info_parts info_w64
    have I0 := hide hi0
    have Z0 := hide hz0
    have Z1 := hide hz1
    have Z2 := hide hz2
    have HL := hide hl
    have HC : Hid (∀ j u, xs[j]? = some u → (w.alloc (.cells #[] 2)).cell? (ad.add j) = some u) := hide (fun j u e => by
      obtain ⟨q, lt⟩ := hc ad rfl j u e
      exact (((Below.refl w.heap.size w).alloc (Nat.le_refl _) (.cells #[] 2)).cell (by rw [addr_blk]; exact lt)).trans q)
    have H1 := hide h1
    have O0 : Hid ((w.alloc (.cells #[] 2)).ownsRow w.heap.size 2 1 (.slice (some ⟨w.heap.size, 0, none⟩) 0 0) 0 []) := hide ⟨rfl, .inr ⟨w.heap.size, 0, #[], rfl, Nat.le_refl _, heap_alloc_new w _, Nat.le_refl _, by decide, rfl, rfl⟩⟩
    clear hl hn hc h1 hi0 hz0 hz1 hz2
    go_enter Tryd.func25, Tryd.ntmps25
    go_wp2_with (at_builtin; go_loud (refine wpList_append_own _ rfl _ _ 36 rfl w.heap.size 2 i0 (.int .i64 0) 1 8 Tryd.underlying36 I0.out Z0.out Z1.out Z2.out rfl (by decide) (.slice (some ⟨w.heap.size, 0, none⟩) 0 0) 0 [] rfl O0.out ad n c xs rfl HL.out HC.out H1.out (by unfold maxLen; omega) (by omega) (by simp) ?_); intro v' w' o' gr _; rw [Nat.zero_add, List.nil_append] at o'; have OO := hide o'; have GG : Hid (Below w.heap.size w w') := hide (((Below.refl w.heap.size w).alloc (Nat.le_refl _) (.cells #[] 2)).grown gr (by simp) (fun k e => by injection e with e; exact Nat.le_of_eq e)); clear o' gr)
    go_returns
    exact ⟨_, rfl, OO.out, GG.out⟩
set_option maxRecDepth 100000 in
set_option maxHeartbeats 4000000 in
theorem clone_b {w : World} {a : Option Addr} {n c : Nat} {xs : List Value} (hl : xs.length = n * 1) (hn : a = none → n = 0 ∧ c = 0) (hc : ∀ ad, a = some ad → ∀ j u, xs[j]? = some u → w.cell? (ad.add j) = some u ∧ ad.block < w.heap.size) (h1 : ∀ u ∈ xs, u.oneCell' = true) (hb : n * 1 ≤ 140737488355328) :
    Calls Tryd.prog 26 #[.slice a n c] w fun e w' => ∃ v, e = .returned v ∧ w'.ownsRow w.heap.size 5 1 v n xs ∧ Below w.heap.size w w' := by
  cases a with
  | none =>
    obtain ⟨rfl, rfl⟩ := hn rfl
    have hx : xs = [] := List.eq_nil_of_length_eq_zero (by omega)
    have en := @Lib.run_eql_slice_nil Tryd.prog
    go_enter Tryd.func26, Tryd.ntmps26
    go_wp2_with fail
    go_returns
    exact ⟨_, rfl, ⟨by first | rfl | exact hl | (rw [hx]; rfl), .inl ⟨rfl, rfl⟩⟩, Below.refl _ _⟩
  | some ad =>
    have en := @Lib.run_eql_slice_nil Tryd.prog
    obtain ⟨i0, hi0, hz0, hz1, hz2⟩ := info_parts info_u8
    have I0 := hide hi0
    have Z0 := hide hz0
    have Z1 := hide hz1
    have Z2 := hide hz2
    have HL := hide hl
    have HC : Hid (∀ j u, xs[j]? = some u → (w.alloc (.cells #[] 5)).cell? (ad.add j) = some u) := hide (fun j u e => by
      obtain ⟨q, lt⟩ := hc ad rfl j u e
      exact (((Below.refl w.heap.size w).alloc (Nat.le_refl _) (.cells #[] 5)).cell (by rw [addr_blk]; exact lt)).trans q)
    have H1 := hide h1
    have O0 : Hid ((w.alloc (.cells #[] 5)).ownsRow w.heap.size 5 1 (.slice (some ⟨w.heap.size, 0, none⟩) 0 0) 0 []) := hide ⟨rfl, .inr ⟨w.heap.size, 0, #[], rfl, Nat.le_refl _, heap_alloc_new w _, Nat.le_refl _, by decide, rfl, rfl⟩⟩
    clear hl hn hc h1 hi0 hz0 hz1 hz2
    go_enter Tryd.func26, Tryd.ntmps26
    go_wp2_with (at_builtin; go_loud (refine wpList_append_own _ rfl _ _ 30 rfl w.heap.size 5 i0 (.int .u8 0) 1 1 Tryd.underlying30 I0.out Z0.out Z1.out Z2.out rfl (by decide) (.slice (some ⟨w.heap.size, 0, none⟩) 0 0) 0 [] rfl O0.out ad n c xs rfl HL.out HC.out H1.out (by unfold maxLen; omega) (by omega) (by simp) ?_); intro v' w' o' gr _; rw [Nat.zero_add, List.nil_append] at o'; have OO := hide o'; have GG : Hid (Below w.heap.size w w') := hide (((Below.refl w.heap.size w).alloc (Nat.le_refl _) (.cells #[] 5)).grown gr (by simp) (fun k e => by injection e with e; exact Nat.le_of_eq e)); clear o' gr)
    go_returns
    exact ⟨_, rfl, OO.out, GG.out⟩
def rowCh (l : List Ch) : List Value := l.flatMap fun x => [.int .i64 x.1, .bool x.2]
theorem rowCh_cons (x : Ch) (l : List Ch) : rowCh (x :: l) = .int .i64 x.1 :: .bool x.2 :: rowCh l := by simp [rowCh]
theorem rowCh_len (l : List Ch) : (rowCh l).length = l.length * 2 := by
  induction l with
  | nil => rfl
  | cons x l ih => rw [rowCh_cons, List.length_cons, List.length_cons, List.length_cons, ih]; omega
theorem rowCh_one (l : List Ch) : ∀ u ∈ rowCh l, u.oneCell' = true := by
  induction l with
  | nil => intro u hu; cases hu
  | cons x l ih =>
    intro u hu
    rw [rowCh_cons] at hu
    rcases List.mem_cons.1 hu with rfl | hu
    · rfl
    · rcases List.mem_cons.1 hu with rfl | hu
      · rfl
      · exact ih u hu
theorem rowCh_get (l : List Ch) : ∀ (j : Nat) (u : Value), (rowCh l)[j]? = some u → ∃ (i : Nat) (hi : i < l.length), (j = i * 2 ∧ u = .int .i64 l[i].1) ∨ (j = i * 2 + 1 ∧ u = .bool l[i].2) := by
  induction l with
  | nil => intro j u h; simp [rowCh] at h
  | cons x l ih =>
    intro j u h
    rw [rowCh_cons] at h
    rcases j with _ | _ | j
    · rw [List.getElem?_cons_zero] at h
      exact ⟨0, by simp, .inl ⟨rfl, (Option.some.inj h).symm⟩⟩
    · rw [List.getElem?_cons_succ, List.getElem?_cons_zero] at h
      exact ⟨0, by simp, .inr ⟨rfl, (Option.some.inj h).symm⟩⟩
    · rw [List.getElem?_cons_succ, List.getElem?_cons_succ] at h
      obtain ⟨i, hi, q⟩ := ih j u h
      refine ⟨i + 1, by simp; omega, ?_⟩
      rcases q with ⟨q1, q2⟩ | ⟨q1, q2⟩
      · exact .inl ⟨by omega, by rw [List.getElem_cons_succ]; exact q2⟩
      · exact .inr ⟨by omega, by rw [List.getElem_cons_succ]; exact q2⟩
theorem rowCh_at (l : List Ch) (i : Nat) (hi : i < l.length) : (rowCh l)[i * 2]? = some (.int .i64 l[i].1) ∧ (rowCh l)[i * 2 + 1]? = some (.bool l[i].2) := by
  induction l generalizing i with
  | nil => simp at hi
  | cons x l ih =>
    rw [rowCh_cons]
    rcases i with _ | i
    · exact ⟨rfl, rfl⟩
    · have := ih i (by simp at hi; omega)
      rw [show (i + 1) * 2 = i * 2 + 1 + 1 from by omega]
      rw [List.getElem?_cons_succ, List.getElem?_cons_succ, List.getElem?_cons_succ, List.getElem?_cons_succ]
      exact this
theorem cells_ch {w : World} {a : Option Addr} {l : List Ch} (h : IsCh w a l) : ∀ ad, a = some ad → ∀ j u, (rowCh l)[j]? = some u → w.cell? (ad.add j) = some u ∧ ad.block < w.heap.size := by
  rintro ad rfl j u hu
  obtain ⟨i, hi, q⟩ := rowCh_get l j u hu
  rcases h with rfl | ⟨g, o, e, lt, h⟩
  · simp at hi
  · injection e with e
    subst e
    rw [Go.WideShapes.add_plain]
    refine ⟨?_, lt⟩
    rcases q with ⟨rfl, rfl⟩ | ⟨rfl, rfl⟩
    · exact (h i hi).1
    · exact (h i hi).2
/-- A row of choices of one's own, as it is read. -/
theorem own_ch {B : Nat} {w : World} {v : Value} {l : List Ch} (o : w.ownsRow B 59 2 v l.length (rowCh l)) : ∃ a c, v = .slice a l.length c ∧ IsCh w a l ∧ l.length ≤ c ∧ c ≤ 9223372036854775807 ∧ ∀ x, a = some x → v.ownBlock = some x.block := by
  rcases o.2 with ⟨rfl, e⟩ | ⟨g, cap, cur, rfl, hb, hh, hn, hm, _⟩
  · have : l = [] := List.eq_nil_of_length_eq_zero e
    subst this
    exact ⟨none, 0, rfl, .inl rfl, by simp, by decide, fun x q => by cases q⟩
  · obtain ⟨c, f, lt, _⟩ := row_look o
    refine ⟨some ⟨g, 0, none⟩, cap, rfl, .inr ⟨g, 0, rfl, lt, fun j hj => ?_⟩, hn, by unfold maxLen at hm; omega, fun x q => by injection q with q; rw [← q]; rfl⟩
    rw [Nat.zero_add]
    exact ⟨c _ _ (rowCh_at l j hj).1, c _ _ (rowCh_at l j hj).2⟩
abbrev ss0 (P : List Ch) : SS := ⟨P, [], false, 0, [], [], 0⟩
def NwPost (w : World) (P : List Ch) (e : Ending) (w' : World) : Prop := ∃ g M, e = .returned (.pointer (some ⟨g, 0, none⟩)) ∧ SkA w.heap.size w' g (ss0 P) M ∧ (∀ k, M k → w.heap.size ≤ k) ∧ Below w.heap.size w w'
set_option maxRecDepth 100000 in
set_option maxHeartbeats 4000000 in
theorem new_spec {w : World} {a : Option Addr} {c : Nat} {P : List Ch} (h : IsCh w a P) (hn : a = none → P.length = 0 ∧ c = 0) (hb : P.length ≤ 8796093022208) : Calls Tryd.prog 10 #[.slice a P.length c] w (NwPost w P) := by
  have K := clone_ch (w := w) (a := a) (n := P.length) (c := c) (rowCh_len P) hn (cells_ch h) (rowCh_one P) (by omega)
  obtain ⟨q, hq⟩ : ∃ q, q = P.length := ⟨_, rfl⟩
  rw [← hq] at K ⊢
  have HQ := hide hq
  clear h hn hb hq
  go_enter Tryd.func10, Tryd.ntmps10
  go_wp2_with fail
  refine Calls.mono K ?_
  rintro e w1 ⟨v, rfl, o, k⟩
  rw [HQ.out] at o
  obtain ⟨a1, c1, rfl, ic, h1, h2, ob⟩ := own_ch o
  have OO := hide o
  have IC := hide ic
  have KK := hide k
  have H1 := hide h1
  have H2 := hide h2
  have OB := hide ob
  clear o ic k h1 h2 ob K
  go_wp2_with fail
  go_returns
  have b2 : Below w1.heap.size w1 (w1.alloc (.cells #[.pointer (some ⟨w1.heap.size, 0, none⟩), .slice a1 P.length c1, .slice none 0 0, .bool false, .int .i64 0, .slice none 0 0, .slice none 0 0, .int .i64 0] 45)) := (Below.refl _ _).alloc (Nat.le_refl _) _
  have sz := KK.out.size
  refine ⟨w1.heap.size, fun k => k = w1.heap.size ∨ InT (.slice none 0 0) (.slice none 0 0) (.slice none 0 0) [] k ∨ ∃ x, a1 = some x ∧ x.block = k, rfl, ⟨a1, c1, .slice none 0 0, .slice none 0 0, .slice none 0 0, [], rfl, heap_alloc_new w1 _, ⟨⟨rfl, .inl ⟨rfl, rfl⟩⟩, fun x hx => (by cases hx), List.Pairwise.nil, ⟨rfl, .inl ⟨rfl, rfl⟩⟩, ⟨rfl, .inl ⟨rfl, rfl⟩⟩, Apt.nil _⟩, IC.out.chg (Chg.of_below (S := fun _ => False) b2) (fun _ _ q => q), ⟨H1.out, H2.out⟩, sz, fun x e => ?_, fun k => Iff.rfl⟩, ?_, KK.out.trans (b2.mono sz)⟩
  · have := own_old OO.out (OB.out x e)
    refine ⟨by omega, ?_, by simp; omega⟩
    rintro (i | ⟨y, hy, i⟩ | i | i)
    · cases i
    · cases hy
    · cases i
    · cases i
  · rintro k (q | (i | ⟨y, hy, i⟩ | i | i) | ⟨x, e, q⟩)
    · omega
    · cases i
    · cases hy
    · cases i
    · cases i
    · rw [← q]; exact (own_old OO.out (OB.out x e)).1
end Go.Proofs.YtbahhlgcebgfeaaDoor
