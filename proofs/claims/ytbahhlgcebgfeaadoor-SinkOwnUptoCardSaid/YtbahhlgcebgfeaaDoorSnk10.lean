/- sink: the chapter's second example. -/
import Derived.Test.YtbahhlgcebgfeaaDoorSnk8
import Derived.Test.YtbahhlgcebgfeaaDoorSnk9
import Derived.Lib.SmallJoins
import Derived.Lib.SlBytesConst
namespace Go.Proofs.YtbahhlgcebgfeaaDoor
set_option linter.unusedVariables false
set_option linter.unusedSimpArgs false
open Go.RowKit W
theorem own_ints {B : Nat} {w : World} {v : Value} {l : List Int} (o : w.ownsRow B 2 1 v l.length (rowI l)) : ∃ a c, v = .slice a l.length c ∧ IsInts .i64 w a l := by
  rcases o.2 with ⟨rfl, e⟩ | ⟨g, cap, cur, rfl, _⟩
  · rw [e]; exact ⟨none, 0, rfl, .inl (List.eq_nil_of_length_eq_zero e)⟩
  · obtain ⟨c, _, lt, _⟩ := row_look o
    refine ⟨_, _, rfl, .inr ⟨g, 0, rfl, ⟨fun j hj => ?_, lt⟩⟩⟩
    rw [Nat.zero_add]
    exact c j _ (by unfold rowI; rw [List.getElem?_map, List.getElem?_eq_getElem hj]; rfl)
theorem own_bytes {B : Nat} {w : World} {v : Value} {l : List UInt8} (o : w.ownsRow B 5 1 v l.length (rowB l)) : ∃ a c, v = .slice a l.length c ∧ IsBytes w a l := by
  rcases o.2 with ⟨rfl, e⟩ | ⟨g, cap, cur, rfl, _⟩
  · rw [e]; exact ⟨none, 0, rfl, .inl (List.eq_nil_of_length_eq_zero e)⟩
  · obtain ⟨c, _, lt, _⟩ := row_look o
    refine ⟨_, _, rfl, .inr ⟨g, 0, rfl, lt, fun j hj => ?_⟩⟩
    rw [Nat.zero_add]
    exact c j _ (by unfold rowB; rw [List.getElem?_map, List.getElem?_eq_getElem hj]; rfl)
/-- What is held, as a report is read. -/
theorem Tl.rep {B : Nat} {w : World} {cv wv lv : Value} {C : List CE} {wh lo : List Int} (h : Tl B w cv wv lv C wh lo) : ∃ a c aw cw al cl, cv = .slice a C.length c ∧ wv = .slice aw wh.length cw ∧ lv = .slice al lo.length cl ∧ Rep w a aw al C wh lo := by
  obtain ⟨aw, cw, rfl, iw⟩ := own_ints h.ow
  obtain ⟨al, cl, rfl, il⟩ := own_ints h.ol
  have oc := h.oc
  have co : ∃ a c, cv = .slice a C.length c ∧ (C = [] ∨ ∃ g o, a = some ⟨g, o, none⟩ ∧ g < w.heap.size ∧ ∀ j (h : j < C.length), w.cell? ⟨g, o + j * 2, none⟩ = some C[j].1 ∧ w.cell? ⟨g, o + j * 2 + 1, none⟩ = some (.bool C[j].2.2)) := by
    rcases oc.2 with ⟨rfl, e⟩ | ⟨g, cap, cur, rfl, _⟩
    · have e := List.eq_nil_of_length_eq_zero e
      subst e
      exact ⟨none, 0, rfl, .inl rfl⟩
    · obtain ⟨c, _, lt, _⟩ := row_look oc
      refine ⟨_, _, rfl, .inr ⟨g, 0, rfl, lt, fun j hj => ?_⟩⟩
      rw [Nat.zero_add]
      have sp : C = C.take j ++ C[j] :: C.drop (j + 1) := by rw [List.getElem_cons_drop hj, List.take_append_drop]
      refine ⟨c _ _ ?_, c _ _ ?_⟩
      · have := rowC_at0 (C.take j) C[j] (C.drop (j + 1)); rw [← sp, List.length_take, Nat.min_eq_left (by omega)] at this; exact this
      · have := rowC_at1 (C.take j) C[j] (C.drop (j + 1)); rw [← sp, List.length_take, Nat.min_eq_left (by omega)] at this; exact this
  obtain ⟨a, c, rfl, co⟩ := co
  exact ⟨a, c, aw, cw, al, cl, rfl, rfl, rfl, ⟨co, fun x hx => own_bytes (h.ob x hx), iw, il⟩⟩
/-- A sink in a statement: its blocks are new. -/
structure Aw (B : Nat) (w X : World) (g : Nat) (S : SS) : Prop where
  sk : ∃ M, SkA B X g S M ∧ ∀ k, M k → w.heap.size ≤ k
  be : Below w.heap.size w X
  bb : w.heap.size ≤ B
theorem Aw.next {B : Nat} {w X Y : World} {g : Nat} {S : SS} (h : Aw B w X g S) (b : Below X.heap.size X Y) : Aw B w Y g S := by
  obtain ⟨M, s, m⟩ := h.sk
  exact ⟨⟨M, s.later b, m⟩, h.be.trans (b.mono h.be.size), h.bb⟩
theorem Aw.frame {B : Nat} {w X X' : World} {g : Nat} {S : SS} (h : Aw B w X g S) {ea : Addr} (ef : w.cell? ⟨0, 0, none⟩ = some (EV ea)) {bl : List UInt8} {bc : Nat} (sm : SmS S bl.length) (b : Below X.heap.size X X') (lt : X.heap.size < X'.heap.size) (hb : IsBytes X' (some ⟨X.heap.size, 0, none⟩) bl) (hbc : bl.length ≤ bc) (id : Int) :
    Calls Tryd.prog 12 #[.pointer (some ⟨g, 0, none⟩), .int .i64 id, .slice (some ⟨X.heap.size, 0, none⟩) bl.length bc] X' fun e w' => e = .returned (.int .i64 (frE S id)) ∧ Aw B w w' g (frS S id bl) := by
  obtain ⟨M, s, m⟩ := h.sk
  have h0 : 0 < w.heap.size := cellb_lt ef
  have h' := h.next b
  refine Calls.mono (frame_spec (s.later b) sm hb hbc (fun _ a e => ?_) ((h'.be.cell (p := ⟨0, 0, none⟩) h0).trans ef) (by have := h.bb; omega) id) ?_
  · injection e with e
    subst e
    exact ⟨fun q => Nat.lt_irrefl _ (s.old q), lt⟩
  · rintro e w' ⟨rfl, ⟨M', s', m'⟩, c⟩
    have sz := h'.be.size
    refine ⟨rfl, ⟨M', s', fun k q => ?_⟩, h'.be.trans (c.below (fun j q => m j q) sz), h.bb⟩
    rcases m' k q with q | q
    · exact m k q
    · omega
abbrev AS : SS := ⟨[], [([97, 98], true), ([100, 101], false)], true, 2, [2], [1], 2⟩
theorem as1 : frS (ss0 [(2, true)]) 1 [97, 98, 99] = ⟨[], [([97, 98], true)], true, 1, [], [1], 1⟩ := by
  simp [frS, sendF, opn, sendL, wrF, tk]
theorem as2 : frS ⟨[], [([97, 98], true)], true, 1, [], [1], 1⟩ 2 [100, 101] = AS := by
  simp [frS, sendF, opn, sendL, wrF, tk]
theorem ae1 : frE (ss0 [(2, true)]) 1 = 0 := by simp [frE]
theorem ae2 : frE ⟨[], [([97, 98], true)], true, 1, [], [1], 1⟩ 2 = 0 := by simp [frE]
theorem conv_b (X : World) (C : Array Value) (n c g : Nat) (hg : g = X.heap.size) : (convert 30 30 (.slice (some ⟨g, 0, none⟩) n c)).run Tryd.prog (X.alloc (.cells C 5)) = .ok (.slice (some ⟨g, 0, none⟩) n c) (X.alloc (.cells C 5 (C.size, C.size + 1))) :=
  Joins.run_convert_bytes_const_at X 30 5 C n c g hg Tryd.underlying30 Tryd.underlying5
theorem ch21 (w : World) : IsCh (w.alloc (.cells #[.int .i64 2, .bool true] 59)) (some ⟨w.heap.size, 0, none⟩) [(2, true)] := by
  refine .inr ⟨w.heap.size, 0, rfl, by simp, fun j hj => ?_⟩
  have : j = 0 := by simpa using hj
  subst this
  simp [go_sem]
theorem byt3 (w : World) (fr : Nat × Nat) : IsBytes (w.alloc (.cells #[.int .u8 97, .int .u8 98, .int .u8 99] 5 fr)) (some ⟨w.heap.size, 0, none⟩) [97, 98, 99] := by
  refine .inr ⟨w.heap.size, 0, rfl, by simp, fun j hj => ?_⟩
  have : j = 0 ∨ j = 1 ∨ j = 2 := by simp at hj; omega
  rcases this with rfl | rfl | rfl <;> exact (World.cell?_alloc_mark w _ _ fr _).trans rfl
theorem byt2 (w : World) (fr : Nat × Nat) : IsBytes (w.alloc (.cells #[.int .u8 100, .int .u8 101] 5 fr)) (some ⟨w.heap.size, 0, none⟩) [100, 101] := by
  refine .inr ⟨w.heap.size, 0, rfl, by simp, fun j hj => ?_⟩
  have : j = 0 ∨ j = 1 := by simp at hj; omega
  rcases this with rfl | rfl <;> exact (World.cell?_alloc_mark w _ _ fr _).trans rfl
theorem sm1 : SmS (ss0 [(2, true)]) [97, 98, 99].length := ⟨by simp, by simp, by simp, by simp, by simp, by simp⟩
theorem sm2 : SmS ⟨[], [([97, 98], true)], true, 1, [], [1], 1⟩ [100, 101].length := ⟨by simp, by simp, by simp, by simp, by simp, by simp⟩
theorem sm3 : SmS AS 0 := ⟨by simp, by simp, by simp, by simp, by simp, by simp⟩
theorem aw_new {w w2 : World} {g : Nat} {S : SS} {M : Nat → Prop} {ob : Obj} (s : SkA (w.alloc ob).heap.size w2 g S M) (m : ∀ k, M k → (w.alloc ob).heap.size ≤ k) (b : Below (w.alloc ob).heap.size (w.alloc ob) w2) : Aw (w.alloc ob).heap.size w w2 g S := by
  have sz : w.heap.size ≤ (w.alloc ob).heap.size := by simp
  exact ⟨⟨M, s, fun k q => Nat.le_trans sz (m k q)⟩, ((Below.refl _ _).alloc (Nat.le_refl _) _).trans (b.mono sz), sz⟩
theorem Aw.report {B : Nat} {w X : World} {g : Nat} {S : SS} (h : Aw B w X g S) (sm : SmS S 0) :
    Calls Tryd.prog 15 #[.pointer (some ⟨g, 0, none⟩)] X fun e w' => ∃ a c aw cw al cl C, e = .returned (.agg #[.slice a C.length c, .slice aw S.wh.length cw, .slice al S.lo.length cl, .int .i64 S.n]) ∧ C.map (fun y : CE => y.2) = S.cs ∧ Rep w' a aw al C S.wh S.lo ∧ Below X.heap.size X w' ∧ Aw B w w' g S := by
  obtain ⟨M, s, m⟩ := h.sk
  refine Calls.mono (report_spec s sm) ?_
  rintro e w' ⟨cv, wv, lv, C, rfl, t, d, b⟩
  obtain ⟨a, c, aw, cw, al, cl, rfl, rfl, rfl, r⟩ := t.rep
  exact ⟨a, c, aw, cw, al, cl, C, rfl, d, r, b, h.next b⟩
abbrev LO1 : Obj := .cells #[.int .u8 97, .int .u8 98] 5 (2, 3)
abbrev LO2 : Obj := .cells #[.int .u8 100, .int .u8 101] 5 (2, 3)
abbrev LO3 (X : World) : Obj := .cells #[.slice (some ⟨X.heap.size, 0, none⟩) 2 2, .bool true, .slice (some ⟨X.heap.size + 1, 0, none⟩) 2 2, .bool false] 53
abbrev LO4 : Obj := .cells #[.int .i64 2] 2
abbrev LO5 : Obj := .cells #[.int .i64 1] 2
abbrev LW (X : World) : World := ((((X.alloc LO1).alloc LO2).alloc (LO3 X)).alloc LO4).alloc LO5
abbrev LC (X : World) : List CE := [(.slice (some ⟨X.heap.size, 0, none⟩) 2 2, [97, 98], true), (.slice (some ⟨X.heap.size + 1, 0, none⟩) 2 2, [100, 101], false)]
theorem ba (X : World) (o : Obj) : Below X.heap.size X (X.alloc o) := (Below.refl _ _).alloc (Nat.le_refl _) _
theorem lit_bel (X : World) : Below X.heap.size X (LW X) := by
  have h := fun (n : Nat) (Y : World) (o : Obj) (b : Below n X Y) (l : n ≤ Y.heap.size) => b.trans ((ba Y o).mono l)
  exact h _ _ _ (h _ _ _ (h _ _ _ (h _ _ _ (ba X _) (by simp)) (by simp; omega)) (by simp; omega)) (by simp; omega)
theorem lit_rep (X : World) : Rep (LW X) (some ⟨X.heap.size + 1 + 1, 0, none⟩) (some ⟨X.heap.size + 1 + 1 + 1, 0, none⟩) (some ⟨X.heap.size + 1 + 1 + 1 + 1, 0, none⟩) (LC X) [2] [1] := by
  have up := fun (Y : World) (o : Obj) (k : Nat) (x : Obj) (h : Y.heap[k]? = some x) => ((ba Y o).block k (by rcases Nat.lt_or_ge k Y.heap.size with q | q; exact q; rw [Array.getElem?_eq_none q] at h; cases h)).trans h
  have h1 : (LW X).heap[X.heap.size]? = some LO1 := up _ _ _ _ (up _ _ _ _ (up _ _ _ _ (up _ _ _ _ (heap_alloc_new X _))))
  have h2 : (LW X).heap[X.heap.size + 1]? = some LO2 := up _ _ _ _ (up _ _ _ _ (up _ _ _ _ (by have := heap_alloc_new (X.alloc LO1) LO2; simpa using this)))
  have h3 : (LW X).heap[X.heap.size + 1 + 1]? = some (LO3 X) := up _ _ _ _ (up _ _ _ _ (by have := heap_alloc_new ((X.alloc LO1).alloc LO2) (LO3 X); simpa using this))
  have h4 : (LW X).heap[X.heap.size + 1 + 1 + 1]? = some LO4 := up _ _ _ _ (by have := heap_alloc_new (((X.alloc LO1).alloc LO2).alloc (LO3 X)) LO4; simpa using this)
  have h5 : (LW X).heap[X.heap.size + 1 + 1 + 1 + 1]? = some LO5 := by have := heap_alloc_new ((((X.alloc LO1).alloc LO2).alloc (LO3 X)).alloc LO4) LO5; simpa using this
  generalize LW X = Y at *
  have ll := fun (k : Nat) (x : Obj) (h : Y.heap[k]? = some x) => show k < Y.heap.size by rcases Nat.lt_or_ge k Y.heap.size with q | q; exact q; rw [Array.getElem?_eq_none q] at h; cases h
  refine ⟨.inr ⟨_, 0, rfl, ll _ _ h3, fun j hj => ?_⟩, fun x hx => ?_, .inr ⟨_, 0, rfl, ⟨fun j hj => ?_, ll _ _ h4⟩⟩, .inr ⟨_, 0, rfl, ⟨fun j hj => ?_, ll _ _ h5⟩⟩⟩
  · have : j = 0 ∨ j = 1 := by simp at hj; omega
    rcases this with rfl | rfl <;> (simp [World.cell?, h3])
  · simp only [List.mem_cons, List.not_mem_nil, or_false] at hx
    rcases hx with rfl | rfl
    · refine ⟨_, _, rfl, .inr ⟨_, 0, rfl, ll _ _ h1, fun j hj => ?_⟩⟩
      have : j = 0 ∨ j = 1 := by simp at hj; omega
      rcases this with rfl | rfl <;> (simp [World.cell?, h1])
    · refine ⟨_, _, rfl, .inr ⟨_, 0, rfl, ll _ _ h2, fun j hj => ?_⟩⟩
      have : j = 0 ∨ j = 1 := by simp at hj; omega
      rcases this with rfl | rfl <;> (simp [World.cell?, h2])
  · have : j = 0 := by simpa using hj
    subst this
    simp [World.cell?, h4]
  · have : j = 0 := by simpa using hj
    subst this
    simp [World.cell?, h5]
theorem lit_same {X : World} {a aw al : Option Addr} {c cw cl : Nat} {C : List CE} (h : Rep X a aw al C [2] [1]) (hC : C.map (fun y : CE => y.2) = AS.cs) :
    Calls Tryd.prog 14 #[.agg #[.slice a C.length c, .slice aw 1 cw, .slice al 1 cl, .int .i64 2], .agg #[.slice (some ⟨X.heap.size + 1 + 1, 0, none⟩) 2 2, .slice (some ⟨X.heap.size + 1 + 1 + 1, 0, none⟩) 1 1, .slice (some ⟨X.heap.size + 1 + 1 + 1 + 1, 0, none⟩) 1 1, .int .i64 2]] (LW X) fun e w' => e = .returned (.bool true) ∧ Below (LW X).heap.size (LW X) w' := by
  have R := same_same 2 (c := c) (cw := cw) (cl := cl) (c' := 2) (cw' := 1) (cl' := 1) (h.later (lit_bel X)) (lit_rep X) hC (by have := congrArg List.length hC; rw [List.length_map] at this; rw [this]; unfold maxLen; simp) (by unfold maxLen; simp) (by unfold maxLen; simp)
  exact R
set_option maxRecDepth 100000 in
set_option maxHeartbeats 4000000 in
theorem awake_is {w : World} {ea : Addr} (ef : w.cell? ⟨0, 0, none⟩ = some (EV ea)) :
    Calls Tryd.prog 16 #[] w fun e w' => e = .returned (.bool true) ∧ Below w.heap.size w w' := by
  have EF := hide ef
  clear ef
  go_enter Tryd.func16, Tryd.ntmps16
  go_wp2_with (first
    | (go_at_call 10; refine Calls.mono (new_spec (P := [(2, true)]) (ch21 w) (by simp) (by simp)) ?_; rintro e w2 ⟨g, M, rfl, s2, m2, b2⟩; have A2 := hide (aw_new s2 m2 b2); have cv := conv_b; clear s2 m2 b2)
    | (go_at_call 12; refine Calls.mono (A2.out.frame EF.out sm1 ((Below.refl _ _).alloc (Nat.le_refl _) _) (by simp) (byt3 w2 _) (Nat.le_refl _) 1) ?_; rintro e w3 ⟨rfl, A3⟩; rw [as1] at A3; rw [ae1]; have A3 := hide A3; clear A2)
    | (go_at_call 12; refine Calls.mono (A3.out.frame EF.out sm2 ((Below.refl _ _).alloc (Nat.le_refl _) _) (by simp) (byt2 w3 _) (Nat.le_refl _) 2) ?_; rintro e w4 ⟨rfl, A4⟩; rw [as2] at A4; rw [ae2]; have A4 := hide A4; clear A3)
    | (go_at_call 15; refine Calls.mono (A4.out.report sm3) ?_; rintro e w5 ⟨a, c, aw, cw, al, cl, C, rfl, hC, RP, b5, A5⟩; have RP := hide RP; have B6 := hide A5.be; clear A5; have HC := hide hC; have B5 := hide b5; clear hC b5 A4)
    | (go_at_call 14; with_reducible refine Calls.mono (lit_same RP.out HC.out) ?_; rintro e w6 ⟨rfl, k6⟩; have K6 := hide ((B6.out.trans ((lit_bel w5).mono B6.out.size)).trans (k6.mono (Nat.le_trans B6.out.size (lit_bel w5).size)))))
  go_returns
  exact ⟨rfl, K6.out⟩
end Go.Proofs.YtbahhlgcebgfeaaDoor
