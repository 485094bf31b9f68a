/- sink: the reference's New and Frame; both side by side. -/
import Derived.Test.YtbahhlgcebgfeaaDoorSnk28
import Derived.Test.YtbahhlgcebgfeaaDoorSnk16
namespace Go.Proofs.YtbahhlgcebgfeaaDoor
set_option linter.unusedVariables false
set_option linter.unusedSimpArgs false
open Go.RowKit W
set_option maxRecDepth 100000 in
set_option maxHeartbeats 4000000 in
theorem rframe_no {w : World} {g : Nat} {pv cv wv lv : Value} {last n : Int} (h : RB w g pv cv true last wv lv n) (b : Value) (id : Int) (hi : id ≤ last) :
    CalcN 13 #[.pointer (some ⟨g, 0, none⟩), .int .i64 id, b] w (.int .i64 180) := by
  have cl := h.cells
  have c3 := cl.2.2.1
  have c4 := cl.2.2.2.1
  have lg := blk_lt h
  clear cl h
  go_enter Tryd.func13, Tryd.ntmps13
  go_wp2_with fail
  go_returns
  exact ⟨rfl, rfl⟩
theorem rframe_spec {B : Nat} {w : World} {g : Nat} {P : List Ch} {S : SS} {M : Nat → Prop} (h : RkA B w g P S M) {ba : Option Addr} {bl : List UInt8} {bc : Nat} {ea : Addr} (sm : SmS S bl.length) (hP : P.length ≤ 1048576) (hb : IsBytes w ba bl) (hbc : bl.length ≤ bc) (nb : bl ≠ [] → ∀ a, ba = some a → ¬ M a.block ∧ a.block < w.heap.size) (ef : w.cell? ⟨0, 0, none⟩ = some (EV ea)) (b1 : 1 ≤ B) (id : Int) :
    Calls Tryd.prog 13 #[.pointer (some ⟨g, 0, none⟩), .int .i64 id, .slice ba bl.length bc] w (RFrPost B w g P S M id bl) := by
  have hA := h
  obtain ⟨pa, pc, cv, wv, lv, C, h, hp⟩ := h
  by_cases ng : S.hd = true ∧ id ≤ S.last
  · have sb := h.sb
    rw [ng.1] at sb
    refine Calls.mono (rframe_no sb _ id ng.2) ?_
    rintro e w' ⟨rfl, rfl⟩
    refine ⟨by unfold frE; rw [if_pos ng], ?_, Chg.refl _ _⟩
    have : frS S id bl = S := by unfold frS; rw [if_pos ng]
    rw [this]
    exact ⟨M, hA, fun k m => .inl m⟩
  · have W0 : ∃ b0, Rk B g w M w pa pc P cv S.hd S.last wv lv S.n C S.wh S.lo b0 bl ea ∧ (bl ≠ [] → ba = b0) := by
      by_cases e : bl = []
      · exact ⟨none, h.wk (.inl e) (fun a q => by cases q) ef b1, fun q => absurd e q⟩
      · exact ⟨ba, h.wk hb (nb e) ef b1, fun _ => rfl⟩
    obtain ⟨b0, WK, hq⟩ := W0
    obtain ⟨m, hm, hQ⟩ := h.at_
    rw [hm] at WK
    have smn := sm.n
    rw [hm] at smn
    have K := rframe_go (id := id) WK hQ hq hbc (by omega) (fun x hx => sm.b x.2 (by rw [← h.cs]; exact List.mem_map.2 ⟨x, hx, rfl⟩)) sm.l (by have := sm.c; rw [← h.cs, List.length_map] at this; exact this) hP sm.w sm.o hp ng
    have e : (⟨S.P, C.map (fun y => y.2), S.hd, S.last, S.wh, S.lo, (m : Int)⟩ : SS) = S := by rw [h.cs, ← hm]
    rw [e] at K
    exact K
set_option maxRecDepth 100000 in
set_option maxHeartbeats 4000000 in
theorem rnew_spec {w0 w : World} (b0 : Below w0.heap.size w0 w) {a : Option Addr} {P : List Ch} (hp : IsCh w0 a P) (c : Nat) :
    Calls Tryd.prog 11 #[.slice a P.length c] w fun e w' => ∃ g M, e = .returned (.pointer (some ⟨g, 0, none⟩)) ∧ RkA w0.heap.size w' g P (ss0 P) M ∧ (∀ k, M k → w.heap.size ≤ k) ∧ Below w.heap.size w w' := by
  have HP0 := hide hp
  have B0 := hide b0
  have HP := hide (hp.chg (Chg.of_below (S := fun _ => False) b0) (fun _ _ q => q))
  obtain ⟨n, hn⟩ : ∃ n, n = P.length := ⟨_, rfl⟩
  rw [← hn]
  have HN := hide hn
  clear hp hn b0
  go_enter Tryd.func11, Tryd.ntmps11
  go_wp2_with fail
  go_returns
  refine ⟨w.heap.size, fun k => k = w.heap.size, rfl, ⟨a, c, .slice none 0 0, .slice none 0 0, .slice none 0 0, [], ⟨rfl, ?_, ⟨⟨rfl, .inl ⟨rfl, rfl⟩⟩, (fun x hx => (List.not_mem_nil hx).elim), List.Pairwise.nil, ⟨rfl, .inl ⟨rfl, rfl⟩⟩, ⟨rfl, .inl ⟨rfl, rfl⟩⟩, Apt.nil _⟩, ?_, trivial, B0.out.size, fun ne a e => ?_, fun k => ?_, 0, rfl, by simp⟩, fun ne a e => ?_⟩, fun k q => Nat.le_of_eq q.symm, ba w _⟩
  · rw [← HN.out]; exact heap_alloc_new w _
  · exact HP.out.chg (Chg.of_below (S := fun _ => False) (ba w _)) (fun _ _ q => q)
  · obtain ⟨g, o, e2, lt, _⟩ := HP.out.resolve_left ne
    rw [e] at e2
    injection e2 with e2
    subst e2
    refine ⟨fun q => by simp only at q; omega, fun q => ?_, by simp only; rw [show (w.alloc _).heap.size = w.heap.size + 1 by simp]; omega⟩
    rcases q with q | ⟨x, hx, q⟩ | q | q
    · cases q
    · cases hx
    · cases q
    · cases q
  · constructor
    · exact .inl
    · rintro (q | q | ⟨x, hx, q⟩ | q | q)
      · exact q
      · cases q
      · cases hx
      · cases q
      · cases q
  · obtain ⟨g, o, e2, lt, _⟩ := HP0.out.resolve_left ne
    rw [e] at e2
    injection e2 with e2
    subst e2
    exact lt
/-- Both in a statement. -/
structure Jn (w X : World) (gA gR : Nat) (P : List Ch) (S T : SS) : Prop where
  ex : ∃ M N, SkA w.heap.size X gA S M ∧ RkA w.heap.size X gR P T N ∧ (∀ k, M k → w.heap.size ≤ k) ∧ (∀ k, N k → w.heap.size ≤ k) ∧ ∀ k, M k → ¬ N k
  be : Below w.heap.size w X
theorem Jn.next {w X Y : World} {gA gR : Nat} {P : List Ch} {S T : SS} (h : Jn w X gA gR P S T) (b : Below X.heap.size X Y) : Jn w Y gA gR P S T := by
  obtain ⟨M, N, s, r, m, n, d⟩ := h.ex
  exact ⟨⟨M, N, s.later b, r.later b, m, n, d⟩, h.be.trans (b.mono h.be.size)⟩
theorem old_bytes {w : World} {ba : Option Addr} {bl : List UInt8} (hb : IsBytes w ba bl) (ne : bl ≠ []) {a : Addr} (e : ba = some a) : a.block < w.heap.size := by
  obtain ⟨g1, o1, e1, lt, _⟩ := hb.resolve_left ne
  rw [e] at e1
  injection e1 with e1
  subst e1
  exact lt
theorem Jn.frame {w X : World} {gA gR : Nat} {P : List Ch} {S T : SS} (h : Jn w X gA gR P S T) {ea : Addr} (ef : w.cell? ⟨0, 0, none⟩ = some (EV ea)) {ba : Option Addr} {bl : List UInt8} {bc : Nat} (sm : SmS S bl.length) (hb : IsBytes w ba bl) (hbc : bl.length ≤ bc) (id : Int) :
    Calls Tryd.prog 12 #[.pointer (some ⟨gA, 0, none⟩), .int .i64 id, .slice ba bl.length bc] X fun e w' => e = .returned (.int .i64 (frE S id)) ∧ Jn w w' gA gR P (frS S id bl) T := by
  obtain ⟨M, N, s, r, m, n, d⟩ := h.ex
  have h0 : 0 < w.heap.size := cellb_lt ef
  refine Calls.mono (frame_spec s sm (hb.later h.be) hbc (fun ne a e => ?_) ((h.be.cell (p := ⟨0, 0, none⟩) h0).trans ef) (by omega) id) ?_
  · have lt := old_bytes hb ne e
    exact ⟨fun q => by have := m _ q; omega, Nat.lt_of_lt_of_le lt h.be.size⟩
  · rintro e w' ⟨rfl, ⟨M', s', m'⟩, c⟩
    have sz := h.be.size
    refine ⟨rfl, ⟨M', N, s', r.chg c (fun k q1 q2 => d k q2 q1) m, fun k q => ?_, n, fun k q1 q2 => ?_⟩, h.be.trans (c.below (fun j q => m j q) sz)⟩
    · rcases m' k q with q | q
      · exact m k q
      · omega
    · rcases m' k q1 with q | q
      · exact d k q q2
      · have := r.old q2; omega
theorem Jn.rframe {w X : World} {gA gR : Nat} {P : List Ch} {S T : SS} (h : Jn w X gA gR P S T) {ea : Addr} (ef : w.cell? ⟨0, 0, none⟩ = some (EV ea)) {ba : Option Addr} {bl : List UInt8} {bc : Nat} (sm : SmS T bl.length) (hP : P.length ≤ 1048576) (hb : IsBytes w ba bl) (hbc : bl.length ≤ bc) (id : Int) :
    Calls Tryd.prog 13 #[.pointer (some ⟨gR, 0, none⟩), .int .i64 id, .slice ba bl.length bc] X fun e w' => e = .returned (.int .i64 (frE T id)) ∧ Jn w w' gA gR P S (frS T id bl) := by
  obtain ⟨M, N, s, r, m, n, d⟩ := h.ex
  have h0 : 0 < w.heap.size := cellb_lt ef
  refine Calls.mono (rframe_spec r sm hP (hb.later h.be) hbc (fun ne a e => ?_) ((h.be.cell (p := ⟨0, 0, none⟩) h0).trans ef) (by omega) id) ?_
  · have lt := old_bytes hb ne e
    exact ⟨fun q => by have := n _ q; omega, Nat.lt_of_lt_of_le lt h.be.size⟩
  · rintro e w' ⟨rfl, ⟨N', r', n'⟩, c⟩
    have sz := h.be.size
    refine ⟨rfl, ⟨M, N', s.chg c (fun k q1 q2 => d k q1 q2), r', m, fun k q => ?_, fun k q1 q2 => ?_⟩, h.be.trans (c.below (fun j q => n j q) sz)⟩
    · rcases n' k q with q | q
      · exact n k q
      · omega
    · rcases n' k q2 with q | q
      · exact d k q1 q
      · have := s.old q1; omega
theorem Jn.report {w X : World} {gA gR : Nat} {P : List Ch} {S T : SS} (h : Jn w X gA gR P S T) (sm : SmS S 0) :
    Calls Tryd.prog 15 #[.pointer (some ⟨gA, 0, none⟩)] X fun e w' => ∃ a c aw cw al cl C, e = .returned (.agg #[.slice a C.length c, .slice aw S.wh.length cw, .slice al S.lo.length cl, .int .i64 S.n]) ∧ C.map (fun y : CE => y.2) = S.cs ∧ Tl X.heap.size w' (.slice a C.length c) (.slice aw S.wh.length cw) (.slice al S.lo.length cl) C S.wh S.lo ∧ Below X.heap.size X w' := by
  obtain ⟨M, N, s, r, m, n, d⟩ := h.ex
  refine Calls.mono (report_spec s sm) ?_
  rintro e w' ⟨cv, wv, lv, C, rfl, t, d, b⟩
  obtain ⟨a, c, aw, cw, al, cl, rfl, rfl, rfl, r⟩ := t.rep
  exact ⟨a, c, aw, cw, al, cl, C, rfl, d, t, b⟩
/-- The reference's report, as it is read. -/
theorem Jn.seen {w X : World} {gA gR : Nat} {P : List Ch} {S T : SS} (h : Jn w X gA gR P S T) : ∃ a c aw cw al cl C, C.map (fun y : CE => y.2) = T.cs ∧ Rep X a aw al C T.wh T.lo ∧ X.cell? ⟨gR, 1, none⟩ = some (.slice a C.length c) ∧ X.cell? ⟨gR, 2, none⟩ = some (.slice aw T.wh.length cw) ∧ X.cell? ⟨gR, 3, none⟩ = some (.slice al T.lo.length cl) ∧ X.cell? ⟨gR, 4, none⟩ = some (.int .i64 T.n) ∧ gR < X.heap.size := by
  obtain ⟨M, N, s, ⟨pa, pc, cv, wv, lv, C, r, _⟩, m, n, d⟩ := h.ex
  obtain ⟨a, c, aw, cw, al, cl, rfl, rfl, rfl, rp⟩ := r.tl.rep
  obtain ⟨_, c1, _, _, c2, c3, c4, _, lg⟩ := r.sb.cells
  exact ⟨a, c, aw, cw, al, cl, C, r.cs, rp, c1, c2, c3, c4, lg⟩
theorem Jn.make {w X Y : World} {gA gR : Nat} {P : List Ch} {M N : Nat → Prop} (s : SkA w.heap.size X gA (ss0 P) M) (ms : ∀ k, M k → w.heap.size ≤ k) (b : Below w.heap.size w X) (r : RkA w.heap.size Y gR P (ss0 P) N) (nr : ∀ k, N k → X.heap.size ≤ k) (b2 : Below X.heap.size X Y) : Jn w Y gA gR P (ss0 P) (ss0 P) :=
  ⟨⟨M, N, s.later b2, r, ms, fun k q => Nat.le_trans b.size (nr k q), fun k q1 q2 => by have := s.old q1; have := nr k q2; omega⟩, b.trans (b2.mono b.size)⟩
end Go.Proofs.YtbahhlgcebgfeaaDoor
