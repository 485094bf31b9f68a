/- WireBack: the law's walk. (gen_lawbk.py) -/
import Derived.Test.YthaphijkfedihaaRfit
import Derived.Test.YthaphijkfedihaaLawpk
import Derived.Test.YthaphijkfedihaaAlive5
import Derived.Maps.AppendAt
import Derived.SliceStrings
namespace Go.Proofs.Ythaphijkfedihaa
set_option linter.unusedVariables false
set_option linter.unusedSimpArgs false
open Go.RowKit W
/-- All texts of a list, each with a line end ahead. -/
def joinT (ps : List (List UInt8)) : List UInt8 := ps.flatMap fun p => 10 :: p
theorem join_fold (ps : List (List UInt8)) : ∀ a, ps.foldl (fun (a : Option (List UInt8)) p => some (match a with | none => p | some a => a ++ 10 :: p)) (some a) = some (a ++ joinT ps) := by
  induction ps with
  | nil => intro a; simp [joinT]
  | cons p r ih => intro a; rw [List.foldl_cons]; show List.foldl _ (some (a ++ 10 :: p)) r = _; rw [ih]; simp [joinT]
theorem joinL_cons (p : List UInt8) (ps : List (List UInt8)) : joinL (p :: ps) = p ++ joinT ps := by
  exact congrArg (fun o : Option (List UInt8) => o.getD []) (join_fold ps p)
theorem cut_join (ps : List (List UInt8)) : ∀ p, (∀ q ∈ p :: ps, (10 : UInt8) ∉ q) → cutL 10 [] (p ++ joinT ps) = p :: ps := by
  induction ps with
  | nil => intro p h; simp only [joinT, List.flatMap_nil, List.append_nil]; rw [cutL_none 10 p [] (h p (by simp))]; rfl
  | cons q r ih =>
    intro p h
    have e : joinT (q :: r) = 10 :: (q ++ joinT r) := by simp [joinT]
    rw [e, cutL_at 10 p _ [] (h p (by simp)), ih q (fun x hx => h x (List.mem_cons_of_mem _ hx))]
    rfl
theorem split_join (ps : List (List UInt8)) (hp : ps ≠ []) (h : ∀ p ∈ ps, fitL p = true) : splitL (joinL ps) = ps := by
  cases ps with
  | nil => exact absurd rfl hp
  | cons p r =>
    unfold splitL
    rw [joinL_cons, cut_join r p (fun q hq => (fit_parts (h q hq)).2.1)]
    have e : (p :: r).map bareL = p :: r := by
      conv => rhs; rw [← List.map_id (p :: r)]
      apply List.map_congr_left
      intro q hq
      unfold bareL
      rw [if_neg (fit_parts (h q hq)).2.2]; rfl
    rw [e, List.filter_eq_self]
    intro q hq
    have := (fit_parts (h q hq)).1
    simpa using this
/-- The packer, what was taken, what came back. -/
structure Bk (B g : Nat) (n : Int) (w0 : World) (pend tk gt : List ByteArray) (vt vg : Value) (w : World) : Prop where
  pk : Pk B w g n (joinL (pend.map lst))
  ot : w.ownsRow B 9 1 vt tk.length (tk.map Value.string)
  og : w.ownsRow B 9 1 vg gt.length (gt.map Value.string)
  ne : ∀ k, vt.ownBlock = some k → vg.ownBlock ≠ some k
  below : Below B w0 w
  le : B ≤ w.heap.size
section
variable {B g : Nat} {n : Int} {w0 w w' : World} {pend pend' tk gt : List ByteArray} {vt vg vt' vg' : Value} {row : Option Nat} {x : ByteArray}
theorem Bk.upd (s : Bk B g n w0 pend tk gt vt vg w) (u : Upd B [] w w') : Bk B g n w0 pend tk gt vt vg w' := by
  obtain ⟨v, p⟩ := s.pk
  exact ⟨⟨v, p.upd u (by simp) (by simp)⟩, u.row s.ot (by simp), u.row s.og (by simp), s.ne, s.below.trans (u.below s.le), Nat.le_trans s.le u.size⟩
theorem Bk.later (s : Bk B g n w0 pend tk gt vt vg w) (b : Below w.heap.size w w') : Bk B g n w0 pend tk gt vt vg w' := s.upd (Upd.of_below b)
theorem Bk.p (s : Bk B g n w0 pend tk gt vt vg w) (u : Upd B TP w w') (q : Pk B w' g n (joinL (pend'.map lst))) : Bk B g n w0 pend' tk gt vt vg w' :=
  ⟨q, u.row s.ot (by decide), u.row s.og (by decide), s.ne, s.below.trans (u.below s.le), Nat.le_trans s.le u.size⟩
theorem bk_str {v : Value} {k m : Nat} {xs : List Value} (ho : w.ownsRow B 9 1 v m xs) (hg : w.grownBy w' v.ownBlock) : Upd B [9] w w' :=
  (Upd.refl B [9] w).grown hg (fun k hk => by
    obtain ⟨h1, cs, h2⟩ := own_blk ho hk
    exact ⟨h1, cs, _, _, h2, by simp⟩)
theorem Bk.took (s : Bk B g n w0 pend tk gt vt vg w) (ho : w'.ownsRow B 9 1 vt' (tk.length + 1) (tk.map Value.string ++ [.string x])) (hg : w.grownBy w' vt.ownBlock) (hv : vt'.ownBlock = vt.ownBlock ∨ vt'.ownBlock = some w.heap.size) :
    Bk B g n w0 pend (tk ++ [x]) gt vt' vg w' := by
  have u := bk_str (k := 0) s.ot hg
  obtain ⟨v, p⟩ := s.pk
  refine ⟨⟨v, p.upd u (by decide) (by decide)⟩, by simpa using ho, own_ty s.og (fun k hk => hg.block k (s.og.lt k hk).2 (fun e => s.ne k e.symm hk)), ?_, s.below.trans (u.below s.le), Nat.le_trans s.le u.size⟩
  intro k hk
  rcases hv with e | e
  · exact s.ne k (e ▸ hk)
  · rw [e] at hk
    injection hk with hk
    intro q
    have := (s.og.lt k q).2
    omega
theorem Bk.got (s : Bk B g n w0 pend tk gt vt vg w) {qs : List ByteArray} (ho : w'.ownsRow B 9 1 vg' (gt.length + qs.length) (gt.map Value.string ++ qs.map Value.string)) (hg : w.grownBy w' vg.ownBlock) (hv : vg'.ownBlock = vg.ownBlock ∨ vg'.ownBlock = some w.heap.size) :
    Bk B g n w0 pend tk (gt ++ qs) vt vg' w' := by
  have u := bk_str (k := 0) s.og hg
  obtain ⟨v, p⟩ := s.pk
  refine ⟨⟨v, p.upd u (by decide) (by decide)⟩, own_ty s.ot (fun k hk => hg.block k (s.ot.lt k hk).2 (fun e => s.ne k hk e.symm)), by simpa using ho, ?_, s.below.trans (u.below s.le), Nat.le_trans s.le u.size⟩
  intro k hk
  rcases hv with e | e
  · rw [e]; exact s.ne k hk
  · rw [e]
    intro q
    injection q with q
    have := (s.ot.lt k hk).2
    omega
end
/-- What the numbers say between two rounds. -/
structure Bn (n : Int) (pend tk gt : List ByteArray) (L : Int) : Prop where
  all : tk = gt ++ pend
  inv : Inv n pend
  fit : ∀ p ∈ pend, fitL (lst p) = true
  last : L = -1 ∨ (0 ≤ L ∧ L ≤ 65536 ∧ ∀ p r, pend = p :: r → n < L + 1 + (p.size : Int))
theorem own_txts {w : World} {B m : Nat} {v : Value} {ps : List ByteArray} (h : w.ownsRow B 9 1 v ps.length (ps.map Value.string)) : ∃ a c, v = .slice a ps.length c ∧ IsTxts w a ps := by
  obtain ⟨A, c, rfl, _, _⟩ := own_form h
  refine ⟨A, c, rfl, ?_⟩
  by_cases z : ps = []
  · exact .inl z
  · have hp : 0 < ps.length := by cases ps; exact absurd rfl z; simp
    obtain ⟨g, hg⟩ : ∃ g, A = some ⟨g, 0, none⟩ := by
      rcases h.2 with ⟨e, e2⟩ | ⟨g, cap, cur, e, _⟩
      · omega
      · injection e with e; exact ⟨g, e⟩
    subst hg
    refine .inr ⟨g, 0, rfl, ⟨fun j hj => ?_, (h.lt g rfl).2⟩⟩
    have := h.cells (g := g) rfl j (.string ps[j]) (by simp [hj])
    rw [Go.WideShapes.add_plain] at this
    exact this
def AddK (B g : Nat) (n : Int) (w0 : World) (pend' tk gt : List ByteArray) (vt vg : Value) (out : List UInt8) (er : Int) (e : Ending) (w' : World) : Prop :=
  ∃ a c, e = .returned (.tuple #[.slice a out.length c, .int .i64 er]) ∧ Bk B g n w0 pend' tk gt vt vg w' ∧ BytesT w' a out ∧ out.length ≤ c ∧ (a = none → out.length = 0 ∧ c = 0)
theorem addK {B g : Nat} {n : Int} {w0 w : World} {pend pend' tk gt : List ByteArray} {vt vg : Value} {out : List UInt8} {er : Int} (x : ByteArray) (hq : addF n (joinL (pend.map lst)) (lst x) = (joinL (pend'.map lst), out, er)) (s : Bk B g n w0 pend tk gt vt vg w) (hl : (joinL (pend.map lst)).length ≤ 65536) (hz : n ≤ 65536) (hx : x.size ≤ 140737488355327) :
    Calls Try.prog 13 #[.pointer (some ⟨g, 0, none⟩), .string x] w (AddK B g n w0 pend' tk gt vt vg out er) :=
  (padd_spec B g n _ x w s.pk hl hz s.le hx).mono fun e w' ⟨a, c, he, h1, h2, hb, p2, u⟩ => by
    rw [hq] at he h1 h2 hb p2
    exact ⟨a, c, he, s.p u p2, hb, h1, h2⟩
def FlK (B g : Nat) (n : Int) (w0 : World) (tk gt : List ByteArray) (vt vg : Value) (out : List UInt8) (e : Ending) (w' : World) : Prop :=
  ∃ a c, e = .returned (.slice a out.length c) ∧ Bk B g n w0 [] tk gt vt vg w' ∧ BytesT w' a out ∧ out.length ≤ c ∧ (a = none → out.length = 0 ∧ c = 0)
theorem flK {B g : Nat} {n : Int} {w0 w : World} {pend tk gt : List ByteArray} {vt vg : Value} (s : Bk B g n w0 pend tk gt vt vg w) (hl : (joinL (pend.map lst)).length ≤ 65536) :
    Calls Try.prog 11 #[.pointer (some ⟨g, 0, none⟩)] w (FlK B g n w0 tk gt vt vg (joinL (pend.map lst))) :=
  (flush_spec B g n _ w s.pk (by omega)).mono fun e w' ⟨a, c, he, h1, h2, hb, ⟨v2, p2, _⟩, u⟩ => ⟨a, c, he, s.p u ⟨v2, p2⟩, hb, h1, h2⟩
theorem Bn.pos {n : Int} {pend tk gt : List ByteArray} {L : Int} (b : Bn n pend tk gt L) (h : pend ≠ []) : 0 < (joinL (pend.map lst)).length := by
  have := b.inv.few
  have : 0 < pend.length := by cases pend; exact absurd rfl h; simp
  omega
theorem World.below_alloc_ (w : World) (o : Obj) : Below w.heap.size w (w.alloc o) := (Below.refl _ _).alloc (Nat.le_refl _) o
set_option maxRecDepth 100000 in
set_option maxHeartbeats 16000000 in
theorem back_ok (n : Int) (h1 : 1 ≤ n) (h2 : n ≤ 65536) (A : Option Addr) (c : Nat) (lines : List ByteArray) (w : World) (hi : IsTxts w A lines) (hs : ∀ q ∈ lines, q.size ≤ 1048576) (hl : lines.length ≤ 1048576) :
    Calls Try.prog 5 #[.int .i64 n, .slice A lines.length c] w fun e w' => e = .returned (.bool true) ∧ Below w.heap.size w w' := by
  have HI := hide hi
  have HS := hide hs
  clear hi hs
  obtain ⟨i0, hi0, hz0, hz1, hz2⟩ := info_parts info_str5
  have HI0 : Hid (Try.prog.info? 9 = some i0 ∧ i0.zero = some (.string ByteArray.empty) ∧ i0.size = 1 ∧ i0.bytes = 16) := ⟨hi0, hz0, hz1, hz2⟩
  clear hi0 hz0 hz1 hz2
  go_enter Try.func5, Try.ntmps5
  go_wp2_with fail
  refine (newp_ok n h1 h2 _).mono ?_
  rintro e w1 ⟨g, rfl, ⟨v, p1⟩, b1⟩
  have S1 : Hid (Bk w.heap.size g n w [] [] [] (.slice none 0 0) (.slice none 0 0) w1) := ⟨⟨v, p1⟩, ⟨rfl, .inl ⟨rfl, rfl⟩⟩, ⟨rfl, .inl ⟨rfl, rfl⟩⟩, fun k hk => by simp [Value.ownBlock] at hk, b1, b1.size⟩
  clear p1 b1
  go_wp2_with fail
  go_loopw [7, 8, 9, 10] (fun vt vg la i wr => ∃ (k : Nat) (pend tk gt : List ByteArray) (L : Int), k ≤ lines.length + 1 ∧ tk.length ≤ k ∧ i = .int .i64 k ∧ la = .int .i64 L ∧ Hid (Bn n pend tk gt L) ∧ Hid (Bk w.heap.size g n w pend tk gt vt vg wr) ∧ Hid ((k = lines.length + 1 → pend = []) ∧ (k ≤ lines.length → pend = [] → L = -1))) (fun _ _ _ i _ => lines.length + 1 - (intOf i).toNat)
  case atStart => exact ⟨0, [], [], [], -1, by omega, by simp, rfl, rfl, ⟨rfl, ⟨Nat.le_refl _, by show ((0 : Nat) : Int) ≤ n; omega⟩, by simp, .inl rfl⟩, S1.out, fun _ => rfl, fun _ _ => rfl⟩
  case round =>
    obtain ⟨k, pend, tk, gt, L, hk, ht, rfl, rfl, bn, bk, fin⟩ := hrel
    have l1 : (joinL (pend.map lst)).length ≤ 65536 := by have := bn.out.inv.fits; omega
    have lg : gt.length + pend.length = tk.length := by have := congrArg List.length bn.out.all; rw [List.length_append] at this; omega
    by_cases hlt : k < lines.length
    · have ADDR : ∃ g' o, A = some ⟨g', o, none⟩ ∧ g' < w.heap.size ∧ wr.cell? ⟨g', o + k, none⟩ = some (.string lines[k]) := by
        rcases HI.out with q | ⟨g', o, rfl, li⟩
        · rw [q] at hlt; exact absurd hlt (by simp)
        · exact ⟨g', o, rfl, li.lt, (bk.out.below.cell (p := ⟨g', o + k, none⟩) li.lt).trans (li.cell k hlt)⟩
      obtain ⟨g', o, rfl, lt0, c0⟩ := ADDR
      have xs : lines[k].size ≤ 1048576 := HS.out _ (List.getElem_mem hlt)
      obtain ⟨x, hx⟩ : ∃ x, x = lines[k] := ⟨_, rfl⟩
      rw [← hx] at c0 xs
      clear hx
      have nk : ((k : Int) == (lines.length : Int)) = false := by rw [beq_eq_false_iff_ne]; omega
      obtain ⟨AB1, AB2⟩ := add_both bn.out.inv x
      have KF := fun W => rfit_spec x (by omega) W
      cases ft : fitL (lst x) with
      | false =>
        have AR : addR n pend x = (pend, [], 51) := by unfold addR; rw [if_pos ft]
        rw [AR] at AB1
        have KA := addK x AB1 bk.out l1 h2 (by omega)
        rw [ft] at KF
        clear AB1 AB2 AR ft
        go_wp2_with fail
        refine KA.mono ?_
        rintro e wA ⟨a, ca, rfl, sA, tA, _, _⟩
        have cx : wA.cell? ⟨g', o + k, none⟩ = some (.string x) := by
          rw [(sA.below.cell (p := ⟨g', o + k, none⟩) lt0), ← (bk.out.below.cell (p := ⟨g', o + k, none⟩) lt0)]; exact c0
        have SA := hide sA
        clear KA sA tA
        go_wp2_with fail
        refine (KF _).mono ?_
        rintro e wB ⟨rfl, bB⟩
        have SB := hide (SA.out.later bB)
        clear bB KF
        go_wp2_with fail
        go_roundw
        case rel => exact ⟨k + 1, pend, tk, gt, L, by omega, by omega, by go_num, rfl, bn.out, SB.out, fun e => by omega, fun _ e => fin.out.2 (by omega) e⟩
        case measure => first | (simp [intOf]; done) | (simp [intOf]; omega)
      | true =>
        rw [ft] at KF
        by_cases lgx : n < x.size
        · have AR : addR n pend x = (pend, [], 2) := by unfold addR; rw [if_neg (by rw [ft]; simp), if_pos lgx]
          rw [AR] at AB1
          have KA := addK x AB1 bk.out l1 h2 (by omega)
          clear AB1 AB2 AR ft
          go_wp2_with fail
          refine KA.mono ?_
          rintro e wA ⟨a, ca, rfl, sA, tA, _, _⟩
          have cx : wA.cell? ⟨g', o + k, none⟩ = some (.string x) := by
            rw [(sA.below.cell (p := ⟨g', o + k, none⟩) lt0), ← (bk.out.below.cell (p := ⟨g', o + k, none⟩) lt0)]; exact c0
          have SA := hide sA
          clear KA sA tA
          go_wp2_with fail
          refine (KF _).mono ?_
          rintro e wB ⟨rfl, bB⟩
          have SB := hide (SA.out.later bB)
          have cx2 : wB.cell? ⟨g', o + k, none⟩ = some (.string x) := by
            rw [(SB.out.below.cell (p := ⟨g', o + k, none⟩) lt0), ← (bk.out.below.cell (p := ⟨g', o + k, none⟩) lt0)]; exact c0
          clear bB KF
          go_wp2_with fail
          go_roundw
          case rel => exact ⟨k + 1, pend, tk, gt, L, by omega, by omega, by go_num, rfl, bn.out, SB.out, fun e => by omega, fun _ e => fin.out.2 (by omega) e⟩
          case measure => first | (simp [intOf]; done) | (simp [intOf]; omega)
        · by_cases fu : pend ≠ [] ∧ n < ((joinL (pend.map lst)).length : Int) + 1 + x.size
          · obtain ⟨pe, fu'⟩ := fu
            have AR : addR n pend x = ([x], joinL (pend.map lst), 0) := by unfold addR; rw [if_neg (by rw [ft]; simp), if_neg lgx, if_pos ⟨pe, fu'⟩]
            rw [AR] at AB1 AB2
            have KA := addK x AB1 bk.out l1 h2 (by omega)
            have IX := hide AB2
            obtain ⟨len, hlen⟩ : ∃ len, len = (joinL (pend.map lst)).length := ⟨_, rfl⟩
            have HL := hide hlen
            have lpos : 0 < len := by rw [hlen]; exact bn.out.pos pe
            have lfit : (len : Int) ≤ n := by rw [hlen]; exact bn.out.inv.fits
            have FT := hide ft
            have FU := hide fu'
            clear AB1 AB2 AR ft
            go_wp2_with fail
            refine KA.mono ?_
            rintro e wA ⟨a, ca, rfl, sA, tA, hca, hna⟩
            rw [← hlen] at hca hna ⊢
            clear hlen
            have cx : wA.cell? ⟨g', o + k, none⟩ = some (.string x) := by
              rw [(sA.below.cell (p := ⟨g', o + k, none⟩) lt0), ← (bk.out.below.cell (p := ⟨g', o + k, none⟩) lt0)]; exact c0
            have SA := hide sA
            have TA := hide tA
            have dl : ((len : Int) == 0) = false := by rw [beq_eq_false_iff_ne]; omega
            clear KA sA tA fu'
            go_wp2_with (
              at_builtin
              refine wpList_append_own_at _ rfl _ _ 27 rfl w.heap.size 9 i0 (.string ByteArray.empty) 1 16 Try.underlying27 HI0.out.1 HI0.out.2.1 HI0.out.2.2.1 HI0.out.2.2.2 ?a1 ?a2 u7 tk.length (tk.map Value.string) ?a3 (SA.out.ot.alloc _) ⟨wA.heap.size, 0, none⟩ 1 1 [.string x] ?a5 ?a6 ?a7 ?a8 ?a9 ?b1 ?b2 ?_
              case a1 => rfl
              case a2 => decide
              case a3 => rfl
              case a5 => rfl
              case a6 => rfl
              case a7 => exact cell_one_new _ _ _
              case a8 => exact one_txt
              case a9 => unfold maxLen; omega
              case b1 => omega
              case b2 => (have := SA.out.le; simp; omega)
              intro v9 w9 hown9 hgrow9 hnil9 hv9
              have U9 := hide ((Upd.refl w.heap.size [9] _).grown hgrow9 (fun k hk => by
                obtain ⟨h1, cs, h2⟩ := own_blk (SA.out.ot.alloc _) hk
                exact ⟨h1, cs, _, _, h2, by simp⟩))
              have ST := hide (Bk.took (SA.out.later (World.below_alloc_ _ _)) hown9 hgrow9 hv9)
              have cx3 : w9.cell? ⟨g', o + k, none⟩ = some (.string x) := by
                rw [(ST.out.below.cell (p := ⟨g', o + k, none⟩) lt0), ← (bk.out.below.cell (p := ⟨g', o + k, none⟩) lt0)]; exact c0
              clear hown9 hgrow9 hnil9 hv9)
            have T9 := hide (TA.out.upd (B := w.heap.size) (T := [9]) (((Upd.refl _ _ _).alloc _).trans U9.out) (by decide))
            go_wp2_with fail
            refine (KF _).mono ?_
            rintro e wB ⟨rfl, bB⟩
            have SB := hide (ST.out.later bB)
            have TB := hide (T9.out.upd (Upd.of_below (B := w.heap.size) (T := []) bB) (by simp))
            have cx2 : wB.cell? ⟨g', o + k, none⟩ = some (.string x) := by
              rw [(SB.out.below.cell (p := ⟨g', o + k, none⟩) lt0), ← (bk.out.below.cell (p := ⟨g', o + k, none⟩) lt0)]; exact c0
            clear bB KF
            have TBi := hide TB.out.is
            have KS := split_spec a (joinL (pend.map lst)) ca wB TBi.out (by omega) (by rw [← HL.out]; exact hca) (by rw [← HL.out]; exact hna)
            have SJ := hide (split_join (pend.map lst) (by simpa using pe) (by intro q hq; obtain ⟨p, hp, rfl⟩ := List.mem_map.1 hq; exact bn.out.fit p hp))
            rw [← HL.out] at KS
            have dl : ((len : Int) == 0) = false := by rw [beq_eq_false_iff_ne]; omega
            go_wp2_with fail
            refine KS.mono ?_
            intro e wC hC
            obtain ⟨a5, c5, qs, rfl, hqs, iq, bC⟩ := split_post hC
            have hqs2 := hqs.trans SJ.out
            obtain rfl : qs = pend := txts_eq hqs2
            have SC := hide (SB.out.later bC)
            clear hC hqs hqs2 bC KS TBi
            have pe2 : 0 < qs.length := by cases qs; exact absurd rfl pe; simp
            have pl : ((qs.length : Int) == 0) = false := by rw [beq_eq_false_iff_ne]; omega
            obtain ⟨g5, o5, rfl, li5⟩ := iq.resolve_left pe
            have h50 := li5.cell 0 pe2
            rw [Nat.add_zero] at h50
            have p0s : qs[0].size ≤ 65536 := by
              have h3 := bn.out.inv.fits
              obtain ⟨p0, r0, hq0⟩ : ∃ p0 r0, qs = p0 :: r0 := by cases qs with | nil => exact absurd rfl pe | cons p r => exact ⟨p, r, rfl⟩
              subst hq0
              have : (lst p0).length ≤ (joinL ((p0 :: r0).map lst)).length := by rw [List.map_cons, joinL_cons, List.length_append]; omega
              rw [lst_len] at this
              show p0.size ≤ 65536
              omega
            have LA : Hid (L = -1 ∨ (0 ≤ L ∧ L ≤ 65536 ∧ n < L + 1 + (qs[0].size : Int))) := by
              rcases bn.out.last with h | ⟨h3, h4, h5⟩
              · exact .inl h
              · obtain ⟨p0, r0, hq0⟩ : ∃ p0 r0, qs = p0 :: r0 := by cases qs with | nil => exact absurd rfl pe | cons p r => exact ⟨p, r, rfl⟩
                subst hq0
                exact .inr ⟨h3, h4, h5 p0 r0 rfl⟩
            have BN : Hid (Bn n [x] (tk ++ [x]) (gt ++ qs) (len : Int)) := by
              have b := bn.out
              refine ⟨by rw [b.all], IX.out, ?_, .inr ⟨by omega, by omega, ?_⟩⟩
              · intro p hp; rw [List.mem_singleton] at hp; rw [hp]; exact FT.out
              · intro p r q; injection q with q1 q2; subst q1; rw [HL.out]; exact FU.out
            have LI5 := hide li5
            have LG := hide lg
            obtain ⟨q0, hq0⟩ : ∃ q0, q0 = qs[0] := ⟨_, rfl⟩
            rw [← hq0] at h50 p0s LA
            clear hq0 li5 iq
            have gl : gt.length + qs.length ≤ 1048577 := by omega
            rcases LA.out with rfl | ⟨L0, L1, L2⟩
            all_goals
              (try have lb : decide (0 ≤ L) = true := decide_eq_true (by omega))
              (try have s1 : IntKind.i64.wrap (L + 1) = L + 1 := by rw [IntKind.wrap_i64]; omega)
              (try have s2 : IntKind.i64.wrap (L + 1 + (q0.size : Int)) = L + 1 + q0.size := by rw [IntKind.wrap_i64]; omega)
              clear LA
              go_wp2_with (
                at_builtin
                refine wpList_append_own_at _ rfl _ _ 27 rfl w.heap.size 9 i0 (.string ByteArray.empty) 1 16 Try.underlying27 HI0.out.1 HI0.out.2.1 HI0.out.2.2.1 HI0.out.2.2.2 ?a1 ?a2 u8 gt.length (gt.map Value.string) ?a3 SC.out.og ⟨g5, o5, none⟩ qs.length c5 (qs.map Value.string) ?a5 ?a6 ?a7 ?a8 ?a9 ?b1 ?b2 ?_
                case a1 => rfl
                case a2 => decide
                case a3 => rfl
                case a5 => rfl
                case a6 => simp
                case a7 =>
                  intro j u hu
                  rw [List.getElem?_map] at hu
                  obtain ⟨y, hy, rfl⟩ := Option.map_eq_some_iff.1 hu
                  obtain ⟨hj, rfl⟩ := List.getElem?_eq_some_iff.1 hy
                  rw [Go.WideShapes.add_plain]
                  exact LI5.out.cell j hj
                case a8 => intro u hu; obtain ⟨y, _, rfl⟩ := List.mem_map.1 hu; rfl
                case a9 => unfold maxLen; omega
                case b1 => omega
                case b2 => exact SC.out.le
                intro v8 w8 hown8 hgrow8 hnil8 hv8
                have SG := hide (Bk.got SC.out hown8 hgrow8 hv8)
                clear hown8 hgrow8 hnil8 hv8)
              go_roundw
              case rel => exact ⟨k + 1, [x], (tk ++ [x]), gt ++ qs, (len : Int), by omega, by simp; omega, by go_num, rfl, BN.out, SG.out, fun e => by omega, fun _ e => absurd e (by simp)⟩
              case measure => first | (simp [intOf]; done) | (simp [intOf]; omega)
          · have AR : addR n pend x = (pend ++ [x], [], 0) := by unfold addR; rw [if_neg (by rw [ft]; simp), if_neg lgx, if_neg fu]
            rw [AR] at AB1 AB2
            have KA := addK x AB1 bk.out l1 h2 (by omega)
            have BN : Hid (Bn n (pend ++ [x]) (tk ++ [x]) gt L) := by
              have b := bn.out
              refine ⟨by rw [b.all, List.append_assoc], AB2, ?_, ?_⟩
              · intro p hp
                rcases List.mem_append.1 hp with h | h
                · exact b.fit p h
                · rw [List.mem_singleton] at h; rw [h]; exact ft
              · rcases b.last with h | ⟨h3, h4, h5⟩
                · exact .inl h
                · by_cases z : pend = []
                  · subst z
                    have := fin.out.2 (by omega) rfl; omega
                  · refine .inr ⟨h3, h4, fun p r q => ?_⟩
                    cases pend with
                    | nil => exact absurd rfl z
                    | cons p0 r0 => injection q with q1 q2; subst q1; exact h5 _ r0 rfl
            clear AB1 AB2 AR ft fu
            go_wp2_with fail
            refine KA.mono ?_
            rintro e wA ⟨a, ca, rfl, sA, tA, _, _⟩
            have cx : wA.cell? ⟨g', o + k, none⟩ = some (.string x) := by
              rw [(sA.below.cell (p := ⟨g', o + k, none⟩) lt0), ← (bk.out.below.cell (p := ⟨g', o + k, none⟩) lt0)]; exact c0
            have SA := hide sA
            clear KA sA tA
            go_wp2_with (
              at_builtin
              refine wpList_append_own_at _ rfl _ _ 27 rfl w.heap.size 9 i0 (.string ByteArray.empty) 1 16 Try.underlying27 HI0.out.1 HI0.out.2.1 HI0.out.2.2.1 HI0.out.2.2.2 ?a1 ?a2 u7 tk.length (tk.map Value.string) ?a3 (SA.out.ot.alloc _) ⟨wA.heap.size, 0, none⟩ 1 1 [.string x] ?a5 ?a6 ?a7 ?a8 ?a9 ?b1 ?b2 ?_
              case a1 => rfl
              case a2 => decide
              case a3 => rfl
              case a5 => rfl
              case a6 => rfl
              case a7 => exact cell_one_new _ _ _
              case a8 => exact one_txt
              case a9 => unfold maxLen; omega
              case b1 => omega
              case b2 => (have := SA.out.le; simp; omega)
              intro v9 w9 hown9 hgrow9 hnil9 hv9
              have ST := hide (Bk.took (SA.out.later (World.below_alloc_ _ _)) hown9 hgrow9 hv9)
              have cx3 : w9.cell? ⟨g', o + k, none⟩ = some (.string x) := by
                rw [(ST.out.below.cell (p := ⟨g', o + k, none⟩) lt0), ← (bk.out.below.cell (p := ⟨g', o + k, none⟩) lt0)]; exact c0
              clear hown9 hgrow9 hnil9 hv9)
            go_wp2_with fail
            refine (KF _).mono ?_
            rintro e wB ⟨rfl, bB⟩
            have SB := hide (ST.out.later bB)
            have cx2 : wB.cell? ⟨g', o + k, none⟩ = some (.string x) := by
              rw [(SB.out.below.cell (p := ⟨g', o + k, none⟩) lt0), ← (bk.out.below.cell (p := ⟨g', o + k, none⟩) lt0)]; exact c0
            clear bB KF
            go_wp2_with fail
            go_roundw
            case rel => exact ⟨k + 1, pend ++ [x], tk ++ [x], gt, L, by omega, by simp; omega, by go_num, rfl, BN.out, SB.out, fun e => by omega, fun _ e => absurd e (by simp)⟩
            case measure => first | (simp [intOf]; done) | (simp [intOf]; omega)
    · by_cases he : k = lines.length
      · subst he
        have nk : ((lines.length : Int) == (lines.length : Int)) = true := by simp
        have KP := flK bk.out l1
        by_cases pe : pend = []
        · subst pe
          go_wp2_with fail
          refine KP.mono ?_
          rintro e wA ⟨a, ca, rfl, sA, tA, _, _⟩
          have SA := hide sA
          clear KP sA tA
          go_wp2_with fail
          go_roundw
          case rel => exact ⟨lines.length + 1, [], tk, gt, L, by omega, by omega, by go_num, rfl, bn.out, SA.out, fun e => rfl, fun e _ => by omega⟩
          case measure => first | (simp [intOf]; done) | (simp [intOf]; omega)
        · obtain ⟨len, hlen⟩ : ∃ len, len = (joinL (pend.map lst)).length := ⟨_, rfl⟩
          have HL := hide hlen
          have lpos : 0 < len := by rw [hlen]; exact bn.out.pos pe
          have lfit : (len : Int) ≤ n := by rw [hlen]; exact bn.out.inv.fits
          have dl : ((len : Int) == 0) = false := by rw [beq_eq_false_iff_ne]; omega
          go_wp2_with fail
          refine KP.mono ?_
          rintro e wB ⟨a, ca, rfl, sB, tB, hca, hna⟩
          rw [← hlen] at hca hna ⊢
          clear hlen
          have SB := hide sB
          have TB := hide tB
          clear KP sB tB
          have TBi := hide TB.out.is
          have KS := split_spec a (joinL (pend.map lst)) ca wB TBi.out (by omega) (by rw [← HL.out]; exact hca) (by rw [← HL.out]; exact hna)
          have SJ := hide (split_join (pend.map lst) (by simpa using pe) (by intro q hq; obtain ⟨p, hp, rfl⟩ := List.mem_map.1 hq; exact bn.out.fit p hp))
          rw [← HL.out] at KS
          have dl : ((len : Int) == 0) = false := by rw [beq_eq_false_iff_ne]; omega
          go_wp2_with fail
          refine KS.mono ?_
          intro e wC hC
          obtain ⟨a5, c5, qs, rfl, hqs, iq, bC⟩ := split_post hC
          have hqs2 := hqs.trans SJ.out
          obtain rfl : qs = pend := txts_eq hqs2
          have SC := hide (SB.out.later bC)
          clear hC hqs hqs2 bC KS TBi
          have pe2 : 0 < qs.length := by cases qs; exact absurd rfl pe; simp
          have pl : ((qs.length : Int) == 0) = false := by rw [beq_eq_false_iff_ne]; omega
          obtain ⟨g5, o5, rfl, li5⟩ := iq.resolve_left pe
          have h50 := li5.cell 0 pe2
          rw [Nat.add_zero] at h50
          have p0s : qs[0].size ≤ 65536 := by
            have h3 := bn.out.inv.fits
            obtain ⟨p0, r0, hq0⟩ : ∃ p0 r0, qs = p0 :: r0 := by cases qs with | nil => exact absurd rfl pe | cons p r => exact ⟨p, r, rfl⟩
            subst hq0
            have : (lst p0).length ≤ (joinL ((p0 :: r0).map lst)).length := by rw [List.map_cons, joinL_cons, List.length_append]; omega
            rw [lst_len] at this
            show p0.size ≤ 65536
            omega
          have LA : Hid (L = -1 ∨ (0 ≤ L ∧ L ≤ 65536 ∧ n < L + 1 + (qs[0].size : Int))) := by
            rcases bn.out.last with h | ⟨h3, h4, h5⟩
            · exact .inl h
            · obtain ⟨p0, r0, hq0⟩ : ∃ p0 r0, qs = p0 :: r0 := by cases qs with | nil => exact absurd rfl pe | cons p r => exact ⟨p, r, rfl⟩
              subst hq0
              exact .inr ⟨h3, h4, h5 p0 r0 rfl⟩
          have BN : Hid (Bn n [] tk (gt ++ qs) (len : Int)) := by
            have b := bn.out
            exact ⟨by rw [b.all]; simp, ⟨Nat.le_refl _, by show ((0 : Nat) : Int) ≤ n; omega⟩, by simp, .inr ⟨by omega, by omega, fun p r q => by cases q⟩⟩
          have LI5 := hide li5
          have LG := hide lg
          obtain ⟨q0, hq0⟩ : ∃ q0, q0 = qs[0] := ⟨_, rfl⟩
          rw [← hq0] at h50 p0s LA
          clear hq0 li5 iq
          have gl : gt.length + qs.length ≤ 1048577 := by omega
          rcases LA.out with rfl | ⟨L0, L1, L2⟩
          all_goals
            (try have lb : decide (0 ≤ L) = true := decide_eq_true (by omega))
            (try have s1 : IntKind.i64.wrap (L + 1) = L + 1 := by rw [IntKind.wrap_i64]; omega)
            (try have s2 : IntKind.i64.wrap (L + 1 + (q0.size : Int)) = L + 1 + q0.size := by rw [IntKind.wrap_i64]; omega)
            clear LA
            go_wp2_with (
              at_builtin
              refine wpList_append_own_at _ rfl _ _ 27 rfl w.heap.size 9 i0 (.string ByteArray.empty) 1 16 Try.underlying27 HI0.out.1 HI0.out.2.1 HI0.out.2.2.1 HI0.out.2.2.2 ?a1 ?a2 u8 gt.length (gt.map Value.string) ?a3 SC.out.og ⟨g5, o5, none⟩ qs.length c5 (qs.map Value.string) ?a5 ?a6 ?a7 ?a8 ?a9 ?b1 ?b2 ?_
              case a1 => rfl
              case a2 => decide
              case a3 => rfl
              case a5 => rfl
              case a6 => simp
              case a7 =>
                intro j u hu
                rw [List.getElem?_map] at hu
                obtain ⟨y, hy, rfl⟩ := Option.map_eq_some_iff.1 hu
                obtain ⟨hj, rfl⟩ := List.getElem?_eq_some_iff.1 hy
                rw [Go.WideShapes.add_plain]
                exact LI5.out.cell j hj
              case a8 => intro u hu; obtain ⟨y, _, rfl⟩ := List.mem_map.1 hu; rfl
              case a9 => unfold maxLen; omega
              case b1 => omega
              case b2 => exact SC.out.le
              intro v8 w8 hown8 hgrow8 hnil8 hv8
              have SG := hide (Bk.got SC.out hown8 hgrow8 hv8)
              clear hown8 hgrow8 hnil8 hv8)
            go_roundw
            case rel => exact ⟨lines.length + 1, [], tk, gt ++ qs, (len : Int), by omega, by omega, by go_num, rfl, BN.out, SG.out, fun e => rfl, fun e _ => by omega⟩
            case measure => first | (simp [intOf]; done) | (simp [intOf]; omega)
      · obtain rfl : k = lines.length + 1 := by omega
        have pe := fin.out.1 rfl
        subst pe
        have eq : tk = gt := by have := bn.out.all; simpa using this
        subst eq
        have ot := bk.out.ot
        have og := bk.out.og
        obtain ⟨a1, c1, e1, i1⟩ := own_txts (m := 0) ot
        obtain ⟨a2, c2, e2, i2⟩ := own_txts (m := 0) og
        subst e1 e2
        have KS := same5_true a1 a2 c1 c2 tk wr i1 i2 (by omega)
        have SK := hide bk.out
        clear ot og i1 i2
        go_wp2_with fail
        refine KS.mono ?_
        rintro e wA ⟨rfl, bA⟩
        have SA := hide (SK.out.later bA)
        have KH := held_spec w.heap.size g n _ wA SA.out.pk
        clear bA KS
        go_wp2_with fail
        refine KH.mono ?_
        rintro e wB ⟨rfl, rfl⟩
        go_wp2_with fail
        refine (alive5 _).mono ?_
        rintro e wC ⟨rfl, bC⟩
        have SC := hide (SA.out.later bC)
        clear KH bC
        go_wp2_with fail
        go_returns
        exact ⟨rfl, SC.out.below⟩
set_option maxRecDepth 100000 in
set_option maxHeartbeats 4000000 in
theorem back_bad (n : Int) (hn : n < 1 ∨ 65536 < n) (A : Option Addr) (m c : Nat) (w : World) :
    Calls Try.prog 5 #[.int .i64 n, .slice A m c] w fun e w' => e = .returned (.bool true) ∧ Below w.heap.size w w' := by
  have k1 := newp_bad n hn w
  rcases hn with hn | hn
  all_goals
    go_enter Try.func5, Try.ntmps5
    go_wp2_with fail
    refine k1.mono ?_
    rintro e w1 ⟨rfl, rfl⟩
    go_wp2_with fail
    refine (alive5 _).mono ?_
    rintro e w3 ⟨rfl, b3⟩
    go_wp2_with fail
    go_returns
    exact ⟨rfl, b3⟩
theorem law_WireBack (n : Int) (A : Option Addr) (c : Nat) (lines : List ByteArray) (wf : (Lit.int .i64 n).wf = true) (hs : ∀ q ∈ lines, q.size ≤ 1048576) (hl : lines.length ≤ 1048576) (w : World) (hi : IsTxts w A lines) :
    Calls Try.prog 5 #[.int .i64 n, .slice A lines.length c] w fun e w' => e = .returned (.bool true) ∧ Below w.heap.size w w' := by
  by_cases h : n < 1 ∨ 65536 < n
  · exact back_bad n h A _ c w
  · exact back_ok n (by omega) (by omega) A c lines w hi hs hl
end Go.Proofs.Ythaphijkfedihaa

