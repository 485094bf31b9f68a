/- due: the law's all: what ranging over a queue collects. -/
import Derived.Test.YtdfmfkibafcbcaaDseq
import Derived.Maps.OwnIn
namespace Go.Proofs.Ytdfmfkibafcbcaa
set_option linter.unusedVariables false
set_option linter.unusedSimpArgs false
open Go.RowKit W Go.Maps Go.Shelf
attribute [local go_sem] Oper.semAt_some
/-- What the body of all may write: its list's box, and the block of that list. -/
def ownB (b : Nat) (W : World) (k : Nat) : Prop := k = b ∨ ∃ s, W.cell? ⟨b, 0, none⟩ = some s ∧ s.ownBlock = some k
theorem ownB_below {b : Nat} {W W' : World} {n : Nat} (hb : b < n) (h : Below n W W') (k : Nat) (q : ownB b W' k) : ownB b W k := by
  rcases q with q | ⟨s, e, q⟩
  · exact .inl q
  · exact .inr ⟨s, (h.cell (p := ⟨b, 0, none⟩) hb).symm.trans e, q⟩
theorem KpO.below {own : World → Nat → Prop} {W W' : World} (h : Below W.heap.size W W') (o : ∀ k, own W' k → own W k) : KpO own W W' :=
  ⟨h.size, fun k cs t fr e _ => (h.block k (blk_lt e)).trans e, fun k q => .inl (o k q)⟩
theorem KpO.put {b m : Nat} (hb : b < m) (W : World) (l : Nat) (o o' : Obj) (hl : m ≤ l) (h : W.heap[l]? = some o) (hc : o.isCells = false) (_ : o.isWalk = false) : KpO (ownB b) W (W.putObj l o') := by
  have g := grownBy_putObj' W l o'
  have ne : ∀ k cs t fr, W.heap[k]? = some (.cells cs t fr) → some k ≠ some l := fun k cs t fr e q => by
    injection q with q; subst q; rw [e] at h; cases h; cases hc
  refine ⟨g.size, fun k cs t fr e _ => (g.block k (blk_lt e) (ne k cs t fr e)).trans e, fun k q => .inl ?_⟩
  rcases q with q | ⟨s, e, q⟩
  · exact .inl q
  · refine .inr ⟨s, ?_, q⟩
    have hh : (W.putObj l o').heap[b]? = W.heap[b]? := World.putObj_heap_other (by omega)
    have : (W.putObj l o').cell? ⟨b, 0, none⟩ = W.cell? ⟨b, 0, none⟩ := by unfold World.cell?; simp only [hh]
    rw [← this]; exact e
theorem KpO.appended {b : Nat} {W w1 : World} {s v' : Value} {tmp : Obj} {t : TypeId} (hs : Boxed W b t s) (hv2 : Boxed (w1.setCell ⟨b, 0, none⟩ v') b t v') (hgrow : (W.alloc tmp).grownBy w1 s.ownBlock) (hat : v'.ownBlock = s.ownBlock ∨ v'.ownBlock = some (W.alloc tmp).heap.size) : KpO (ownB b) W (w1.setCell ⟨b, 0, none⟩ v') := by
  have cs := hs.cell
  have z := hgrow.size
  rw [World.size_alloc] at z
  refine ⟨by simp; omega, fun k cs' t' fr e n => ?_, fun k q => ?_⟩
  · have kb : k ≠ b := fun q => n (.inl q)
    have ks : some k ≠ s.ownBlock := fun q => n (.inr ⟨s, cs, q.symm⟩)
    have lt := blk_lt e
    rw [Below.heap_setCell _ _ _ _ kb, hgrow.block k (by rw [World.size_alloc]; omega) ks, Below.heap_alloc _ _ _ lt]
    exact e
  · rcases q with q | ⟨s', e, q⟩
    · exact .inl (.inl q)
    · rw [hv2.cell] at e
      cases e
      rcases hat with h | h
      · exact .inl (.inr ⟨s, cs, h.symm.trans q⟩)
      · rw [h, World.size_alloc] at q
        injection q with q
        exact .inr (by omega)
def cutE (r : List En) (most : Int) : List En := if 0 ≤ most then r.take most.toNat else r
set_option maxRecDepth 100000 in
set_option maxHeartbeats 4000000 in
theorem lall_spec {w : World} {B qb kb mb lim : Nat} {v : Value} {r : List En} (h : QA B w qb kb mb lim v r) (most : Int) :
    Calls Try.prog 12 #[.pointer (some ⟨qb, 0, none⟩), .int .i64 most] w fun e w' => ∃ s, e = .returned s ∧ w'.ownsRow w.heap.size 43 2 s (cutE r most).length (dues (cutE r most)) ∧ Below w.heap.size w w' := by
  obtain ⟨i0, hi, hz0, hz1, hz2⟩ := info_parts info_due
  have HI := hide hi
  have lr : r.length ≤ 65536 := by
    obtain ⟨l, hl, p⟩ := h.hq
    have := hl.kq.len; have := p.length_eq; omega
  have HQ := hide h
  clear h hi
  refine (callsIn_wide (n := 5)).1 (callsIn_of_wp_marks Try.func12 rfl trivial ?_ rfl)
  simp only [Try.ntmps12, List.size_toArray, List.length_cons, List.length_nil, Nat.reduceAdd, Nat.reduceSub, Array.replicate_succ, Array.replicate_zero, List.push_toArray, List.append_toArray, List.nil_append, List.cons_append]
  refine wpIn_wide.2 ?_
  go_wp2_with (go_at_call 15; refine (qall_call _ _).mono ?_; rintro e w1 ⟨rfl, rfl⟩)
  have bM := Boxed.new w 3 (.int .i64 most)
  have bL := Boxed.new (w.alloc (.cells #[.int .i64 most] 3)) 27 (.slice none 0 0)
  have bQ := Boxed.new ((w.alloc (.cells #[.int .i64 most] 3)).alloc (.cells #[.slice none 0 0] 27)) 23 (.pointer (some ⟨qb, 0, none⟩))
  have hB0 : Below w.heap.size w (((w.alloc (.cells #[.int .i64 most] 3)).alloc (.cells #[.slice none 0 0] 27)).alloc (.cells #[.pointer (some ⟨qb, 0, none⟩)] 23)) := (((Below.refl _ w).alloc (Nat.le_refl _) _).alloc (by simp) _).alloc (by simp; omega) _
  replace bM := (bM.alloc (.cells #[.slice none 0 0] 27)).alloc (.cells #[.pointer (some ⟨qb, 0, none⟩)] 23)
  replace bL := bL.alloc (.cells #[.pointer (some ⟨qb, 0, none⟩)] 23)
  simp only [World.size_alloc] at bL bQ
  obtain ⟨W0, hW0⟩ : ∃ W0, W0 = (((w.alloc (.cells #[.int .i64 most] 3)).alloc (.cells #[.slice none 0 0] 27)).alloc (.cells #[.pointer (some ⟨qb, 0, none⟩)] 23)) := ⟨_, rfl⟩
  have sz : W0.heap.size = w.heap.size + 3 := by rw [hW0]; simp
  rw [← hW0] at bM bL bQ hB0 ⊢
  clear hW0
  have q0 := HQ.out.later hB0
  refine (wpIn_wide (n := 5)).1 (wpIn_rangeFunc_ownH (F := Fence.wide) rfl (by decide) (gf := 31) (lb := #[.pointer (some ⟨w.heap.size + 1 + 1, 0, none⟩)]) rfl trivial (enters_of Try.func31 (by kernel_rfl) rfl)
    (seq_spec (by decide) q0 bQ.cell bQ.lt (ownB (w.heap.size + 1)) (by
      rintro k (rfl | ⟨s, e, q⟩)
      · omega
      · rw [bL.cell] at e; cases e; cases q) (fun W W' z b => ownB_below (by omega) b) (fun W b => ownB_below (by omega) b))
    KpO.trans (KpO.put (by omega)) (Below.refl _ _) (fun _ => rfl)
    (fun pre W => (((∃ s, Boxed W (w.heap.size + 1) 27 s ∧ W.ownsRow w.heap.size 43 2 s pre.length (dues pre) ∧ True) ∧ Boxed W w.heap.size 3 (.int .i64 most)) ∧ (∀ j, j < pre.length → (j : Int) ≠ most)) ∧ Below w.heap.size w W)
    (fun c pre W => (c = .exit 0 ∧ ∃ p0, (∃ x, pre = p0 ++ [x]) ∧ (p0.length : Int) = most ∧ ∃ s, Boxed W (w.heap.size + 1) 27 s ∧ W.ownsRow w.heap.size 43 2 s p0.length (dues p0) ∧ True) ∧ Below w.heap.size w W)
    (OwnFrom.and (OwnFrom.and (OwnFrom.and (Own.from (holdsRow_own w.heap.size (w.heap.size + 1) 27 43 2 List.length dues (fun _ _ => True)) _) (Own.from (boxed_own w.heap.size 3 (fun _ => .int .i64 most)) _)) (ownFrom_pure _ _)) (ownFrom_below (Nat.le_refl _) (by omega)))
    (fun c => OwnFrom.and (Own.from (fun s A B row hs hg hr => by
      obtain ⟨e, p0, x, e2, hv⟩ := hs
      exact ⟨e, p0, x, e2, holdsRow_own w.heap.size (w.heap.size + 1) 27 43 2 List.length dues (fun _ _ => True) p0 A B row hv hg hr⟩) _) (ownFrom_below (Nat.le_refl _) (by omega)))
    ⟨⟨⟨⟨_, bL, World.ownsRow_nil _ _ _ _, trivial⟩, bM⟩, by simp⟩, hB0⟩
    (fun x a' W => ∃ Bx, w.heap.size + 1 < Bx ∧ W.heap[Bx]? = some (.cells #[.string x.1, .int .i64 x.2] 43 (0, 0)) ∧ a' = { tmps := #[.pointer (some ⟨qb, 0, none⟩), .int .i64 most, undef, .pointer (some ⟨w.heap.size, 0, none⟩), .slice none 0 0, .pointer (some ⟨w.heap.size + 1, 0, none⟩), .pointer (some ⟨Bx, 0, none⟩), .pointer (some ⟨qb, 0, none⟩), .func (.func 31) #[] #[.pointer (some ⟨w.heap.size + 1 + 1, 0, none⟩)], enV x, undef, undef, undef, undef, undef, undef, undef, undef, undef], defers := [] })
    (fun x a' _ X Y row hs hg hr => by
      obtain ⟨Bx, h1, h2, h3⟩ := hs
      refine ⟨Bx, h1, (hg.block Bx (blk_lt h2) (fun e => ?_)).trans h2, h3⟩
      obtain ⟨_, o, ho, hc⟩ := hr Bx e.symm
      rw [h2] at ho; cases ho; cases hc)
    ?assign ?body ?done ?stop)
  case assign =>
    rintro l pre ⟨xk, xa⟩ W K ⟨⟨⟨⟨s, hs, hr, _⟩, hm⟩, hp⟩, hB⟩ hK
    have z := hB.size
    have lt := hs.lt
    have b1 : Below W.heap.size W (W.alloc (.cells #[.string xk, .int .i64 xa] 43)) := (Below.refl _ _).alloc (Nat.le_refl _) _
    gi_wp2
    exact hK _ _ ((KeepsOthers.alloc _ _).from _) (KpO.below b1 (fun k q => ownB_below lt b1 k q)) ⟨⟨⟨⟨s, hs.alloc _, hr.alloc _, trivial⟩, hm.alloc _⟩, hp⟩, hB.alloc z _⟩ ⟨W.heap.size, lt, World.alloc_heap_new W _, rfl⟩
  case body =>
    rintro l pre ⟨xk, xa⟩ a' W hl hrec ⟨⟨⟨⟨s, hs, hr, _⟩, hm⟩, hp⟩, hB⟩ ⟨Bx, hBx, hX, rfl⟩ hlt
    have hi := HI.out
    obtain ⟨n, hn⟩ : ∃ n, n = pre.length := ⟨_, rfl⟩
    rw [← hn] at hr hp hlt
    have HN := hide hn
    have HP := hide hp
    obtain ⟨A, c, rfl, _, _⟩ := own_form hr
    have cm := hm.cell
    have cs := hs.cell
    have e0 : W.cell? ⟨Bx, 0, none⟩ = some (.string xk) := by simp [World.cell?, hX]
    have e1 : W.cell? ⟨Bx, 1, none⟩ = some (.int .i64 xa) := by simp [World.cell?, hX]
    have HR := hide hr
    have HS := hide hs
    have HM := hide hm
    have HB := hide hB
    have HX := hide hX
    have zB := hB.size
    clear hi hn hr hs hm hB hX hp hrec
    by_cases hq : (n : Int) = most
    · have f : ((n : Int) == most) = true := by rw [beq_iff_eq]; exact hq
      have HQ2 := hide hq
      clear hq
      gi_wp2
      exact ⟨KeepsFrom.refl _ _, ⟨rfl, pre, ⟨xk, xa, rfl⟩, by rw [← HN.out]; exact HQ2.out, _, HS.out, by rw [← HN.out]; exact HR.out⟩, HB.out⟩
    · have f : ((n : Int) == most) = false := by rw [beq_eq_false_iff_ne]; exact hq
      have HQ2 := hide hq
      clear hq
      gi_wp2_with (gi_at_builtin; refine wpListIn_append_own_at _ rfl _ _ 27 rfl w.heap.size 43 i0 (.agg #[.string ByteArray.empty, .int .i64 0]) 2 24 Try.underlying27 HI.out hz0 hz1 hz2 rfl (by decide) _ _ _ rfl (HR.out.alloc _) ⟨W.heap.size, 0, none⟩ 1 1 [.string xk, .int .i64 xa] rfl rfl (cells_new' _ _ _ _ (by simp)) (by intro u hu; simp at hu; rcases hu with rfl | rfl <;> rfl) (by unfold maxLen; omega) (by omega) (by simp; omega) ?_; intro v' w1 hown' hgrow _ hat; obtain ⟨g', cap', rfl⟩ := ownsRow_succ hown'; obtain ⟨hv1, hv2, hr2, hk2, hb2⟩ := HS.out.appended (by decide) HR.out zB (by omega) hown' hgrow; have hc1 := hv1.cell; have hf1 := hv1.frozen)
      have hk := KpO.appended HS.out hv2 hgrow hat
      have hm2 := ((HM.out.alloc (.cells #[.string xk, .int .i64 xa] 43)).kept hgrow (HM.out.not_row (by decide) HR.out)).other (B' := w.heap.size + 1) (by omega) (.slice (some ⟨g', 0, none⟩) (n + 1) cap')
      refine ⟨hk2.from _, hk, ⟨⟨⟨_, hv2, ?_⟩, hm2⟩, fun j hj => ?_⟩, HB.out.trans hb2⟩
      · rw [List.length_append, ← HN.out, dues_app]; exact hr2
      · rw [List.length_append, ← HN.out, List.length_singleton] at hj
        by_cases q : j < n
        · exact HP.out j q
        · rw [show j = n from by omega]; exact HQ2.out
  case done =>
    rintro D ys W hD rfl ⟨⟨⟨⟨s, hs, hr, _⟩, hm⟩, hp⟩, hB⟩ hK
    have hc := hs.cell
    have ce : cutE ys most = ys := by
      unfold cutE
      split
      · rename_i q
        refine List.take_of_length_le ?_
        by_cases z : most.toNat < ys.length
        · exact absurd (Int.toNat_of_nonneg q) (hp _ z)
        · omega
      · rfl
    go_wp2
    refine ⟨by simp, .inl ⟨_, _, rfl, run_takeDeferred hK, ?_⟩⟩
    exact ⟨_, results_tmp rfl _ _ _, s, rfl, by rw [ce]; exact ownsRow_putObj hr _ hK rfl, hB.trans (belowK_b (w := w) (Nat.le_refl _) W D _ _ (by omega) hK rfl rfl)⟩
  case stop =>
    rintro D c pre W hD hpre ⟨⟨rfl, p0, ⟨x, rfl⟩, hq, s, hs, hr, _⟩, hB⟩ hK
    have hc := hs.cell
    have ce : cutE r most = p0 := by
      unfold cutE
      rw [if_pos (by omega), ← hq, Int.toNat_natCast]
      obtain ⟨t, rfl⟩ := hpre
      rw [List.append_assoc, List.take_left]
    refine wpIn_wide.2 ?_
    go_wp2
    refine ⟨by simp, .inl ⟨_, _, rfl, run_takeDeferred hK, ?_⟩⟩
    exact ⟨_, results_tmp rfl _ _ _, s, rfl, by rw [ce]; exact ownsRow_putObj hr _ hK rfl, hB.trans (belowK_b (w := w) (Nat.le_refl _) W D _ _ (by omega) hK rfl rfl)⟩
end Go.Proofs.Ytdfmfkibafcbcaa
