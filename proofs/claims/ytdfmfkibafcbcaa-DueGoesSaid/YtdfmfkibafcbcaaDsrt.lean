/- due: slices.SortFunc of a list of dues of one's own, by order; slices.Clone of the queue's list. -/
import Derived.Test.YtdfmfkibafcbcaaQt
import Derived.Test.YtdfmfkibafcbcaaSgk
import Derived.Test.YtdfmfkibafcbcaaShelf
import Derived.Test.YtdfmfkibafcbcaaShelg
namespace Go.Proofs.Ytdfmfkibafcbcaa
set_option linter.unusedVariables false
set_option linter.unusedSimpArgs false
open Go.RowKit Go.Shelf Go.Lib Go.Sort
theorem ltO (a b : En) : ltOf ordI a b = ltE a b := ordI_lt a b
theorem swoO : SWO (ltOf ordI) where
  irrefl x := by rw [ltO]; exact ordE.irr _
  trans x y z h k := by
    rw [ltO] at *
    cases q : ltE x z
    · have e := ordE.tr _ _ _ q (ordE.asym _ _ k)
      rw [h] at e; cases e
    · rfl
  ntrans x y z h k := by rw [ltO] at *; exact ordE.tr _ _ _ h k
set_option maxRecDepth 100000 in
set_option maxHeartbeats 1000000 in
theorem closure_o (a b : En) (w : World) : Calls Try.prog 34 #[enV a, enV b] w fun e w' => e = .returned (.int .i64 (ordI a b)) ∧ ∃ q os', w' = grow (w.drewN q) os' := by
  have k1 := cmpI_spec a.2 b.2
  have k2 := cmpS_spec a.1 b.1
  unfold ordI
  by_cases h : a.2 = b.2
  · rw [if_pos h]
    have d : (a.2 == b.2) = true := by simpa using h
    have d2 : (a.2 != b.2) = false := by simpa using h
    clear h
    go_enter Try.func34, Try.ntmps34
    go_wp2_with (go_at_call 42; refine (k2 _).mono ?_; rintro e w' ⟨rfl, rfl⟩)
    go_returns
    exact ⟨rfl, 0, _, by rw [alloc_eq_grow, alloc_eq_grow, grow_grow]; rfl⟩
  · rw [if_neg h]
    have d : (a.2 == b.2) = false := by simpa using h
    have d2 : (a.2 != b.2) = true := by simpa using h
    clear h
    go_enter Try.func34, Try.ntmps34
    go_wp2_with (go_at_call 41; refine (k1 _).mono ?_; rintro e w' ⟨rfl, rfl⟩)
    go_returns
    exact ⟨rfl, 0, _, by rw [alloc_eq_grow, alloc_eq_grow, grow_grow]; rfl⟩
theorem cmpLays_o (blk off size : Nat) (w : World) : CmpLays Try.prog 34 #[] dueC 2 ordI blk off size w :=
  fun _ _ _ _ x y => closure_o x y _
instance : Inhabited En := ⟨(ByteArray.empty, 0)⟩
theorem dues_flat (M : List En) : (flatK dueC 2 M.toArray).toList = dues M := flat_eq dueC 2 (fun _ => rfl) M _ (dues_len M) (fun i hi j hj => by
  rcases j with _ | _ | j
  · rw [Nat.add_zero, dues_key hi]; rfl
  · rw [dues_at hi]; rfl
  · omega)
theorem sorted_same : ∀ {L r : List En}, L.Perm r → (L.Pairwise fun a b => ltE b a = false) → Sorted ltE r → L = r
  | L, [], p, _, _ => List.perm_nil.1 p
  | [], b :: r, p, _, _ => by have := p.length_eq; simp at this
  | a :: L, b :: r, p, s, t => by
    have t' := List.pairwise_cons.1 t
    have s' := List.pairwise_cons.1 s
    have e : a = b := by
      rcases List.mem_cons.1 (p.subset List.mem_cons_self) with q | q
      · exact q
      · rcases List.mem_cons.1 (p.symm.subset List.mem_cons_self) with z | z
        · exact z.symm
        · have x1 := t'.1 a q
          have x2 := s'.1 b z
          rw [x1] at x2; cases x2
    subst e
    rw [sorted_same (List.Perm.cons_inv p) s'.2 t'.2]
theorem sortD_spec {wr : World} {base : Nat} {s : Value} {L : List En} (o : wr.ownsRow base 43 2 s L.length (dues L)) (hl : L.length ≤ 1048576) :
    Calls Try.prog 33 #[s, .func (.func 34) #[] #[]] wr fun e w' => e = .returned (.tuple #[]) ∧ ∃ L' : List En, L'.Perm L ∧ (L'.Pairwise fun a b => ltE b a = false) ∧ w'.ownsRow base 43 2 s L.length (dues L') ∧ wr.grownBy w' s.ownBlock := by
  have o2 := o
  rcases o.2 with ⟨rfl, e⟩ | ⟨g, cap, cur, rfl, hb, hh, hc, hm, hs, ht⟩
  · have e0 := List.eq_nil_of_length_eq_zero e
    subst e0
    refine (AnyF.slices_SortFunc_none Try.sortD none 0 _ wr).mono ?_
    rintro e' w' ⟨rfl, rfl⟩
    exact ⟨rfl, [], List.Perm.refl _, List.Pairwise.nil, o2, World.grownBy.refl _ _⟩
  · have eg : ∀ args w, (callFunc 34 args).run Try.prog w = .ok (.enter 34 args) w := enters_of Try.func34 (by kernel_rfl) rfl
    have o3 := o2
    rw [← dues_flat] at o3
    have hH := holds_own o3
    have hcon := AnyQ.slices_SortFunc Try.sortD 2 Try.isAgg43 Try.sizeOf43 dueC (fun _ => rfl) (fun x v hv => by simp [dueC] at hv; rcases hv with rfl | rfl <;> rfl) ordI swoO 34 #[] g 0 cap L.toArray wr eg (cmpLays_o g 0 L.toArray.size wr) hH (blk_lt hh) (by simp; omega)
    change Calls Try.prog 33 _ _ _ at hcon
    rw [show L.toArray.size = L.length from by simp] at hcon
    refine hcon.mono ?_
    rintro e' w' ⟨rfl, d', n, os, hp, hs', rfl⟩
    have sz : d'.size = L.length := by have := hp.1; simpa using this
    refine ⟨rfl, d'.toList, permIn_perm (by simpa using hp), ?_, ?_, grownBy_sortedK _⟩
    · have := sortedIn_pair hs' sz
      refine this.imp fun {a b} q => ?_
      rw [ltO] at q
      exact q
    · have F : (flatK dueC 2 d').size = L.length * 2 := by simp [sz]
      have r := own_sortedK (m := n) (os := os) o2 F
      have e : (flatK dueC 2 d').toList = dues d'.toList := by have := dues_flat d'.toList; simpa using this
      rw [e] at r
      exact r
end Go.Proofs.Ytdfmfkibafcbcaa
