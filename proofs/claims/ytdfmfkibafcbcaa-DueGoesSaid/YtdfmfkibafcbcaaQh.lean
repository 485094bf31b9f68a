/- due: the heap's Push, Fix, Remove, Pop. -/
import Derived.Test.YtdfmfkibafcbcaaQd
namespace Go.Proofs.Ytdfmfkibafcbcaa
set_option linter.unusedVariables false
set_option linter.unusedSimpArgs false
open Go.RowKit W Go.Maps
/-- A heap in memory. -/
structure HQ (B : Nat) (w : World) (kb mb : Nat) (v : Value) (l : List En) : Prop where
  kq : KQ B w kb mb v l
  heap : HeapE l
theorem heapE_len {l : List En} {n : Nat} (h : HeapF ltE (fE l) n) (hn : n = l.length) : HeapE l := by subst hn; exact h
/-- Where the row has gone. -/
def Mvd (w : World) (v v' : Value) : Prop := ∀ k, v'.ownBlock = some k → v.ownBlock = some k ∨ w.heap.size ≤ k
theorem Mvd.refl (w : World) (v : Value) : Mvd w v v := fun _ e => .inl e
theorem Mvd.of_eq (w : World) {v v' : Value} (h : v'.ownBlock = v.ownBlock) : Mvd w v v' := fun k e => .inl (h ▸ e)
theorem Chg.mvd {w w1 w2 : World} {kb mb : Nat} {v v' : Value} (h : Chg (kS3 kb mb v) w w1) (k : Chg (kS3 kb mb v') w1 w2) (m : Mvd w v v') : Chg (kS3 kb mb v) w w2 :=
  h.trans k (fun j hj q => by
    rcases q with q | q | q
    · exact .inl q
    · exact .inr (.inl q)
    · rcases m j q with e | e
      · exact .inr (.inr e)
      · omega)
set_option maxRecDepth 100000 in
set_option maxHeartbeats 4000000 in
theorem hpush_spec {B : Nat} {w : World} {kb mb : Nat} {v : Value} {l : List En} (h : HQ B w kb mb v l) (x : En) (hx : hasK l x.1 = false) (hs : x.1.size ≤ maxLen) (hl : l.length < 65536) (hB : B ≤ w.heap.size) :
    Calls Try.prog 27 #[kV kb, .iface 43 (enV x)] w fun e w' => e = .returned (.tuple #[]) ∧ ∃ v' l', HQ B w' kb mb v' l' ∧ l'.Perm (l ++ [x]) ∧ Chg (kS3 kb mb v) w w' ∧ Mvd w v v' := by
  have kp := push_spec h.kq x hx hs hl hB
  have HP : Hid (UpInv ltE (fE (l ++ [x])) (l.length + 1) l.length) := h.heap.push (fun k hk => by
    rw [fE_get hk, fE_get (by simp; omega)]
    exact List.getElem_append_left hk)
  clear h
  go_enter Try.func27, Try.ntmps27
  go_wp2_with (go_at_call 80; refine kp.mono ?_; rintro e w1 ⟨rfl, v1, k1, c1, m1⟩)
  have kl := klen_spec k1.km
  have ku := up_spec (n := l.length + 1) (j := l.length) k1 (by simp) (by omega) HP.out
  obtain ⟨n, hn⟩ : ∃ n, n = l.length := ⟨_, rfl⟩
  have HN := hide hn
  rw [show (l ++ [x]).length = l.length + 1 from by simp] at kl
  rw [← hn] at ku kl hl
  rw [show ((n + 1 : Nat) : Int) = (n : Int) + 1 from by omega] at kl
  have C1 := hide c1
  have M1 := hide m1
  clear c1 m1 k1 hn
  go_wp2_with (first
    | (go_at_call 25; refine kl.mono ?_; rintro e w' ⟨rfl, rfl⟩)
    | (go_at_call 38; refine ku.mono ?_; rintro e w2 ⟨rfl, l2, k2, p2, h2, _, c2⟩))
  go_end0
  exact ⟨rfl, v1, l2, ⟨k2, heapE_len h2 (by rw [p2.length_eq, HN.out]; simp)⟩, p2, C1.out.mvd c2 M1.out, M1.out⟩
set_option maxRecDepth 100000 in
set_option maxHeartbeats 4000000 in
theorem hfix_spec {B : Nat} {w : World} {kb mb i : Nat} {v : Value} {l : List En} (h : KQ B w kb mb v l) (hi : i < l.length) (inv : DownInv ltE (fE l) l.length i i) :
    Calls Try.prog 26 #[kV kb, .int .i64 (i : Int)] w fun e w' => e = .returned (.tuple #[]) ∧ ∃ l', HQ B w' kb mb v l' ∧ l'.Perm l ∧ Chg (kS3 kb mb v) w w' := by
  have kl := klen_spec h.km
  have kd := down_spec h (Nat.le_refl _) (by omega) inv
  obtain ⟨n, hn⟩ : ∃ n, n = l.length := ⟨_, rfl⟩
  have HN := hide hn
  rw [← hn] at kl kd hi
  clear h inv hn
  go_enter Try.func26, Try.ntmps26
  go_wp2_with (first
    | (go_at_call 25; refine kl.mono ?_; rintro e w' ⟨rfl, rfl⟩)
    | (go_at_call 37; refine kd.mono ?_; rintro e w1 ⟨b, rfl, l1, k1, p1, c1, t1, h1, u1⟩; cases b))
  · obtain ⟨rfl, u1⟩ := u1 (by trivial)
    have ku := up_spec (n := n) (j := i) k1 (by rw [HN.out]; exact Nat.le_refl _) hi u1
    clear u1 h1 t1
    go_wp2_with (go_at_call 38; refine ku.mono ?_; rintro e w2 ⟨rfl, l2, k2, p2, h2, _, c2⟩)
    go_end0
    exact ⟨rfl, l2, ⟨k2, heapE_len h2 (by rw [p2.length_eq]; exact HN.out)⟩, p2, c1.trans c2 (fun _ _ q => q)⟩
  · have h1' := h1 (.inl (by trivial))
    clear h1 u1 t1
    go_wp2_with fail
    go_end0
    exact ⟨rfl, l1, ⟨k1, heapE_len h1' (by rw [p1.length_eq]; exact HN.out)⟩, p1, c1⟩
/-- Pop's work: the one at i has changed places with the last one, and is taken off. -/
theorem swap_take {l : List En} {i n : Nat} (hn : l.length = n + 1) (hi : i < l.length) {l' : List En} (p : l'.Perm (swapL l i n)) (ht : ∀ k, n ≤ k → l'[k]? = (swapL l i n)[k]?) : (l'.take n).Perm (l.eraseIdx i) ∧ l'[n]? = some l[i] := by
  have hnl : n < l.length := by omega
  have e0 : (swapL l i n)[n]? = some l[i] := by
    rw [swapL_eq hi hnl, List.getElem?_set_self (by simp; omega)]
  have e1 : l'[n]? = some l[i] := (ht n (Nat.le_refl _)).trans e0
  refine ⟨?_, e1⟩
  have ll : l'.length = n + 1 := by rw [p.length_eq, swapL_len, hn]
  have s1 : l' = l'.take n ++ [l[i]] := by
    have := List.take_append_drop n l'
    rw [List.drop_eq_getElem_cons (by omega), List.drop_eq_nil_of_le (by omega)] at this
    rw [List.getElem?_eq_getElem (by omega)] at e1
    injection e1 with e1
    rw [e1] at this
    exact this.symm
  have q : (l[i] :: l'.take n).Perm (l[i] :: l.eraseIdx i) := by
    refine List.Perm.trans ?_ (erase_cons_perm hi).symm
    refine List.Perm.trans ?_ (p.trans (swapL_perm hi hnl))
    conv => rhs; rw [s1]
    exact (List.perm_append_comm (l₁ := [l[i]]) (l₂ := l'.take n))
  exact q.cons_inv
theorem heapE_take {l : List En} {n : Nat} (h : HeapF ltE (fE l) n) (hn : n ≤ l.length) : HeapE (l.take n) := by
  have e : (l.take n).length = n := by rw [List.length_take]; omega
  refine heapE_len (n := n) (h.congr fun k hk => ?_) e.symm
  rw [fE_get (by omega), fE_get (by omega), List.getElem_take]
theorem down_swap {l : List En} {i n : Nat} (h : HeapE l) (hn : l.length = n + 1) (hi : i < l.length) : DownInv ltE (fE (swapL l i n)) n i i := by
  have hnl : n < l.length := by omega
  refine HeapF.fix ordE h (by omega) hi fun k hk ki => ?_
  rw [fE, fn_swap hi hnl, swapF_o _ ki (by omega)]
def PopP (B : Nat) (w : World) (kb mb : Nat) (v : Value) (l : List En) (i : Nat) (w' : World) : Prop :=
  ∃ v' l', HQ B w' kb mb v' l' ∧ l'.Perm (l.eraseIdx i) ∧ Chg (kS3 kb mb v) w w' ∧ Mvd w v v'
set_option maxRecDepth 100000 in
set_option maxHeartbeats 4000000 in
theorem hpop_spec {B : Nat} {w : World} {kb mb n : Nat} {v : Value} {l : List En} (h : HQ B w kb mb v l) (hn : l.length = n + 1) (hB : B ≤ w.heap.size) :
    Calls Try.prog 36 #[kV kb] w fun e w' => (∃ r, e = .returned r) ∧ PopP B w kb mb v l 0 w' := by
  have kl := klen_spec h.kq.km
  rw [hn, show ((n + 1 : Nat) : Int) = (n : Int) + 1 from by omega] at kl
  have hl := h.kq.len
  have kw := swap_spec h.kq (i := 0) (j := n) (by omega) (by omega)
  rw [show ((0 : Nat) : Int) = 0 from rfl] at kw
  have DI := hide (down_swap h.heap hn (i := 0) (by omega))
  have HN := hide hn
  have hn1 : n ≤ 65536 := by omega
  clear h hl hn
  go_enter Try.func36, Try.ntmps36
  go_wp2_with (first
    | (go_at_call 25; refine kl.mono ?_; rintro e w' ⟨rfl, rfl⟩)
    | (go_at_call 81; refine kw.mono ?_; rintro e w1 ⟨rfl, k1, c1⟩))
  have kd := down_spec k1 (n := n) (i0 := 0) (by rw [swapL_len, HN.out]; omega) (by omega) DI.out
  rw [show ((0 : Nat) : Int) = 0 from rfl] at kd
  go_wp2_with (go_at_call 37; refine kd.mono ?_; rintro e w2 ⟨b, rfl, l2, k2, p2, c2, t2, h2, u2⟩)
  have hn2 : l2.length = n + 1 := by rw [p2.length_eq, swapL_len, HN.out]
  have sz2 := c1.size
  have sz3 := c2.size
  have kp := kpop_spec k2 hn2 (by omega)
  have h2' := hide (h2 (.inr (by trivial)))
  clear u2 h2
  go_wp2_with (go_at_call 79; refine kp.mono ?_; rintro e w3 ⟨rfl, v3, k3, c3, o3⟩)
  go_returns
  exact ⟨⟨_, rfl⟩, v3, _, ⟨k3, heapE_take h2'.out (by omega)⟩, (swap_take HN.out (by have := HN.out; omega) p2 t2).1, (c1.trans c2 (fun _ _ q => q)).trans c3 (fun _ _ q => q), Mvd.of_eq _ o3⟩
set_option maxRecDepth 100000 in
set_option maxHeartbeats 8000000 in
theorem hremove_spec {B : Nat} {w : World} {kb mb n i : Nat} {v : Value} {l : List En} (h : HQ B w kb mb v l) (hn : l.length = n + 1) (hi : i ≤ n) (hB : B ≤ w.heap.size) :
    Calls Try.prog 35 #[kV kb, .int .i64 (i : Int)] w fun e w' => (∃ r, e = .returned r) ∧ PopP B w kb mb v l i w' := by
  have kl := klen_spec h.kq.km
  rw [hn, show ((n + 1 : Nat) : Int) = (n : Int) + 1 from by omega] at kl
  have hl := h.kq.len
  have hn1 : n ≤ 65536 := by omega
  have HN := hide hn
  by_cases q : n = i
  · subst q
    have ne : ((n : Int) != (n : Int)) = false := by simp
    have kp := kpop_spec h.kq hn hB
    have HH := hide h.heap
    clear h hl
    go_enter Try.func35, Try.ntmps35
    go_wp2_with (first
      | (go_at_call 25; refine kl.mono ?_; rintro e w' ⟨rfl, rfl⟩)
      | (go_at_call 79; refine kp.mono ?_; rintro e w3 ⟨rfl, v3, k3, c3, o3⟩))
    go_returns
    have ee : l.eraseIdx n = l.take n := by rw [List.eraseIdx_eq_take_drop_succ, List.drop_eq_nil_of_le (by have := HN.out; omega), List.append_nil]
    exact ⟨⟨_, rfl⟩, v3, _, ⟨k3, heapE_take (HH.out.less (by have := HN.out; omega)) (by have := HN.out; omega)⟩, by rw [ee], c3, Mvd.of_eq _ o3⟩
  · have ne : ((n : Int) != (i : Int)) = true := by simp; omega
    have ne2 : ((n : Int) == (i : Int)) = false := by rw [beq_eq_false_iff_ne]; omega
    have kw := swap_spec h.kq (i := i) (j := n) (by omega) (by omega)
    have DI := hide (down_swap h.heap hn (i := i) (by omega))
    clear h hl hn
    go_enter Try.func35, Try.ntmps35
    go_wp2_with (first
      | (go_at_call 25; refine kl.mono ?_; rintro e w' ⟨rfl, rfl⟩)
      | (go_at_call 81; refine kw.mono ?_; rintro e w1 ⟨rfl, k1, c1⟩))
    have kd := down_spec k1 (n := n) (i0 := i) (by rw [swapL_len, HN.out]; omega) (by rw [swapL_len, HN.out]; omega) DI.out
    go_wp2_with (go_at_call 37; refine kd.mono ?_; rintro e w2 ⟨b, rfl, l2, k2, p2, c2, t2, h2, u2⟩; have hn2 : l2.length = n + 1 := (by rw [p2.length_eq, swapL_len, HN.out]); have sz2 := c1.size; have sz3 := c2.size; cases b)
    · obtain ⟨rfl, u3⟩ := u2 (by trivial)
      have ku := up_spec (n := n) (j := i) k2 (by omega) (by omega) u3
      clear u2 u3 h2
      go_wp2_with (go_at_call 38; refine ku.mono ?_; rintro e w4 ⟨rfl, l4, k4, p4, h4, t4, c4⟩)
      have hn4 : l4.length = n + 1 := by rw [p4.length_eq, swapL_len, HN.out]
      have sz4 := c4.size
      have kp := kpop_spec k4 hn4 (by omega)
      go_wp2_with (go_at_call 79; refine kp.mono ?_; rintro e w3 ⟨rfl, v3, k3, c3, o3⟩)
      go_returns
      exact ⟨⟨_, rfl⟩, v3, _, ⟨k3, heapE_take h4 (by omega)⟩, (swap_take HN.out (by have := HN.out; omega) p4 t4).1, ((c1.trans c2 (fun _ _ q => q)).trans c4 (fun _ _ q => q)).trans c3 (fun _ _ q => q), Mvd.of_eq _ o3⟩
    · have h2' := hide (h2 (.inl (by trivial)))
      have kp := kpop_spec k2 hn2 (by omega)
      clear u2 h2
      go_wp2_with (go_at_call 79; refine kp.mono ?_; rintro e w3 ⟨rfl, v3, k3, c3, o3⟩)
      go_returns
      exact ⟨⟨_, rfl⟩, v3, _, ⟨k3, heapE_take h2'.out (by omega)⟩, (swap_take HN.out (by have := HN.out; omega) p2 t2).1, (c1.trans c2 (fun _ _ q => q)).trans c3 (fun _ _ q => q), Mvd.of_eq _ o3⟩
end Go.Proofs.Ytdfmfkibafcbcaa
