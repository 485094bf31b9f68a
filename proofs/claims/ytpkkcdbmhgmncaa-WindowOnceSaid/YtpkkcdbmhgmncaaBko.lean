/- WindowOnce: 'has', and what holds between its calls. -/
import Derived.Test.YtpkkcdbmhgmncaaBkj
namespace Go.Proofs.Ytpkkcdbmhgmncaa
set_option linter.unusedVariables false
set_option linter.unusedSimpArgs false
open Go.RowKit W T9 Go.Maps
set_option maxRecDepth 100000 in
set_option maxHeartbeats 4000000 in
theorem has6 {w : World} {a : Option Addr} {S : List Int} (cap : Nat) (i : IsInts .i64 w a S) (hs : S.length ≤ 17592186044416) (q : Int) :
    CalcN 22 #[.slice a S.length cap, .int .i64 q] w (.bool (decide (q ∈ S))) := by
  by_cases z : S = []
  · subst z
    rw [show decide (q ∈ ([] : List Int)) = false by simp]
    go_enter Try.func22, Try.ntmps22
    go_wp2
    refine wp_loop_rounds 1 ?_
    rw [rounds_succ]
    go_wp2
    go_returns
    exact ⟨rfl, rfl⟩
  · obtain ⟨g, o, rfl, la⟩ := i.resolve_left z
    have H := hide la
    obtain ⟨R, hR⟩ : ∃ R, R = decide (q ∈ S) := ⟨_, rfl⟩
    rw [← hR]
    have RR := hide hR
    obtain ⟨n, hn⟩ : ∃ n, n = S.length := ⟨_, rfl⟩
    rw [← hn] at hs
    rw [← hn]
    have NN := hide hn
    clear la z i hR hn
    go_enter Try.func22, Try.ntmps22
    go_wp2
    go_loopw [9] (fun i wr => ∃ k : Nat, k ≤ n ∧ i = .int .i64 k ∧ wr = w ∧ Hid (q ∉ S.take k)) (fun i _ => n - (intOf i).toNat)
    case atStart => exact ⟨0, by omega, rfl, rfl, by simp [Hid]⟩
    case round =>
      obtain ⟨k, hk, rfl, rfl, NT⟩ := hrel
      by_cases hlt : k < n
      · have k1 : k < S.length := by have := NN.out; omega
        have e1 := H.out.cell k k1
        obtain ⟨x, hx⟩ : ∃ x, x = S[k] := ⟨_, rfl⟩
        rw [← hx] at e1
        have hlt' : (k : Int) < (n : Int) := by omega
        by_cases t : x = q
        · have F : Hid (R = true) := by
            show R = true
            rw [RR.out]
            exact decide_eq_true (by rw [← t, hx]; exact List.getElem_mem _)
          subst t
          clear hx k1
          go_wp2
          go_returns
          exact ⟨by rw [F.out]; rfl, rfl⟩
        · have NX : Hid (q ∉ S.take (k + 1)) := by
            show q ∉ S.take (k + 1)
            rw [List.take_add_one, List.getElem?_eq_getElem k1, ← hx]
            simp only [Option.toList_some, List.mem_append, List.mem_singleton, not_or]
            exact ⟨NT.out, fun e => t e.symm⟩
          clear hx k1
          go_wp2
          go_roundw
          case rel => exact ⟨k + 1, by omega, by go_num, by first | rfl | trivial, NX⟩
          case measure => simp [intOf]; omega
      · obtain rfl : k = n := by omega
        have F : Hid (R = false) := by
          show R = false
          have := NT.out
          rw [RR.out]
          rw [NN.out, List.take_length] at this
          exact decide_eq_false this
        clear NT
        go_wp2
        go_returns
        exact ⟨by rw [F.out]; rfl, rfl⟩
theorem has6R {B : Nat} {u : Value} {S : List Int} {w : World} (h : OwnR B w u S) (hs : S.length ≤ 17592186044416) (q : Int) : CalcN 22 #[u, .int .i64 q] w (.bool (decide (q ∈ S))) := by
  obtain ⟨a, c, rfl, _, _, i, _⟩ := h.is
  exact has6 c i hs q
/-- What was put in (P), what was told (T), what is open (S), what is closed (c). -/
structure Onc (c : Int) (S P T : List Int) : Prop where
  up : S.Pairwise (· < ·)
  few : S.length ≤ 4096
  gt : ∀ y ∈ S, c < y
  tu : T.Pairwise (· < ·)
  tc : ∀ y ∈ T, y ≤ c
  mem : ∀ y, y ∈ P ↔ y ∈ S ∨ y ∈ T
theorem Onc.start (c : Int) : Onc c [] [] [] := ⟨.nil, by simp, by simp, .nil, by simp, by simp⟩
theorem Onc.len {c : Int} {S P T : List Int} (h : Onc c S P T) : T.length ≤ P.length := List.Nodup.length_le_of_subset (h.tu.imp (fun {a b} q => by omega)) fun y hy => (h.mem y).2 (.inr hy)
theorem Onc.put {c d t : Int} {S P T : List Int} (h : Onc c S P T) (e : putE d c S t = 0) : Onc c (putS d c S t) (P ++ [putV d c S t]) T ∧ putV d c S t = t / d ∧ c < t / d := by
  obtain ⟨u, f⟩ := putS_up (d := d) (c := c) t h.up h.few
  unfold putE at e
  unfold putS at u f ⊢
  unfold putV
  split at e
  · omega
  · rename_i k1
    rw [if_neg k1] at u f ⊢
    rw [if_neg k1]
    split at e
    · rename_i k2
      rw [if_pos k2, if_pos k2]
      refine ⟨⟨h.up, h.few, h.gt, h.tu, h.tc, fun y => ?_⟩, rfl, by omega⟩
      rw [List.mem_append, h.mem, List.mem_singleton]
      constructor
      · rintro (q | q)
        · exact q
        · exact .inl (q ▸ k2)
      · exact .inl
    · rename_i k2
      rw [if_neg k2] at u f ⊢
      rw [if_neg k2]
      split at e
      · rename_i k3
        rw [if_pos k3] at u f ⊢
        rw [if_pos k3]
        refine ⟨⟨u, f, fun y hy => ?_, h.tu, h.tc, fun y => ?_⟩, rfl, by omega⟩
        · rcases (insS_mem _ _ _).1 hy with q | q
          · omega
          · exact h.gt y q
        · rw [List.mem_append, h.mem, List.mem_singleton, insS_mem]
          constructor
          · rintro ((q | q) | q)
            · exact .inl (.inr q)
            · exact .inr q
            · exact .inl (.inl q)
          · rintro ((q | q) | q)
            · exact .inr q
            · exact .inl (.inl q)
            · exact .inl (.inr q)
      · omega
theorem Onc.noput {c d t : Int} {S P T : List Int} (h : Onc c S P T) (e : putE d c S t ≠ 0) : putS d c S t = S ∧ (putE d c S t = 62 ∨ putE d c S t = 3) := by
  unfold putE at e ⊢
  unfold putS
  split at e
  · rename_i k1; rw [if_pos k1, if_pos k1]; exact ⟨rfl, .inl rfl⟩
  · rename_i k1
    rw [if_neg k1, if_neg k1]
    split at e
    · omega
    · rename_i k2
      rw [if_neg k2, if_neg k2]
      split at e
      · omega
      · rename_i k3; rw [if_neg k3, if_neg k3]; exact ⟨rfl, .inr rfl⟩
theorem Onc.close {c d t : Int} {S P T : List Int} (h : Onc c S P T) : Onc (cloC d c t) (cloS d c S t) P (T ++ cloO d c S t) := by
  obtain ⟨u, f⟩ := cloS_up (d := d) (c := c) t h.up h.few
  unfold cloC cloO
  unfold cloS at u f ⊢
  split
  · simpa using h
  · split
    · simpa using h
    · rename_i k1 k2
      rw [if_neg k1, if_neg k2] at u f
      refine ⟨u, f, fun y hy => ?_, List.pairwise_append.2 ⟨h.tu, h.up.filter _, fun a ha b hb => ?_⟩, fun y hy => ?_, fun y => ?_⟩
      · have := (List.mem_filter.1 hy).2; simp at this; omega
      · have := h.tc a ha; have := h.gt b (List.mem_filter.1 hb).1; omega
      · rcases List.mem_append.1 hy with q | q
        · have := h.tc y q; omega
        · have := (List.mem_filter.1 q).2; simpa using this
      · rw [h.mem, List.mem_append, List.mem_filter, List.mem_filter]
        by_cases q : y ≤ t / d - 1
        · simp [q]; constructor
          · rintro (r | r)
            · exact .inr r
            · exact .inl r
          · rintro (r | r)
            · exact .inr r
            · exact .inl r
        · simp [q]
theorem put_anyB {w : World} {bb mb : Nat} {d c : Int} {S : List Int} (b : BookAt w bb mb d c S) (few : S.length ≤ 4096) (t : Int) (j : IsHi t) (h1 : 1 ≤ d) :
    Calls Try.prog 14 #[.pointer (some ⟨bb, 0, none⟩), .int .i64 t] w fun e w' => e = .returned (.tuple #[.int .i64 (putV d c S t), .int .i64 (putE d c S t)]) ∧ BookAt w' bb mb d c (putS d c S t) ∧ Mod [mb] w w' := by
  unfold putV putE putS
  by_cases k1 : t / d ≤ c
  · rw [if_pos k1, if_pos k1, if_pos k1]
    refine (put_late b t _ j h1 rfl k1).mono ?_
    rintro e w' ⟨rfl, rfl⟩
    exact ⟨rfl, b, Mod.refl _ _⟩
  · rw [if_neg k1, if_neg k1, if_neg k1]
    by_cases k2 : t / d ∈ S
    · rw [if_pos k2, if_pos k2, if_pos k2]
      refine (put_in b t _ j h1 rfl (by omega) k2 few).mono ?_
      rintro e w' h
      exact h
    · rw [if_neg k2, if_neg k2, if_neg k2]
      by_cases k3 : S.length < 4096
      · rw [if_pos k3, if_pos k3, if_pos k3]
        refine (put_new b t _ j h1 rfl (by omega) k2 k3).mono ?_
        rintro e w' h
        exact h
      · rw [if_neg k3, if_neg k3, if_neg k3]
        refine (put_many b t _ j h1 rfl (by omega) k2 (by omega)).mono ?_
        rintro e w' ⟨rfl, k⟩
        exact ⟨rfl, b.later k, Mod.of_below k⟩
/-- Between the calls: B parts the book's blocks from the two lists'. -/
structure OnR (B : Nat) (w0 w : World) (bb mb : Nat) (d c : Int) (S P T : List Int) (u v : Value) (k : Nat) : Prop where
  bk : BookAt w bb mb d c S
  on : Onc c S P T
  pu : OwnR B w u P
  tv : OwnR B w v T
  ap : Apt u v
  lk : P.length ≤ k
  below : Below w0.heap.size w0 w
  lb : w0.heap.size ≤ bb ∧ w0.heap.size ≤ mb ∧ bb < B ∧ mb < B ∧ w0.heap.size ≤ B
  le : B ≤ w.heap.size
section
variable {B : Nat} {w0 w : World} {bb mb : Nat} {d c : Int} {S P T : List Int} {u v : Value} {k : Nat}
theorem OnR.next (h : OnR B w0 w bb mb d c S P T u v k) : OnR B w0 w bb mb d c S P T u v (k + 1) := ⟨h.bk, h.on, h.pu, h.tv, h.ap, Nat.le_succ_of_le h.lk, h.below, h.lb, h.le⟩
theorem OnR.small (h : OnR B w0 w bb mb d c S P T u v k) : ∀ x ∈ [bb, mb], x < B := by
  have := h.lb
  intro x hx; simp at hx; omega
/-- A call on the book. -/
theorem OnR.call {w' : World} {c' : Int} {S' : List Int} (h : OnR B w0 w bb mb d c S P T u v k) (m : Mod [bb, mb] w w') (k1 : BookAt w' bb mb d c' S') (o : Onc c' S' P T) : OnR B w0 w' bb mb d c' S' P T u v k := by
  have l := h.lb
  refine ⟨k1, o, h.pu.mod m h.small, h.tv.mod m h.small, h.ap, h.lk, h.below.trans (m.below h.below.size ?_), l, Nat.le_trans h.le m.size⟩
  intro x hx; simp at hx; omega
/-- A number put behind the first list. -/
theorem OnR.more {x : Int} {S' : List Int} {o : Obj} {u' : Value} {w' : World} (h : OnR B w0 w bb mb d c S' P T u v k) (n : Onc c S' (P ++ [x]) T) (h1 : OwnR B w' u' (P ++ [x])) (h2 : (w.alloc o).grownBy w' u.ownBlock) (h3 : u'.ownBlock = u.ownBlock ∨ u'.ownBlock = some (w.alloc o).heap.size) : OnR B w0 w' bb mb d c S' (P ++ [x]) T u' v (k + 1) := by
  have tv := h.tv.later ((Below.refl _ _).alloc (Nat.le_refl _) o)
  have l := h.lb
  have z := h.le
  refine ⟨?_, n, h1, tv.kept2 h2 h.ap, h.ap.moved tv h3, by have := h.lk; simp; omega, (h.below.alloc h.below.size o).grown h2 (by have := h.below.size; simp; omega) (fun k hk => by have := h.pu.lt hk; omega), l, ?_⟩
  · have b := h.bk.later ((Below.refl _ _).alloc (Nat.le_refl _) o)
    cases hu : u.ownBlock with
    | none => exact b.mod (l := []) ((Mod.refl [] _).grown h2 (fun k hk => by rw [hu] at hk; cases hk)) (by simp) (by simp)
    | some r =>
      have := h.pu.lt hu
      exact b.mod (l := [r]) ((Mod.refl [r] _).grown h2 (fun k hk => .inl (by rw [hu] at hk; injection hk with hk; simp [hk]))) (by simp; omega) (by simp; omega)
  · have := h2.size; simp at this; omega
/-- While what Close gave is put behind the second list: the first j are. -/
structure OnI (B : Nat) (w0 w : World) (bb mb : Nat) (d c : Int) (S P T : List Int) (u v : Value) (k : Nat) (O : List Int) (j : Nat) : Prop where
  bk : BookAt w bb mb d c S
  on : Onc c S P (T ++ O)
  pu : OwnR B w u P
  tv : OwnR B w v (T ++ O.take j)
  ap : Apt u v
  lk : P.length ≤ k
  below : Below w0.heap.size w0 w
  lb : w0.heap.size ≤ bb ∧ w0.heap.size ≤ mb ∧ bb < B ∧ mb < B ∧ w0.heap.size ≤ B
  le : B ≤ w.heap.size
theorem OnI.more {O : List Int} {j : Nat} {x : Int} {o : Obj} {v' : Value} {w' : World} (h : OnI B w0 w bb mb d c S P T u v k O j) (e : O.take (j + 1) = O.take j ++ [x]) (h1 : OwnR B w' v' (T ++ O.take j ++ [x])) (h2 : (w.alloc o).grownBy w' v.ownBlock) (h3 : v'.ownBlock = v.ownBlock ∨ v'.ownBlock = some (w.alloc o).heap.size) : OnI B w0 w' bb mb d c S P T u v' k O (j + 1) := by
  have pu := h.pu.later ((Below.refl _ _).alloc (Nat.le_refl _) o)
  have l := h.lb
  have z := h.le
  refine ⟨?_, h.on, pu.kept2 h2 h.ap.symm, by rw [e, ← List.append_assoc]; exact h1, (h.ap.symm.moved pu h3).symm, h.lk, (h.below.alloc h.below.size o).grown h2 (by have := h.below.size; simp; omega) (fun k hk => by have := h.tv.lt hk; omega), l, ?_⟩
  · have b := h.bk.later ((Below.refl _ _).alloc (Nat.le_refl _) o)
    cases hu : v.ownBlock with
    | none => exact b.mod (l := []) ((Mod.refl [] _).grown h2 (fun k hk => by rw [hu] at hk; cases hk)) (by simp) (by simp)
    | some r =>
      have := h.tv.lt hu
      exact b.mod (l := [r]) ((Mod.refl [r] _).grown h2 (fun k hk => .inl (by rw [hu] at hk; injection hk with hk; simp [hk]))) (by simp; omega) (by simp; omega)
  · have := h2.size; simp at this; omega
theorem OnI.done {O : List Int} (h : OnI B w0 w bb mb d c S P T u v k O O.length) : OnR B w0 w bb mb d c S P (T ++ O) u v (k + 1) := by
  have tv := h.tv
  rw [List.take_length] at tv
  exact ⟨h.bk, h.on, h.pu, tv, h.ap, Nat.le_succ_of_le h.lk, h.below, h.lb, h.le⟩
/-- The last that was told, by its cell. -/
theorem last_cell {x : Value} {T : List Int} (o : OwnR B w x T) (n : T ≠ []) : ∃ g off cap y, x = .slice (some ⟨g, off, none⟩) T.length cap ∧ T.length ≤ cap ∧ cap ≤ 9223372036854775807 ∧ w.cell? ⟨g, off + (T.length - 1), none⟩ = some (.int .i64 y) ∧ y ∈ T ∧ g < w.heap.size := by
  obtain ⟨a, cap, rfl, z1, z2, i, _, _⟩ := o.is
  obtain ⟨g, off, rfl, l⟩ := i.resolve_left n
  have hp : 0 < T.length := List.length_pos_iff.2 n
  exact ⟨g, off, cap, _, rfl, z1, z2, l.cell (T.length - 1) (by omega), List.getElem_mem _, l.lt⟩
end
end Go.Proofs.Ytpkkcdbmhgmncaa
