/- The reference's Book: Close. -/
import Derived.Test.YtpkkcdbmhgmncaaBkg
import Derived.Maps.AppendAt
namespace Go.Proofs.Ytpkkcdbmhgmncaa
set_option linter.unusedVariables false
set_option linter.unusedSimpArgs false
open Go.RowKit W T9 Go.Maps
theorem OwnR.mod {B : Nat} {l : List Nat} {w w' : World} {v : Value} {xs : List Int} (h : OwnR B w v xs) (k : Mod l w w') (hl : ∀ x ∈ l, x < B) : OwnR B w' v xs := by
  refine ⟨h.1, h.2.imp id ?_⟩
  rintro ⟨b, cap, cur, hv, hb, hh, r⟩
  refine ⟨b, cap, cur, hv, hb, (k.block b (World.ownsRow.lt h b (by rw [hv]; rfl)).2 fun q => ?_).trans hh, r⟩
  have := hl b q; omega
def Apt (u v : Value) : Prop := ∀ k, u.ownBlock = some k → v.ownBlock ≠ some k
theorem Apt.symm {u v : Value} (h : Apt u v) : Apt v u := fun k e q => h k q e
theorem Apt.none (v : Value) : Apt (.slice none 0 0) v := fun k e => by cases e
theorem OwnR.kept2 {B : Nat} {w w' : World} {u v : Value} {xs : List Int} (h : OwnR B w v xs) (g : w.grownBy w' u.ownBlock) (a : Apt u v) : OwnR B w' v xs := by
  refine ⟨h.1, h.2.imp id ?_⟩
  rintro ⟨b, cap, cur, hv, hb, hh, r⟩
  refine ⟨b, cap, cur, hv, hb, (g.block b (World.ownsRow.lt h b (by rw [hv]; rfl)).2 fun e => ?_).trans hh, r⟩
  exact a b e.symm (by rw [hv]; rfl)
theorem Apt.moved {B : Nat} {w : World} {u u' v : Value} {xs : List Int} (a : Apt u v) (h : OwnR B w v xs) (m : u'.ownBlock = u.ownBlock ∨ u'.ownBlock = some w.heap.size) : Apt u' v := by
  intro k e q
  rcases m with m | m
  · exact a k (m.symm.trans e) q
  · rw [m] at e
    injection e with e
    have := (World.ownsRow.lt h k q).2
    omega
theorem wpList_append_r2 {ops : Array Oper} {rest : List Oper} {o : Oper} {a : Act} {Q : Exit → Act → World → Prop} {w : World} (hgd : o.guard = none) (s x : Operand)
    (ho : o.op = .call { callee := .builtin .append, args := #[s, x], argTypes := #[27, 27] }) (B : Nat) (v : Value) (qs : List Int) (hs : a.eval s = v) (hown : OwnR B w v qs) (b : Nat) (y : Int) (hx : a.eval x = .slice (some ⟨b, 0, none⟩) 1 1) (hsrc : w.cell? ⟨b, 0, none⟩ = some (.int .i64 y)) (hB : B ≤ w.heap.size)
    (h63 : (qs.length + 1) * 8 ≤ 140737488355328) (h : ∀ v' w', OwnR B w' v' (qs ++ [y]) → w.grownBy w' v.ownBlock → (v'.ownBlock = v.ownBlock ∨ v'.ownBlock = some w.heap.size) → wpList Try.prog ops Q rest (a.put o.dst v') w') : wpList Try.prog ops Q (o :: rest) a w := by
  obtain ⟨i0, hi0, hz0, hz1, hz2⟩ := info_parts info_w64
  refine wpList_append_own_at _ hgd s x 27 ho B 2 i0 (.int .i64 0) 1 8 Try.underlying27 hi0 hz0 hz1 hz2 rfl (by decide) v qs.length (qs.map (Value.int .i64)) hs hown ⟨b, 0, none⟩ 1 1 [.int .i64 y] hx rfl ?_ one_i64 (by unfold maxLen; omega) (by omega) hB ?_
  · intro j u hj
    match j, hj with
    | 0, hj =>
      simp at hj
      subst hj
      rw [Go.WideShapes.add_plain]; exact hsrc
  · intro v' w' h1 h2 _ h4
    refine h v' w' ?_ h2 h4
    unfold OwnR
    rw [List.length_append, List.map_append]; exact h1
theorem RBook.closed {X : List Nat} {w : World} {rb : Nat} {d c : Int} {S : List Int} (h : RBook X w rb d c S) (q : Int) : RBook X (w.setCell ⟨rb, 2, none⟩ (.int .i64 q)) rb d q S := by
  obtain ⟨a, cap, e, i, n, z1, z2, m⟩ := h.c1
  have c0 := h.c0
  have c2 := h.c2
  have f1 := h.f1
  have f2 := h.f2
  exact ⟨by simp [go_sem, c0], ⟨a, cap, by simp [go_sem, e], i.mod ((Mod.refl [rb] w).setCell (p := ⟨rb, 2, none⟩) (by simp) _) (fun g hg => by have := (m g hg).1; simp; exact fun e => this (e ▸ h.mem)), n, z1, z2, fun g hg => ⟨(m g hg).1, by simpa using (m g hg).2⟩⟩, by simp [go_sem, c2], by simp [go_sem, f1], by simp [go_sem, f2], fun x hx => by simpa using h.lt x hx, h.mem⟩
def RClosePost (X : List Nat) (w : World) (rb : Nat) (d q : Int) (S : List Int) (e : Ending) (w' : World) : Prop := ∃ v, e = .returned v ∧ OwnR w.heap.size w' v (S.filter fun y => decide (y ≤ q)) ∧ RBook X w' rb d q (S.filter fun y => !decide (y ≤ q)) ∧ Mod [rb] w w'
structure RClR (B : Nat) (w1 : World) (q : Int) (S : List Int) (u v : Value) (wr : World) (k : Nat) (O I : List Int) : Prop where
  oo : OwnR B wr u O
  oi : OwnR B wr v I
  ap : Apt u v
  below : Below B w1 wr
  le : B ≤ wr.heap.size
  eo : O ++ (S.drop k).filter (fun y => decide (y ≤ q)) = S.filter fun y => decide (y ≤ q)
  ei : I ++ (S.drop k).filter (fun y => !decide (y ≤ q)) = S.filter fun y => !decide (y ≤ q)
  lo : O.length ≤ k
  li : I.length ≤ k
theorem RClR.nextO {B : Nat} {w1 : World} {q : Int} {S : List Int} {u v : Value} {wr : World} {k : Nat} {O I : List Int} (r : RClR B w1 q S u v wr k O I) {x : Int} (dc : S.drop k = x :: S.drop (k + 1)) (hx : x ≤ q) {o : Obj} {u' : Value} {w' : World} (h1 : OwnR B w' u' (O ++ [x])) (h2 : (wr.alloc o).grownBy w' u.ownBlock) (h3 : u'.ownBlock = u.ownBlock ∨ u'.ownBlock = some (wr.alloc o).heap.size) : RClR B w1 q S u' v w' (k + 1) (O ++ [x]) I := by
  have eo := r.eo
  have ei := r.ei
  rw [dc] at eo ei
  have oi := r.oi.later ((Below.refl _ _).alloc (Nat.le_refl _) o)
  refine ⟨h1, oi.kept2 h2 r.ap, r.ap.moved oi h3, (r.below.alloc r.le o).grown h2 (by simp; have := r.le; omega) (fun k hk => by have := r.oo.lt hk; omega), ?_, ?_, ?_, ?_, by have := r.li; omega⟩
  · have := h2.size; have := r.le; simp at *; omega
  · simpa [hx] using eo
  · simpa [hx] using ei
  · have := r.lo; simp; omega
theorem RClR.nextI {B : Nat} {w1 : World} {q : Int} {S : List Int} {u v : Value} {wr : World} {k : Nat} {O I : List Int} (r : RClR B w1 q S u v wr k O I) {x : Int} (dc : S.drop k = x :: S.drop (k + 1)) (hx : ¬ x ≤ q) {o : Obj} {v' : Value} {w' : World} (h1 : OwnR B w' v' (I ++ [x])) (h2 : (wr.alloc o).grownBy w' v.ownBlock) (h3 : v'.ownBlock = v.ownBlock ∨ v'.ownBlock = some (wr.alloc o).heap.size) : RClR B w1 q S u v' w' (k + 1) O (I ++ [x]) := by
  have eo := r.eo
  have ei := r.ei
  rw [dc] at eo ei
  have oo := r.oo.later ((Below.refl _ _).alloc (Nat.le_refl _) o)
  refine ⟨oo.kept2 h2 r.ap.symm, h1, (r.ap.symm.moved oo h3).symm, (r.below.alloc r.le o).grown h2 (by simp; have := r.le; omega) (fun k hk => by have := r.oi.lt hk; omega), ?_, ?_, ?_, by have := r.lo; omega, ?_⟩
  · have := h2.size; have := r.le; simp at *; omega
  · simpa [hx] using eo
  · simpa [hx] using ei
  · have := r.li; simp; omega
set_option maxRecDepth 100000 in
set_option maxHeartbeats 4000000 in
theorem rclose_old {X : List Nat} {w : World} {rb : Nat} {d c : Int} {S : List Int} (h : RBook X w rb d c S) (t q : Int) (j : IsHi t) (h1 : 1 ≤ d) (h2 : d ≤ 1048576) (hq : q + 1 = t / d) (n : -9223372036854775808 < q + 1) (hc : q ≤ c) :
    CalcN 18 #[.pointer (some ⟨rb, 0, none⟩), .int .i64 t] w (.slice none 0 0) := by
  have kt := rthrough_ok t d (q + 1) j h1 h2 hq n
  have c0 := h.c0
  have c2 := h.c2
  rw [show q + 1 - 1 = q by omega] at kt
  clear h j h1 h2 hq n
  go_enter Try.func18, Try.ntmps18
  go_wp2_with fail
  refine (kt _).mono ?_
  rintro e w' ⟨rfl, rfl⟩
  clear kt
  go_wp2_with fail
  go_returns
  exact ⟨rfl, rfl⟩
set_option maxRecDepth 100000 in
set_option maxHeartbeats 4000000 in
theorem rclose_no {X : List Nat} {w : World} {rb : Nat} {d c : Int} {S : List Int} (h : RBook X w rb d c S) (t : Int) (j : IsHi t) (h1 : 1 ≤ d) (h2 : d ≤ 1048576) (hq : -9223372036854775808 = t / d) :
    CalcN 18 #[.pointer (some ⟨rb, 0, none⟩), .int .i64 t] w (.slice none 0 0) := by
  have kt := rthrough_no t d j h1 h2 hq
  have c0 := h.c0
  have c2 := h.c2
  clear h j h1 h2 hq
  go_enter Try.func18, Try.ntmps18
  go_wp2_with fail
  refine (kt _).mono ?_
  rintro e w' ⟨rfl, rfl⟩
  clear kt
  go_wp2_with fail
  go_returns
  exact ⟨rfl, rfl⟩
end Go.Proofs.Ytpkkcdbmhgmncaa
