/- WideShuffles: lists of wide numbers that the call makes by append. -/
import Derived.Test.YthcgkpmlfbjagaaLawsums
import Derived.Maps.AppendAt
import Derived.Deep.AppendLies
import Derived.RegionTactic
import Derived.OwnWalk
import Derived.WideShapes
namespace Go.Proofs.Ythcgkpmlfbjagaa
set_option linter.unusedVariables false
open Go.RowKit Go.WideShapes W
/-- The cells of a list of wide numbers. -/
def cw : List (Int × Int) → List Value
  | [] => []
  | p :: r => .int .i64 p.1 :: .int .u64 p.2 :: cw r
theorem cw_len : ∀ ws, (cw ws).length = ws.length * 2
  | [] => rfl
  | p :: r => by simp only [cw, List.length_cons, cw_len r]; omega
theorem cw_app : ∀ a b, cw (a ++ b) = cw a ++ cw b
  | [], b => rfl
  | p :: r, b => by simp only [cw, List.cons_append, cw_app r b]
theorem cw_hi : ∀ (ws : List (Int × Int)) (j : Nat), j < ws.length → (cw ws)[j * 2]? = some (.int .i64 (ws.getD j (0, 0)).1)
  | [], j, h => absurd h (by simp)
  | p :: r, 0, _ => by simp [cw]
  | p :: r, j + 1, h => by
    have := cw_hi r j (by simp at h; omega)
    rw [show (j + 1) * 2 = j * 2 + 1 + 1 by omega]
    simpa [cw] using this
theorem cw_lo : ∀ (ws : List (Int × Int)) (j : Nat), j < ws.length → (cw ws)[j * 2 + 1]? = some (.int .u64 (ws.getD j (0, 0)).2)
  | [], j, h => absurd h (by simp)
  | p :: r, 0, _ => by simp [cw]
  | p :: r, j + 1, h => by
    have := cw_lo r j (by simp at h; omega)
    rw [show (j + 1) * 2 + 1 = j * 2 + 1 + 1 + 1 by omega]
    simpa [cw] using this
theorem cw_one : ∀ (ws : List (Int × Int)), ∀ u ∈ cw ws, u.oneCell' = true
  | [], u, h => absurd h (by simp [cw])
  | p :: r, u, h => by
    simp only [cw, List.mem_cons] at h
    rcases h with rfl | rfl | h
    · rfl
    · rfl
    · exact cw_one r u h
theorem cw_of (ws : List (Int × Int)) (i : Nat) (u : Value) (h : (cw ws)[i]? = some u) :
    ∃ j, j < ws.length ∧ ((i = j * 2 ∧ u = .int .i64 (ws.getD j (0, 0)).1) ∨ (i = j * 2 + 1 ∧ u = .int .u64 (ws.getD j (0, 0)).2)) := by
  have hl : i < (cw ws).length := (List.getElem?_eq_some_iff.1 h).1
  rw [cw_len] at hl
  refine ⟨i / 2, by omega, ?_⟩
  rcases Nat.mod_two_eq_zero_or_one i with e | e
  · have q : i = i / 2 * 2 := by omega
    have := cw_hi ws (i / 2) (by omega)
    rw [← q, h] at this
    exact .inl ⟨q, by injection this⟩
  · have q : i = i / 2 * 2 + 1 := by omega
    have := cw_lo ws (i / 2) (by omega)
    rw [← q, h] at this
    exact .inr ⟨q, by injection this⟩
/-- A slice that the call made reads as a list of wide numbers, and may be written. -/
theorem own_wides {w : World} {base n : Nat} {e : TypeId} {v : Value} {ws : List (Int × Int)} (h : w.ownsRow base e 2 v n (cw ws)) (F : ∀ p ∈ ws, IsW p) (hn : n ≤ 140737488355328) :
    ∃ A c, v = .slice A n c ∧ n ≤ c ∧ IsWides w A n c ws ∧ ws.length = n ∧ (0 < n → ∃ g, A = some ⟨g, 0, none⟩ ∧ base ≤ g ∧ g < w.heap.size ∧ Holds w g 0 n ws ∧ ∀ i, w.frozen? ⟨g, i, none⟩ = false) := by
  have hl : ws.length = n := by have := h.1; rw [cw_len] at this; omega
  have h' := h
  rcases h.2 with ⟨rfl, rfl⟩ | ⟨g, cap, cur, rfl, hb, hh, hc, _, hs, ht⟩
  · obtain rfl : ws = [] := List.eq_nil_of_length_eq_zero hl
    exact ⟨none, 0, rfl, Nat.le_refl _, .inl ⟨rfl, rfl⟩, rfl, fun h => absurd h (by omega)⟩
  · have hg : g < w.heap.size := by
      rcases Nat.lt_or_ge g w.heap.size with h | h
      · exact h
      · rw [Array.getElem?_eq_none h] at hh; cases hh
    have cells := h'.cells (g := g) rfl
    have add0 : ∀ j, (⟨g, 0, none⟩ : Addr).add j = ⟨g, j, none⟩ := fun j => by unfold Addr.add; split <;> simp_all
    have H : Holds w g 0 n ws := ⟨hl, fun j hj => by have := cells _ _ (cw_hi ws j (by omega)); rw [add0] at this; simpa using this,
      fun j hj => by have := cells _ _ (cw_lo ws j (by omega)); rw [add0] at this; simpa using this, F⟩
    refine ⟨_, _, rfl, hc, .inr ⟨g, 0, rfl, hg, hn, H⟩, hl, fun _ => ⟨g, rfl, hb, hg, H, fun i => ?_⟩⟩
    simp [World.frozen?, hh]
/-- Append of a list of wide numbers that may be nil, onto a slice of the call's own. -/
theorem wpList_append_wides {P : Program} (w : World) {ops : Array Oper} {rest : List Oper} {o : Oper} {a : Act} {Q : Exit → Act → World → Prop} (hgd : o.guard = none) (s x : Operand) (t : TypeId)
    (ho : o.op = .call { callee := .builtin .append, args := #[s, x], argTypes := #[t, t] })
    (base : Nat) (e : TypeId) (i : TypeInfo) (z : Value) (ht : P.underlying t = some (.slice e)) (hi : P.info? e = some i) (hz : i.zero = some z)
    (hsize : i.size = 2) (hby : i.bytes = 16) (hzs : z.cells.size = 2)
    (v : Value) (n : Nat) (xs : List (Int × Int)) (hs : a.eval s = v) (hown : w.ownsRow base e 2 v n (cw xs))
    (A : Option Addr) (m c : Nat) (ws : List (Int × Int)) (hx : a.eval x = .slice A m c) (H : IsWides w A m c ws)
    (hbytes : (n + m) * 16 ≤ 140737488355328) (hbase : base ≤ w.heap.size)
    (h : ∀ v' w', w'.ownsRow base e 2 v' (n + m) (cw (xs ++ ws)) → Below base w w' → wpList P ops Q rest (a.put o.dst v') w') : wpList P ops Q (o :: rest) a w := by
  refine wpList_plain hgd fun K hK => ?_
  have run : ∃ v' w', (Builtin.append_ #[t, t] o.type #[v, .slice A m c]).run P w = .ok v' w' ∧ w'.ownsRow base e 2 v' (n + m) (cw (xs ++ ws)) ∧ Below base w w' := by
    have below : ∀ {w' : World}, w.grownBy w' v.ownBlock → Below base w w' := fun hg =>
      (Below.refl base w).grown hg hbase fun k hk => by
        rcases hown.2 with ⟨rfl, _⟩ | ⟨g, cap, cur, rfl, hb, _⟩
        · simp [Value.ownBlock] at hk
        · simp [Value.ownBlock] at hk; omega
    have m63 : n + m ≤ maxLen := by simp only [maxLen]; omega
    rcases A with _ | ad
    · have h0 : m = 0 ∧ ws = [] := by
        rcases H with h | ⟨b, off, h, _⟩
        · exact h
        · cases h
      obtain ⟨rfl, rfl⟩ := h0
      refine ⟨v, w, ?_, by simpa using hown, Below.refl _ _⟩
      rcases hown.2 with ⟨rfl, rfl⟩ | ⟨g, cap, cur, rfl, _, _, hnc, _⟩
      · simp [Builtin.append_, run_underlying ht, sizeOf, typeInfo, hi, Builtin.lenOf, Builtin.firstCells]
      · simp [Builtin.append_, run_underlying ht, sizeOf, typeInfo, hi, Builtin.lenOf, Builtin.firstCells, hnc, storeCells]
    · have cells : (cw ws).length = m * 2 ∧ ∀ j u, (cw ws)[j]? = some u → w.cell? (ad.add j) = some u := by
        rcases H with ⟨rfl, rfl⟩ | ⟨b, off, hA, hb, hl, Hd⟩
        · exact ⟨rfl, fun j u hu => by simp [cw] at hu⟩
        · injection hA with hA
          subst hA
          refine ⟨by rw [cw_len, Hd.size], fun j u hu => ?_⟩
          rw [add_plain]
          obtain ⟨q, hq, ⟨rfl, rfl⟩ | ⟨rfl, rfl⟩⟩ := cw_of ws j u hu
          · exact Hd.chi q (by have := Hd.size; omega)
          · exact Hd.clo q (by have := Hd.size; omega)
      obtain ⟨v', w', hr, h2, h3, _, _⟩ := run_append_own_at (P := P) w base t o.type e i z 2 16 ht hi hz hsize hby hzs (by omega) v n (cw xs) hown ad m c (cw ws) cells.1 cells.2 (cw_one ws) m63 hbytes hbase
      exact ⟨v', w', hr, by rw [cw_app]; exact h2, below h3⟩
  obtain ⟨v', w', hr, h2, h3⟩ := run
  unfold Oper.wp execOp
  simp only [ho, resolve, invoke, builtin, Sem.run_bind, Sem.run_pure, Result.andThen_ok, List.map_toArray, List.map_cons, List.map_nil, hs, hx, hr]
  exact hK _ _ (h v' w' h2 h3)
theorem IsWides.later {w w' : World} {A : Option Addr} {n c B : Nat} {ws : List (Int × Int)} (h : IsWides w A n c ws) (hB : w.heap.size ≤ B) (k : Below B w w') : IsWides w' A n c ws := by
  rcases h with h | ⟨b, off, e, hb, hl, H⟩
  · exact .inl h
  · exact .inr ⟨b, off, e, Nat.lt_of_lt_of_le hb k.size, hl, H.later hb (k.mono hB)⟩
theorem IsWides.size {w : World} {A : Option Addr} {n c : Nat} {ws : List (Int × Int)} (h : IsWides w A n c ws) : ws.length = n := by
  rcases h with ⟨rfl, rfl⟩ | ⟨b, off, e, hb, hl, H⟩
  · rfl
  · exact H.size
theorem IsWides.fit {w : World} {A : Option Addr} {n c : Nat} {ws : List (Int × Int)} (h : IsWides w A n c ws) : ∀ p ∈ ws, IsW p := by
  rcases h with ⟨rfl, rfl⟩ | ⟨b, off, e, hb, hl, H⟩
  · simp
  · exact H.fit
theorem IsWides.take {w : World} {A : Option Addr} {n c k c2 : Nat} {ws : List (Int × Int)} (h : IsWides w A n c ws) (hk : k ≤ n) : IsWides w A k c2 (ws.take k) := by
  rcases h with ⟨rfl, rfl⟩ | ⟨b, off, e, hb, hl, H⟩
  · exact .inl ⟨by omega, by simp⟩
  · refine .inr ⟨b, off, e, hb, by omega, ?_, fun j hj => ?_, fun j hj => ?_, fun p hp => H.fit p (List.mem_of_mem_take hp)⟩
    · have := H.size; simp; omega
    · have := H.chi j (by omega); simpa [List.getD_eq_getElem?_getD, List.getElem?_take, hj] using this
    · have := H.clo j (by omega); simpa [List.getD_eq_getElem?_getD, List.getElem?_take, hj] using this
theorem IsWides.drop {w : World} {A : Option Addr} {n c k c2 : Nat} {ws : List (Int × Int)} (h : IsWides w A n c ws) (hk : k ≤ n) (hc : n ≤ c) :
    IsWides w (if c = k then A else A.map (·.add (k * 2))) (n - k) c2 (ws.drop k) := by
  have hs := h.size
  rcases Nat.lt_or_ge k n with g | g
  · rw [if_neg (by omega)]
    rcases h with ⟨rfl, rfl⟩ | ⟨b, off, rfl, hb, hl, H⟩
    · omega
    · refine .inr ⟨b, off + k * 2, by simp only [Option.map_some, add_plain], hb, by omega, by simp; omega, fun j hj => ?_, fun j hj => ?_, fun p hp => H.fit p (List.mem_of_mem_drop hp)⟩
      · have := H.chi (k + j) (by omega)
        rw [show off + k * 2 + j * 2 = off + (k + j) * 2 by omega, this]
        simp [List.getD_eq_getElem?_getD]
      · have := H.clo (k + j) (by omega)
        rw [show off + k * 2 + j * 2 + 1 = off + (k + j) * 2 + 1 by omega, this]
        simp [List.getD_eq_getElem?_getD]
  · exact .inl ⟨by omega, List.drop_eq_nil_of_le (by omega)⟩
theorem sum_any (A : Option Addr) (n c : Nat) (ws : List (Int × Int)) (w : World) (H : IsWides w A n c ws) :
    Calls Try.prog 34 #[.slice A n c] w fun e w' => e = sumRes (sumV ws) ∧ Below w.heap.size w w' := by
  rcases H with ⟨rfl, rfl⟩ | ⟨b, off, rfl, hb, hl, H⟩
  · have := sum_none A c w
    exact this
  · exact sum_some b off n c ws w hb hl H
end Go.Proofs.Ythcgkpmlfbjagaa
