/- due: the reference's without. -/
import Derived.Test.YtdfmfkibafcbcaaRdd
namespace Go.Proofs.Ytdfmfkibafcbcaa
set_option linter.unusedVariables false
set_option linter.unusedSimpArgs false
open Go.RowKit W Go.Maps
theorem LieE.cells {w : World} {g o : Nat} {L : List En} (h : LieE w g o L) : ∀ j u, (dues L)[j]? = some u → w.cell? ⟨g, o + j, none⟩ = some u := by
  intro j u e
  have lt := (List.getElem?_eq_some_iff.1 e).1
  rw [dues_len] at lt
  have hi : j / 2 < L.length := by omega
  obtain ⟨x0, x1⟩ := h.at_ (j / 2) hi
  rcases Nat.mod_two_eq_zero_or_one j with q | q
  · have ej : j = j / 2 * 2 := by omega
    rw [ej] at e ⊢
    rw [dues_key hi] at e
    rw [← e]; exact x0
  · have ej : j = j / 2 * 2 + 1 := by omega
    rw [ej] at e ⊢
    rw [dues_at hi] at e
    rw [← e]; exact x1
theorem add7 (g o j : Nat) : (⟨g, o, none⟩ : Addr).add j = ⟨g, o + j, none⟩ := by unfold Addr.add; simp
theorem LieE.head {w : World} {g o : Nat} {L : List En} (h : LieE w g o L) (i : Nat) : ∀ j u, (dues (L.take i))[j]? = some u → w.cell? ((⟨g, o, none⟩ : Addr).add j) = some u := by
  intro j u e
  rw [dues_take, List.getElem?_take] at e
  split at e
  · rw [add7]; exact h.cells j u e
  · cases e
theorem LieE.tail {w : World} {g o k n : Nat} {L : List En} (h : LieE w g o L) (hn : n = L.length) {ad : Addr} (e0 : k < n → ad = ⟨g, o + k * 2, none⟩) : ∀ j u, (dues (L.drop k))[j]? = some u → w.cell? (ad.add j) = some u := by
  intro j u e
  have lt := (List.getElem?_eq_some_iff.1 e).1
  rw [dues_len, List.length_drop] at lt
  rw [e0 (by omega)]
  rw [add7]; exact (h.drop k).cells j u e
set_option maxRecDepth 100000 in
set_option maxHeartbeats 4000000 in
theorem rwithout7_spec {w : World} {rb : Nat} {lim : Int} {a : Option Addr} {c : Nat} {L : List En} (h : RQ w rb lim a c L) (hl : L.length ≤ 65536) {i : Nat} (hi : i < L.length) :
    Calls Try.prog 29 #[.pointer (some ⟨rb, 0, none⟩), .int .i64 (i : Int)] w fun e w' => ∃ v', e = .returned v' ∧ w'.ownsRow w.heap.size 43 2 v' (L.length - 1) (dues (L.take i ++ L.drop (i + 1))) ∧ Below w.heap.size w w' := by
  obtain ⟨g, o, rfl, lie⟩ : ∃ g o, a = some ⟨g, o, none⟩ ∧ LieE w g o L := h.is.resolve_left (fun q => by rw [q] at hi; simp at hi)
  have hr : w.cell? ⟨rb, 1, none⟩ = some (.slice (some ⟨g, o, none⟩) L.length c) := h.r.cell 1 _ rfl
  have lr := h.r.lt
  have gl := lie.lt
  have cp := h.cap
  have cm := h.capm
  have LI := hide lie
  obtain ⟨n, hn⟩ : ∃ n, n = L.length := ⟨_, rfl⟩
  have HN := hide hn
  rw [← hn] at hr cp hl hi ⊢
  have sl1 := fun v => dues_to (a := some ⟨g, o, none⟩) (n := n) (c := c) (e := i) (by omega) cp v
  obtain ⟨k, hk⟩ : ∃ k, k = i + 1 := ⟨_, rfl⟩
  obtain ⟨ad, sl2, e1, e2, e3⟩ := dues_from (g := g) (o := o) (n := n) (c := c) (k := k) (by omega) cp cm
  have HK := hide hk
  have kn : k ≤ n := by omega
  have E1 := hide e1
  have wi : IntKind.i64.wrap ((i : Int) + 1) = (k : Int) := by rw [IntKind.wrap_i64]; omega
  have wi2 : (i : Int) + 1 = (k : Int) := by omega
  obtain ⟨i0, hi0⟩ : ∃ i0, Hid (Try.prog.info? 43 = some i0 ∧ i0.zero = some (.agg #[.string ByteArray.empty, .int .i64 0]) ∧ i0.size = 2 ∧ i0.bytes = 24) := by
    obtain ⟨i0, h1, h2, h3, h4⟩ := info_parts info_due
    exact ⟨i0, h1, h2, h3, h4⟩
  clear h lie hn e1 e2 e3 hk
  go_enter Try.func29, Try.ntmps29
  go_wp2_with (first
          | (at_builtin
             refine wpList_append_own_at _ rfl _ _ 27 rfl w.heap.size 43 i0 (.agg #[.string ByteArray.empty, .int .i64 0]) 2 24 Try.underlying27 hi0.out.1 hi0.out.2.1 hi0.out.2.2.1 hi0.out.2.2.2 ?a1 ?a2 (.slice none 0 0) 0 [] ?a3 ?a4 ⟨g, o, none⟩ i c (dues (L.take i)) ?a5 ?a6 ?a7 ?a8 ?a9 ?b1 ?b2 ?_
             case a1 => rfl
             case a2 => decide
             case a3 => rfl
             case a4 => exact World.ownsRow_nil _ _ _ _
             case a5 => rfl
             case a6 => (rw [dues_len, List.length_take]; have := HN.out; rw [Nat.min_eq_left (by omega)])
             case a7 => exact LI.out.head i
             case a8 => exact dues_one _
             case a9 => (unfold maxLen; omega)
             case b1 => omega
             case b2 => exact Nat.le_refl _
             intro v1 w3 hown hgrow _ hat
             obtain ⟨A1, c1, rfl, _, _⟩ := own_form hown
             rw [Nat.zero_add] at hown ⊢
             have O1 : Hid (w3.ownsRow w.heap.size 43 2 (.slice A1 i c1) i (dues (L.take i))) := hown
             have B3 : Hid (Below w.heap.size w w3) := hide ((Below.refl _ _).grown hgrow (Nat.le_refl _) (fun j e => by cases e))
             have hr3 : w3.cell? ⟨rb, 1, none⟩ = some (.slice (some ⟨g, o, none⟩) n c) := (B3.out.cell (p := ⟨rb, 1, none⟩) lr).trans hr
             have L3 : Hid (LieE w3 g o L) := hide (LI.out.later B3.out)
             clear hown hgrow hat)
          | (at_builtin
             refine wpList_append_own_at _ rfl _ _ 27 rfl w.heap.size 43 i0 (.agg #[.string ByteArray.empty, .int .i64 0]) 2 24 Try.underlying27 hi0.out.1 hi0.out.2.1 hi0.out.2.2.1 hi0.out.2.2.2 ?a1 ?a2 (.slice A1 i c1) i (dues (L.take i)) ?a3 ?a4 ad (n - k) (c - k) (dues (L.drop k)) ?a5 ?a6 ?a7 ?a8 ?a9 ?b1 ?b2 ?_
             case a1 => rfl
             case a2 => decide
             case a3 => rfl
             case a4 => exact O1.out
             case a5 => rfl
             case a6 => (rw [dues_len, List.length_drop]; have := HN.out; rw [this])
             case a7 => exact L3.out.tail HN.out E1.out
             case a8 => exact dues_one _
             case a9 => (unfold maxLen; have := HK.out; omega)
             case b1 => (have := HK.out; omega)
             case b2 => exact B3.out.size
             intro v5 w5 hown hgrow _ hat
             rw [← dues_app, show i + (n - k) = n - 1 from by have := HK.out; omega, HK.out] at hown
             have O5 : Hid (w5.ownsRow w.heap.size 43 2 v5 (n - 1) (dues (L.take i ++ L.drop (i + 1)))) := hown
             have B5 : Hid (Below w.heap.size w w5) := hide (B3.out.grown hgrow B3.out.size (fun j e => (own_old O1.out e).1))
             clear hown hgrow hat))
  go_returns
  exact ⟨_, rfl, O5.out, B5.out⟩
end Go.Proofs.Ytdfmfkibafcbcaa
