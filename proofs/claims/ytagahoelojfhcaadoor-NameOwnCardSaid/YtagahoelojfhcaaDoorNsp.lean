/- name: strings.Split at a point; Nodes. -/
import Derived.Test.YtagahoelojfhcaaDoorCutl
import Derived.Test.YtagahoelojfhcaaDoorNpt
import Derived.Test.YtagahoelojfhcaaDoorShelf
import Derived.Lib.SplitLaws
import Derived.Lib.Split
namespace Go.Proofs.YtagahoelojfhcaaDoor
set_option linter.unusedVariables false
set_option linter.unusedSimpArgs false
open Go.RowKit W
section
open Go.Lib
theorem occ_one (c : UInt8) (l : List UInt8) (j : Nat) : occAt l [c] j = decide (l[j]? = some c) := by
  unfold occAt
  rw [Bool.eq_iff_iff, decide_eq_true_eq]
  cases h : l.drop j with
  | nil =>
    have : l.length ≤ j := by simpa using h
    simp [List.getElem?_eq_none this]
  | cons x r =>
    have hj : j < l.length := by
      rcases Nat.lt_or_ge j l.length with q | q
      · exact q
      · rw [List.drop_eq_nil_of_le q] at h; cases h
    rw [List.drop_eq_getElem_cons hj] at h
    injection h with h1 h2
    rw [List.getElem?_eq_getElem hj, h1]
    show (c == x && true) = true ↔ _
    rw [Bool.and_true, beq_iff_eq, Option.some.injEq, eq_comm]
theorem index_at (c : UInt8) (a m : List UInt8) (h : c ∉ a) : index (a ++ c :: m) [c] = a.length := by
  refine index_first (by simp) (by rw [occ_one]; simp) fun j hj => ?_
  rw [occ_one, List.getElem?_append_left hj, List.getElem?_eq_getElem hj]
  have : a[j] ≠ c := fun e => h (e ▸ List.getElem_mem hj)
  simp [this]
theorem split_cut (c : UInt8) : ∀ (n : Nat) (l : List UInt8), l.length ≤ n → splitK [c] 0 (l.count c) l = cutL c [] l := by
  intro n
  induction n with
  | zero => intro l h; obtain rfl : l = [] := List.eq_nil_of_length_eq_zero (by omega); rfl
  | succ n ih =>
    intro l h
    by_cases hc : c ∈ l
    · obtain ⟨a, m, rfl, ha⟩ := List.eq_append_cons_of_mem hc
      have e : (a ++ c :: m).count c = m.count c + 1 := by
        rw [List.count_append, List.count_cons_self, List.count_eq_zero.2 ha, Nat.zero_add]
      rw [e, cutL_at c a m [] ha, splitK, index_at c a m ha, if_neg (by first | (simp; done) | (simp; omega))]
      have e2 : ((a.length : Int)).toNat = a.length := by omega
      rw [e2, Nat.add_zero, List.take_left, List.nil_append]
      have e3 : (a ++ c :: m).drop (a.length + [c].length) = m := by simp
      rw [e3, ih m (by simp at h; omega)]
    · rw [List.count_eq_zero.2 hc, cutL_none c l [] hc]; rfl
theorem split_pieces (s : ByteArray) (c : UInt8) : ((splitB ⟨#[c]⟩ 0 (countB s ⟨#[c]⟩) s).map (·.data.toList)) = cutL c [] s.data.toList := by
  rw [splitB_data]
  have : countB s ⟨#[c]⟩ = s.data.toList.count c := count_one c _
  rw [this]
  exact split_cut c _ _ (Nat.le_refl _)
end
/-- What a name's nodes are. -/
def nodesL (s : ByteArray) : List ByteArray := if validN (lst s) then Lib.splitB ⟨#[46]⟩ 0 (Lib.countB s ⟨#[46]⟩) s else []
theorem nodesL_yes {s : ByteArray} (h : validN (lst s) = true) : (nodesL s).map lst = cutL 46 [] (lst s) := by unfold nodesL; rw [if_pos h]; exact split_pieces s 46
theorem nodesL_no {s : ByteArray} (h : validN (lst s) = false) : nodesL s = [] := by unfold nodesL; rw [h]; rfl
theorem valid_size {s : ByteArray} (h : validN (lst s) = true) : s.size ≤ 200 := by
  unfold validN at h
  rw [Bool.and_eq_true] at h
  have := of_decide_eq_true h.1
  rwa [lst_len] at this
/-- internal/bytealg.MaxLen holds a number. -/
def GM (m : Int) (w : World) : Prop := w.cell? ⟨0, 0, none⟩ = some (.int .i64 m)
theorem GM.later {m : Int} {w w' : World} (h : GM m w) (b : Below w.heap.size w w') : GM m w' := (b.cell (p := ⟨0, 0, none⟩) (World.block_lt_of_cell? _ _ h)).trans h
def NodesRes (w : World) (s : ByteArray) (e : Ending) (w' : World) : Prop :=
  Below w.heap.size w w' ∧ ∃ a c, e = .returned (.slice a (nodesL s).length c) ∧ TyT w.heap.size w' a (nodesL s) ∧ (nodesL s).length ≤ c
set_option maxRecDepth 100000 in
set_option maxHeartbeats 4000000 in
theorem nodes_spec (s : ByteArray) (m : Int) (w : World) (hm : GM m w) : Calls Tryd.prog 4 #[.string s] w (NodesRes w s) := by
  have kv := valid_spec s w
  rw [show s.data.toList = lst s from rfl] at kv
  obtain ⟨t, ht⟩ : ∃ t, validN (lst s) = t := ⟨_, rfl⟩
  rw [ht] at kv
  cases t
  · have N := hide (nodesL_no ht)
    clear ht hm
    go_enter Tryd.func4, Tryd.ntmps4
    go_wp2_with fail
    refine kv.mono ?_
    rintro e w1 ⟨rfl, rfl⟩
    go_wp2_with fail
    go_returns
    exact ⟨Below.refl _ _, none, 0, by rw [N.out]; rfl, .inl N.out, by rw [N.out]; exact Nat.le_refl _⟩
  · have sz := valid_size ht
    have ks := Tryd.strings_Split s ⟨#[46]⟩ m w (by omega) hm (by decide)
    have hl := Lib.splitB_all ⟨#[46]⟩ (by decide) 0 _ s rfl
    have N : Hid (nodesL s = Lib.splitB ⟨#[46]⟩ 0 (Lib.countB s ⟨#[46]⟩) s) := by show _ = _; unfold nodesL; rw [ht]; rfl
    rw [← hl, ← N.out] at ks
    clear ht hm hl
    go_enter Tryd.func4, Tryd.ntmps4
    go_wp2_with fail
    refine kv.mono ?_
    rintro e w1 ⟨rfl, rfl⟩
    go_wp2_with fail
    refine ks.mono ?_
    rintro e w1 ⟨rfl, hw⟩
    have HW := hide hw
    clear hw
    go_wp2_with fail
    go_returns
    have e := HW.out
    subst e
    refine ⟨(Below.refl _ _).alloc (Nat.le_refl _) _, _, _, rfl, .inr ⟨w.heap.size, 0, _, rfl, Nat.le_refl _, heap_alloc_new _ _, fun j hj => ?_⟩, Nat.le_refl _⟩
    simp [hj]
end Go.Proofs.YtagahoelojfhcaaDoor
