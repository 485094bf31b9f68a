/- slices.SortFunc of a list of structs of one's own, generic. -/
import Derived.Test.YtdfmfkibafcbcaaChg
import Derived.Shelf.SlSortCmp.WholeK
import Derived.Shelf.SlSortCmp.NoneTotal
namespace Go.Proofs.Ytdfmfkibafcbcaa
set_option linter.unusedVariables false
set_option linter.unusedSimpArgs false
open Go.RowKit Go.Shelf Go.Lib Go.Sort
section
variable {α : Type} [Inhabited α]
theorem flat_eq (enc : α → List Value) (k : Nat) (hk : ∀ x, (enc x).length = k) (L : List α) (xs : List Value) (hl : xs.length = L.length * k) (h : ∀ i (hi : i < L.length) j, j < k → xs[i * k + j]? = (enc L[i])[j]?) : (flatK enc k L.toArray).toList = xs := by
  apply List.ext_getElem?
  intro t
  by_cases ht : t < L.length * k
  · have k0 : 0 < k := by rcases Nat.eq_zero_or_pos k with q | q; · subst q; simp at ht
                          · exact q
    have hi : t / k < L.length := (Nat.div_lt_iff_lt_mul k0).2 ht
    have hj : t % k < k := Nat.mod_lt _ k0
    have e := h (t / k) hi (t % k) hj
    rw [show t / k * k + t % k = t from by rw [Nat.mul_comm]; exact Nat.div_add_mod t k] at e
    rw [e, Array.getElem?_toList]
    have hs : t < (flatK enc k L.toArray).size := by simpa using ht
    rw [Array.getElem?_eq_getElem hs]
    have g := get_flatK enc k L.toArray t (by simpa using ht)
    rw [getElem!_pos _ t hs] at g
    rw [g]
    have e2 : L.toArray[t / k]! = L[t / k] := by simp [hi]
    rw [e2]
    have hj' : t % k < (enc L[t / k]).length := by rw [hk]; exact hj
    rw [List.getElem?_eq_getElem hj', getElem!_pos (enc L[t / k]) (t % k) hj']
  · have q : (flatK enc k L.toArray).toList.length ≤ t := by simp; omega
    rw [List.getElem?_eq_none q, List.getElem?_eq_none (by omega)]
theorem holds_own {enc : α → List Value} {k g c n base : Nat} {e : TypeId} {w : World} {L : List α} (o : w.ownsRow base e k (.slice (some ⟨g, 0, none⟩) n c) n (flatK enc k L.toArray).toList) : HoldsK enc k w g 0 L.toArray := by
  obtain ⟨r1, r2, _, _⟩ := row_look o
  intro j hj
  rw [Nat.zero_add]
  refine ⟨r1 j _ ?_, r2 j⟩
  rw [Array.getElem?_toList, Array.getElem?_eq_getElem hj]
  rw [getElem!_pos (flatK enc k L.toArray) j hj]
  rfl
theorem heap_sortedK {w : World} {g n : Nat} {os : Array Obj} {cur F : Array Value} {e : TypeId} {fr : Nat × Nat} (hb : w.heap[g]? = some (.cells cur e fr)) :
    (grow (putRow id (Sort.ahead w n) g 0 F) os).heap[g]? = some (.cells (putCells id 0 F cur) e fr) := by
  have hg : g < w.heap.size := (Array.getElem?_eq_some_iff.1 hb).1
  rw [heap_grow_old _ _ (by simpa using hg)]
  simp [putRow, mapBlock, Sort.ahead, Array.getElem?_modify, hb, onCells]
theorem grownBy_sortedK {w : World} {g n : Nat} {os : Array Obj} (F : Array Value) : w.grownBy (grow (putRow id (Sort.ahead w n) g 0 F) os) (some g) := by
  refine ⟨rfl, rfl, rfl, by simp, fun k hk hne => ?_⟩
  rw [heap_grow_old _ _ (by simpa using hk)]
  have : g ≠ k := fun e => hne (by rw [e])
  simp [putRow, mapBlock, Sort.ahead, Array.getElem?_modify, this]
theorem take_putCellsK (cur F : Array Value) (h : F.size ≤ cur.size) : (putCells id 0 F cur).toList.take F.size = F.toList := by
  apply List.ext_getElem?
  intro j
  by_cases hj : j < F.size
  · rw [List.getElem?_take_of_lt hj, Array.getElem?_toList]
    simp [putCells, hj, show j < cur.size by omega]
  · rw [List.getElem?_take_eq_none (by omega), List.getElem?_eq_none (by simp; omega)]
theorem own_sortedK {w : World} {base e k g n c m : Nat} {os : Array Obj} {xs : List Value} {F : Array Value} (o : w.ownsRow base e k (.slice (some ⟨g, 0, none⟩) n c) n xs) (hF : F.size = n * k) :
    (grow (putRow id (Sort.ahead w m) g 0 F) os).ownsRow base e k (.slice (some ⟨g, 0, none⟩) n c) n F.toList := by
  obtain ⟨hl, ⟨h0, _⟩ | ⟨g', cap, cur, hv, hb, hh, h1, h2, h3, h4⟩⟩ := o
  · cases h0
  · cases hv
    have hle : F.size ≤ cur.size := by rw [hF, h3]; exact Nat.mul_le_mul_right k h1
    refine ⟨by simpa using hF, .inr ⟨g, c, _, rfl, hb, heap_sortedK hh, h1, h2, by simp [putCells, h3], ?_⟩⟩
    rw [← hF]
    exact take_putCellsK cur F hle
theorem permIn_perm {L : List α} {d' : Array α} (h : PermIn 0 L.toArray.size L.toArray d') : d'.toList.Perm L := by
  obtain ⟨h1, _, h3⟩ := h
  have a : d'.extract 0 L.toArray.size = d' := by rw [← h1]; simp
  have b : L.toArray.extract 0 L.toArray.size = L.toArray := by simp
  rw [a, b] at h3
  simpa using h3
theorem sortedIn_pair {lt : α → α → Bool} {n : Nat} {d : Array α} (h : SortedIn lt 0 n d) (hn : d.size = n) : d.toList.Pairwise fun a b => lt b a = false := by
  rw [List.pairwise_iff_getElem]
  intro i j hi hj hij
  have hi' : i < d.size := by simpa using hi
  have hj' : j < d.size := by simpa using hj
  have := h i j (Nat.zero_le _) hij (by omega)
  rw [getElem!_pos d i hi', getElem!_pos d j hj'] at this
  simpa using this
end
end Go.Proofs.Ytdfmfkibafcbcaa
