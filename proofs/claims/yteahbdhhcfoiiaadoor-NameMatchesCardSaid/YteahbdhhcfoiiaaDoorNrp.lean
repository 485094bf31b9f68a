/- name: how a pattern reads. -/
import Derived.Test.YteahbdhhcfoiiaaDoorNmb
import Derived.Test.YteahbdhhcfoiiaaDoorOwnl
import Derived.Test.YteahbdhhcfoiiaaDoorSzl
import Derived.Deep.Slices
import Derived.ChangeArms
import Derived.ChangeAlike
namespace Go.Proofs.YteahbdhhcfoiiaaDoor
set_option linter.unusedVariables false
set_option linter.unusedSimpArgs false
open Go.RowKit W Go.Maps Go.ChangeShapes Go.WideShapes Go.Deep
section
variable {H : Type} {enc : TypeId × Value → H} {w : World} {base : Nat} {sp : Nat → Bool} {held : Bool} {fuel : Nat} {cs : List Value} {x : DataW H × List MemPlace}
instance : Inhabited Gl := ⟨⟨0, ByteArray.empty, []⟩⟩
theorem cellsGlob : Tryd.prog.cellsOf 66 = 3 := by kernel_rfl
theorem cellsPat : Tryd.prog.cellsOf 33 = 1 := by kernel_rfl
theorem cellsGs : Tryd.prog.cellsOf 61 = 1 := by kernel_rfl
theorem cellsNs : Tryd.prog.cellsOf 31 = 1 := by kernel_rfl
theorem cellsTx : Tryd.prog.cellsOf 26 = 1 := by kernel_rfl
theorem cellsStr : Tryd.prog.cellsOf 9 = 1 := by kernel_rfl
theorem cellsKind : Tryd.prog.cellsOf 64 = 1 := by kernel_rfl
theorem listOf1 {α : Type} {l : List α} (h : l.length = 1) : ∃ a, l = [a] := by
  rcases l with _ | ⟨a, _ | ⟨b, l⟩⟩ <;> simp at h
  exact ⟨a, rfl⟩
theorem listOf3 {α : Type} {l : List α} (h : l.length = 3) : ∃ a b c, l = [a, b, c] := by
  rcases l with _ | ⟨a, _ | ⟨b, _ | ⟨c, _ | ⟨d, l⟩⟩⟩⟩ <;> simp at h
  exact ⟨a, b, c, rfl⟩
theorem reach_le : reachBytes ≤ 140737488351232 := by decide
theorem rd_txts (h : DataW.trod enc Tryd.prog w base sp held fuel 26 cs = some x) :
    ∃ s c, ∃ l : List ByteArray, cs = [.slice s l.length c] ∧ l.length ≤ c ∧ IsTxts w s l ∧ (Wt Tryd.prog 26 x.1 → l.length ≤ 140737488355328 ∧ ∀ y ∈ l, y.size ≤ 140737488355328) := by
  obtain ⟨v, rfl⟩ : ∃ v, cs = [v] := by
    rcases open_slice Tryd.underlying26 h with ⟨e, _⟩ | ⟨a, len, cap, m, k, D, Pl, e, _⟩
    · exact ⟨_, e⟩
    · exact ⟨_, e⟩
  obtain ⟨s, c, l, rfl, hl, hd⟩ := isTxts_of Tryd.underlying26 Tryd.underlying9 cellsStr h
  have lc : l.length ≤ c := by
    rcases open_slice Tryd.underlying26 h with ⟨e, _⟩ | ⟨a, len, cap, m, k, D, Pl, e, _, hlc, _⟩
    · simp at e; rw [e.2.1]; simp
    · simp at e; omega
  refine ⟨s, c, l, rfl, lc, hl, fun hw => ?_⟩
  rcases hd with e | ⟨spd, e⟩
  · subst e; simp
  · rw [e] at hw
    constructor
    · have h1 := wt_len hw Tryd.underlying26
      rw [(by kernel_rfl : Tryd.prog.bytesOf 9 = 16), show (strs (H := H) l).length = l.length by simp [strs]] at h1
      have h2 := reach_le
      omega
    · intro q hq
      have h1 := wt_text (wt_elem hw Tryd.underlying26 (d := .lit (.string q.data.toList)) (List.mem_map_of_mem (f := fun s : ByteArray => (.lit (.string s.data.toList) : DataW H)) hq))
      have : q.data.toList.length = q.size := Array.length_toList
      omega
theorem rd_glob (h : DataW.trod enc Tryd.prog w base sp held fuel 66 cs = some x) :
    ∃ g : Gl, ∃ b c, cs = [.int .i64 g.k, .string g.t, .slice b g.al.length c] ∧ g.al.length ≤ c ∧ IsTxts w b g.al ∧ (Wt Tryd.prog 66 x.1 → GlW g) := by
  obtain ⟨xs, n, _, hx, hl, hxl, hf⟩ := DataW.trod_struct Tryd.underlying66 h
  rw [cellsGlob] at hl
  have hxl : xs.length = 3 := by simpa using hxl
  obtain ⟨v0, v1, v2, rfl⟩ := listOf3 hl
  obtain ⟨y0, y1, y2, rfl⟩ := listOf3 hxl
  have g0 := hf 0 _ rfl
  have g1 := hf 1 _ rfl
  have g2 := hf 2 _ rfl
  simp [cellsKind, cellsStr, cellsTx] at g0 g1 g2
  obtain ⟨k, e0, _⟩ := DataW.trod_int Tryd.underlying64 g0
  obtain ⟨t, e1, d1, _⟩ := DataW.trod_string Tryd.underlying9 g1
  obtain ⟨b, c, l, e2, lc, il, wl⟩ := rd_txts g2
  simp at e0 e1 e2
  subst e0 e1 e2
  refine ⟨⟨k, t, l⟩, b, c, rfl, lc, il, fun hw => ?_⟩
  subst hx
  have w2 := wl (wt_part (j := 2) hw Tryd.underlying66 rfl (by simp))
  have w1 := wt_part (j := 1) (d := y1.1) hw Tryd.underlying66 rfl (by simp)
  rw [d1] at w1
  have w1 := wt_text w1
  have : t.data.toList.length = t.size := Array.length_toList
  refine ⟨?_, w2.1, w2.2⟩
  show t.size ≤ _
  first | omega | (simp at w1; omega)
theorem rd_gs (h : DataW.trod enc Tryd.prog w base sp held fuel 61 cs = some x) :
    ∃ s c, ∃ gs : List Gl, cs = [.slice s gs.length c] ∧ gs.length ≤ c ∧ IsGs w s gs ∧ (Wt Tryd.prog 61 x.1 → gs.length ≤ 140737488355328 ∧ ∀ g ∈ gs, GlW g) := by
  rcases open_slice Tryd.underlying61 h with ⟨hcs, _⟩ | ⟨a, n, cap, m, k, D, Pl, hcs, _, hl, hm, hmm, hx, hcell⟩
  · exact ⟨none, 0, [], hcs, by simp, .inl rfl, fun _ => by simp⟩
  · have lm : n ≤ m := by rw [hmm]; split <;> omega
    have each : ∀ i, i < n → ∃ g : Gl, (∃ b c, w.cell? (a.add (i * 3 + 0)) = some (.int .i64 g.k) ∧ w.cell? (a.add (i * 3 + 1)) = some (.string g.t) ∧ w.cell? (a.add (i * 3 + 2)) = some (.slice b g.al.length c) ∧ IsTxts w b g.al ∧ g.al.length ≤ c) ∧ (Wt Tryd.prog 66 (D i) → GlW g) := by
      intro i hi
      obtain ⟨cs', h1, h2⟩ := hcell i (by omega)
      obtain ⟨_, hlen, hc⟩ := World.cells?_some h1
      obtain ⟨g, b, c, rfl, lc, it, wt⟩ := rd_glob h2
      rw [cellsGlob] at hc
      have c0 := hc 0 (by omega)
      have c1 := hc 1 (by omega)
      have c2 := hc 2 (by omega)
      rw [add_add] at c0 c1 c2
      exact ⟨g, ⟨b, c, c0.trans rfl, c1.trans rfl, c2.trans rfl, it, lc⟩, wt⟩
    obtain ⟨q, hq⟩ := choose_lt each
    have hlen : ((List.range n).map q).length = n := by simp
    have at' : ∀ j (hj : j < n), ((List.range n).map q)[j]'(by rw [hlen]; exact hj) = q j := fun j hj => by rw [List.getElem_map, List.getElem_range]
    refine ⟨some a, cap, (List.range n).map q, by rw [hlen]; exact hcs, by rw [hlen]; exact hl, ?_, fun hw => ?_⟩
    · rcases Nat.eq_zero_or_pos n with rfl | hpos
      · exact .inl (by simp)
      · obtain ⟨⟨_, _, g0, _⟩, _⟩ := hq 0 hpos
        obtain ⟨b, off, spot⟩ := a
        have hspot : spot = none := by simpa [Addr.add] using World.cell?_spot g0
        subst hspot
        refine .inr ⟨b, off, rfl, fun j hj => ?_, ?_⟩
        · rw [hlen] at hj
          rw [at' j hj]
          obtain ⟨⟨b1, c1, g1, g2, g3, g4, g5⟩, _⟩ := hq j hj
          rw [add_plain, ← Nat.add_assoc] at g1 g2 g3
          exact ⟨g1, g2, b1, c1, g3, g4, g5⟩
        · rw [add_plain] at g0
          rcases Nat.lt_or_ge b w.heap.size with hlt | hge
          · exact hlt
          · unfold World.cell? at g0; simp [Array.getElem?_eq_none hge] at g0
    · rw [hx] at hw
      constructor
      · have h1 := wt_len hw Tryd.underlying61
        rw [(by kernel_rfl : Tryd.prog.bytesOf 66 = 48)] at h1
        have h2 := reach_le
        simp at h1 ⊢
        omega
      · intro g hg
        obtain ⟨i, hi, rfl⟩ := List.mem_map.1 hg
        exact (hq i (List.mem_range.1 hi)).2 (wt_elem hw Tryd.underlying61 (List.mem_map_of_mem hi))
theorem rd_ns (h : DataW.trod enc Tryd.prog w base sp held fuel 31 cs = some x) :
    ∃ s c, ∃ p : List (List Gl), cs = [.slice s p.length c] ∧ p.length ≤ c ∧ IsPt w s p ∧ (Wt Tryd.prog 31 x.1 → PtW p) := by
  rcases open_slice Tryd.underlying31 h with ⟨hcs, _⟩ | ⟨a, n, cap, m, k, D, Pl, hcs, _, hl, hm, hmm, hx, hcell⟩
  · exact ⟨none, 0, [], hcs, by simp, .inl rfl, fun _ => ⟨by simp, by simp, by simp⟩⟩
  · have lm : n ≤ m := by rw [hmm]; split <;> omega
    have each : ∀ i, i < n → ∃ gs : List Gl, (∃ b c, w.cell? (a.add (i * 1 + 0)) = some (.slice b gs.length c) ∧ IsGs w b gs ∧ gs.length ≤ c) ∧ (Wt Tryd.prog 61 (D i) → gs.length ≤ 140737488355328 ∧ ∀ g ∈ gs, GlW g) := by
      intro i hi
      obtain ⟨cs', h1, h2⟩ := hcell i (by omega)
      obtain ⟨_, hlen, hc⟩ := World.cells?_some h1
      obtain ⟨b, c, gs, rfl, lc, it, wt⟩ := rd_gs h2
      rw [cellsGs] at hc
      have c0 := hc 0 (by omega)
      rw [add_add] at c0
      exact ⟨gs, ⟨b, c, c0.trans rfl, it, lc⟩, wt⟩
    obtain ⟨q, hq⟩ := choose_lt each
    have hlen : ((List.range n).map q).length = n := by simp
    have at' : ∀ j (hj : j < n), ((List.range n).map q)[j]'(by rw [hlen]; exact hj) = q j := fun j hj => by rw [List.getElem_map, List.getElem_range]
    refine ⟨some a, cap, (List.range n).map q, by rw [hlen]; exact hcs, by rw [hlen]; exact hl, ?_, fun hw => ?_⟩
    · rcases Nat.eq_zero_or_pos n with rfl | hpos
      · exact .inl (by simp)
      · obtain ⟨⟨_, _, g0, _⟩, _⟩ := hq 0 hpos
        obtain ⟨b, off, spot⟩ := a
        have hspot : spot = none := by simpa [Addr.add] using World.cell?_spot g0
        subst hspot
        refine .inr ⟨b, off, rfl, fun j hj => ?_, ?_⟩
        · rw [hlen] at hj
          rw [at' j hj]
          obtain ⟨⟨b1, c1, g1, g4, g5⟩, _⟩ := hq j hj
          rw [add_plain, Nat.mul_one] at g1
          exact ⟨b1, c1, g1, g4, g5⟩
        · rw [add_plain] at g0
          rcases Nat.lt_or_ge b w.heap.size with hlt | hge
          · exact hlt
          · unfold World.cell? at g0; simp [Array.getElem?_eq_none hge] at g0
    · rw [hx] at hw
      have el : ∀ i ∈ List.range n, _ := fun i hi => (hq i (List.mem_range.1 hi)).2 (wt_elem hw Tryd.underlying31 (List.mem_map_of_mem hi))
      refine ⟨?_, fun gs hg => ?_, fun gs hg => ?_⟩
      · have h1 := wt_len hw Tryd.underlying31
        rw [(by kernel_rfl : Tryd.prog.bytesOf 61 = 24)] at h1
        have h2 := reach_le
        simp at h1 ⊢
        omega
      · obtain ⟨i, hi, rfl⟩ := List.mem_map.1 hg
        exact (el i hi).1
      · obtain ⟨i, hi, rfl⟩ := List.mem_map.1 hg
        exact (el i hi).2
theorem rd_pat (h : DataW.trod enc Tryd.prog w base sp held fuel 33 cs = some x) :
    ∃ s c, ∃ p : List (List Gl), cs = [.slice s p.length c] ∧ p.length ≤ c ∧ IsPt w s p ∧ (Wt Tryd.prog 33 x.1 → PtW p) := by
  obtain ⟨xs, n, _, hx, hl, hxl, hf⟩ := DataW.trod_struct Tryd.underlying33 h
  rw [cellsPat] at hl
  have hxl : xs.length = 1 := by simpa using hxl
  obtain ⟨v0, rfl⟩ := listOf1 hl
  obtain ⟨y0, rfl⟩ := listOf1 hxl
  have g0 := hf 0 _ rfl
  simp [cellsNs] at g0
  obtain ⟨s, c, p, e, lc, ip, wp⟩ := rd_ns g0
  refine ⟨s, c, p, e, lc, ip, fun hw => ?_⟩
  subst hx
  exact wp (wt_part (j := 0) hw Tryd.underlying33 rfl (by simp))
end
end Go.Proofs.YteahbdhhcfoiiaaDoor
