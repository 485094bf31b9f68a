/- Slices of limbs as they lie in memory. -/
import Derived.Test.YthcgkpmlfbjagaaWbase
import Derived.Test.YthcgkpmlfbjagaaLimbb
import Derived.Laws.OwnMore
namespace Go.Proofs.Ythcgkpmlfbjagaa
set_option linter.unusedVariables false
open Go.RowKit W Lb
theorem shape_new (w : World) (c : Array Value) (t : TypeId) (f : Nat × Nat) : (w.alloc (.cells c t f)).shape? w.heap.size = some (t, c.size) := by
  have : (w.alloc (.cells c t f)).heap[w.heap.size]? = some (.cells c t f) := by show (w.heap.push _)[w.heap.size]? = _; simp
  unfold World.shape?; rw [this]
theorem shape_top (w : World) (c : Array Value) (t : TypeId) (f : Nat × Nat) {n : Nat} (h : n = w.heap.size) : (w.alloc (.cells c t f)).shape? n = some (t, c.size) := by subst h; exact shape_new w c t f
theorem shape_old (w : World) (o : Obj) {b : Nat} (h : b < w.heap.size) : (w.alloc o).shape? b = w.shape? b := by
  unfold World.shape?; rw [Below.heap_alloc w o b h]
theorem shape_set (w : World) (a : Addr) (v : Value) (b : Nat) : (w.setCell a v).shape? b = w.shape? b := by
  unfold World.shape? World.setCell
  simp only [Array.getElem?_modify]
  by_cases h : a.block = b
  · rw [if_pos h]
    rcases w.heap[b]? with _ | o
    · rfl
    · cases o <;> simp only [Option.map_some]
      split <;> simp
  · rw [if_neg h]
theorem shape_later {w w' : World} {B b : Nat} (k : Below B w w') (h : b < B) : w'.shape? b = w.shape? b := by
  unfold World.shape?; rw [k.block b h]
theorem heap_of_shape {w : World} {b : Nat} {t : TypeId} {m : Nat} (h : w.shape? b = some (t, m)) : b < w.heap.size := by
  unfold World.shape? at h
  apply Decidable.byContradiction; intro g
  rw [Array.getElem?_eq_none (by omega)] at h; simp at h
/-- The slice v reads as the limbs l. -/
def Limbs (w : World) (v : Value) (l : List Int) : Prop :=
  (∃ p cap, l = [] ∧ v = .slice p 0 cap) ∨ ∃ b o cap, v = .slice (some ⟨b, o, none⟩) l.length cap ∧ l.length ≤ cap ∧ b < w.heap.size ∧ (∃ m, w.shape? b = some (88, m)) ∧ ∀ k, k < l.length → w.cell? ⟨b, o + k, none⟩ = some (.int .u32 (l.getD k 0))
theorem Limbs.form {w : World} {v : Value} {l : List Int} (h : Limbs w v l) : ∃ p cap, v = .slice p l.length cap := by
  rcases h with ⟨p, cap, rfl, rfl⟩ | ⟨b, o, cap, rfl, _⟩
  · exact ⟨_, _, rfl⟩
  · exact ⟨_, _, rfl⟩
theorem Limbs.later {w w' : World} {v : Value} {l : List Int} (h : Limbs w v l) (k : Below w.heap.size w w') : Limbs w' v l := by
  rcases h with h | ⟨b, o, cap, rfl, hc, hb, ⟨m, hs⟩, h⟩
  · exact .inl h
  · exact .inr ⟨b, o, cap, rfl, hc, Nat.lt_of_lt_of_le hb k.size, ⟨m, (shape_later k hb).trans hs⟩, fun j hj => (k.cell (p := ⟨b, o + j, none⟩) hb).trans (h j hj)⟩
theorem Limbs.nil (w : World) : Limbs w (.slice none 0 0) [] := .inl ⟨_, _, rfl, rfl⟩
theorem Limbs.take {w : World} {p : Option Addr} {n cap : Nat} {l : List Int} (h : Limbs w (.slice p n cap) l) (m : Nat) (hm : m ≤ n) : Limbs w (.slice p m cap) (l.take m) := by
  rcases h with ⟨q, c, rfl, e⟩ | ⟨b, o, c, e, hc, hb, hs, h⟩
  · simp only [Value.slice.injEq] at e
    obtain ⟨rfl, rfl, rfl⟩ := e
    obtain rfl : m = 0 := by omega
    exact .inl ⟨_, _, by simp, rfl⟩
  · simp only [Value.slice.injEq] at e
    obtain ⟨rfl, rfl, rfl⟩ := e
    have hl : (l.take m).length = m := List.length_take_of_le hm
    refine .inr ⟨b, o, cap, by rw [hl], by omega, hb, hs, fun k hk => ?_⟩
    rw [hl] at hk
    rw [h k (by omega)]
    congr 2
    simp [List.getD_eq_getElem?_getD, List.getElem?_take_of_lt hk]
theorem Limbs.of_own {w : World} {base n : Nat} {v : Value} {l : List Int} (h : w.ownsRow base 88 1 v n (l.map (Value.int .u32))) : Limbs w v l ∧ n = l.length := by
  have hn : n = l.length := by have := h.1; simpa using this.symm
  refine ⟨?_, hn⟩
  subst hn
  rcases h.2 with ⟨rfl, h0⟩ | ⟨g, cap, cur, rfl, hb, hg, hc, hm, hs, ht⟩
  · exact .inl ⟨none, 0, by simpa using h0, rfl⟩
  · refine .inr ⟨g, 0, cap, rfl, hc, (h.lt g rfl).2, ⟨cur.size, by unfold World.shape?; rw [hg]⟩, fun k hk => ?_⟩
    rw [Nat.zero_add, h.cellAt k (by omega)]
    simp [List.getElem?_eq_getElem hk, List.getD_eq_getElem?_getD]
theorem Limbs.set {w : World} {v : Value} {l : List Int} (h : Limbs w v l) {r i : Nat} {t : TypeId} {m : Nat} (hr : w.shape? r = some (t, m)) (ht : t ≠ 88) (x : Value) : Limbs (w.setCell ⟨r, i, none⟩ x) v l := by
  rcases h with h | ⟨b, o, cap, rfl, hc, hb, ⟨k, hs⟩, h⟩
  · exact .inl h
  · have ne : b ≠ r := by rintro rfl; rw [hs] at hr; simp only [Option.some.injEq, Prod.mk.injEq] at hr; exact ht hr.1.symm
    refine .inr ⟨b, o, cap, rfl, hc, by simpa [World.setCell] using hb, ⟨k, by rw [shape_set]; exact hs⟩, fun j hj => ?_⟩
    rw [← h j hj]
    exact World.cell?_of_block (w := w) (Below.heap_setCell w _ x b ne)
theorem info_u32 : (Try.prog.info? 88).map (fun i => (i.zero, i.size, i.bytes)) = some (some (.int .u32 0), 1, 4) := by kernel_rfl
theorem one_u32 {x : Int} : ∀ u ∈ [Value.int .u32 x], u.oneCell' = true := by intro u hu; rw [List.mem_singleton] at hu; subst hu; rfl
/-- A contract of a function that only computes. -/
abbrev Same (f : Nat) (args : Array Value) (w : World) (r : Value) : Prop := Calls Try.prog f args w fun e w' => e = .returned r ∧ w = w'
theorem still {f : FuncId} {args : Array Value} {w : World} {n : Nat} {v : Value} (h : Same f args (w.drewN n) v) : Calls Try.prog f args (w.drewN n) fun e u => e = .returned v ∧ ∃ m, u = w.drewN m :=
  h.mono fun e u q => ⟨q.1, ⟨n, q.2.symm⟩⟩
theorem limb_in (b o n cap i : Nat) (x : Int) (w : World) (hn : n ≤ 9223372036854775807) (h : i < n) (hc : w.cell? ⟨b, o + i, none⟩ = some (.int .u32 x)) :
    Same 76 #[.slice (some ⟨b, o, none⟩) n cap, .int .i64 i] w (.int .u32 x) := by
  go_enter Try.func76, Try.ntmps76
  go_wp2
  go_returns
  exact ⟨rfl, rfl⟩
theorem limb_out (p : Option Addr) (n cap i : Nat) (w : World) (hn : n ≤ i) (hi : i ≤ 9223372036854775807) :
    Same 76 #[.slice p n cap, .int .i64 i] w (.int .u32 0) := by
  go_enter Try.func76, Try.ntmps76
  go_wp2
  go_returns
  exact ⟨rfl, rfl⟩
theorem limb_spec (v : Value) (l : List Int) (i : Nat) (w : World) (H : Limbs w v l) (hl : l.length ≤ 9223372036854775807) (hi : i ≤ 9223372036854775807) :
    Same 76 #[v, .int .i64 i] w (.int .u32 (l.getD i 0)) := by
  by_cases h : i < l.length
  · rcases H with ⟨p, cap, rfl, rfl⟩ | ⟨b, o, cap, rfl, hc, hb, hs, hh⟩
    · simp at h
    · exact limb_in b o _ cap i _ w hl h (hh i h)
  · obtain ⟨p, cap, rfl⟩ := H.form
    rw [at_out (by omega)]
    exact limb_out p _ cap i w (by omega) hi
def lenV : Value → Nat | .slice _ n _ => n | _ => 0
theorem top_zero {l : List Int} {m : Nat} (h : l.getD m 0 = 0) : top l (m + 1) = top l m := by simp only [top]; rw [if_pos h]
theorem top_not {l : List Int} {m : Nat} (h : ¬ l.getD m 0 = 0) : top l (m + 1) = m + 1 := by simp only [top]; rw [if_neg h]
set_option maxHeartbeats 1000000 in
theorem trim_some (b o n cap : Nat) (l : List Int) (w : World) (hn : n ≤ 9223372036854775807) (hc : n ≤ cap) (hh : ∀ k, k < n → w.cell? ⟨b, o + k, none⟩ = some (.int .u32 (l.getD k 0))) :
    Same 65 #[.slice (some ⟨b, o, none⟩) n cap] w (.slice (some ⟨b, o, none⟩) (top l n) cap) := by
  have HH : Hid (∀ k, k < n → w.cell? ⟨b, o + k, none⟩ = some (.int .u32 (l.getD k 0))) := hh
  clear hh
  go_enter Try.func65, Try.ntmps65
  go_wp2
  go_loop [0] (fun v => ∃ m : Nat, m ≤ n ∧ v = .slice (some ⟨b, o, none⟩) m cap ∧ Hid (top l n = top l m)) (fun v => lenV v)
  case atStart => exact ⟨n, Nat.le_refl _, rfl, rfl⟩
  case round =>
    obtain ⟨m, hm, rfl, ht⟩ := hrel
    rcases m with _ | m
    · go_wp2
      go_returns
      exact ⟨by rw [ht.out]; rfl, rfl⟩
    · have hx := HH.out m (by omega)
      have h1 : ((m + 1 : Nat) : Int) - 1 = m := by omega
      by_cases hz : l.getD m 0 = 0
      · have HT : Hid (top l n = top l m) := ht.out.trans (top_zero hz)
        rw [hz] at hx
        clear ht hz
        go_wp2
        go_round
        case rel => exact ⟨m, by omega, rfl, HT⟩
        case measure => simp [lenV]
      · have HT : Hid (top l n = m + 1) := ht.out.trans (top_not hz)
        have hz' : (l.getD m 0 == 0) = false := by simpa using hz
        clear ht hz
        generalize l.getD m 0 = x at *
        go_wp2
        go_returns
        exact ⟨by rw [HT.out]; rfl, rfl⟩
theorem trim_none (p : Option Addr) (cap : Nat) (w : World) :
    Same 65 #[.slice p 0 cap] w (.slice p 0 cap) := by
  go_enter Try.func65, Try.ntmps65
  go_wp2
  refine wp_loop_rounds 1 ?_
  rw [rounds_succ]
  go_wp2
  go_returns
  exact ⟨rfl, rfl⟩
/-- trim: the same number without zeros at the top. -/
theorem trim_spec (v : Value) (l : List Int) (w : World) (H : Limbs w v l) (hl : l.length ≤ 9223372036854775807) :
    ∃ v', Same 65 #[v] w v' ∧ Limbs w v' (l.take (top l l.length)) := by
  rcases H with ⟨p, cap, rfl, rfl⟩ | ⟨b, o, cap, rfl, hc, hb, hs, hh⟩
  · exact ⟨_, trim_none p cap w, .inl ⟨p, cap, by simp, rfl⟩⟩
  · exact ⟨_, trim_some b o _ cap l w hl hc hh, Limbs.take (.inr ⟨b, o, cap, rfl, hc, hb, hs, hh⟩) _ (top_le _ _)⟩
theorem trim_at (p : Option Addr) (cap : Nat) (l : List Int) (w : World) (H : Limbs w (.slice p l.length cap) l) (hl : l.length ≤ 9223372036854775807) :
    Same 65 #[.slice p l.length cap] w (.slice p (top l l.length) cap) := by
  rcases H with ⟨q, c, rfl, e⟩ | ⟨b, o, c, e, hc, hb, hs, hh⟩
  · simp only [Value.slice.injEq] at e
    obtain ⟨rfl, _, rfl⟩ := e
    exact trim_none _ _ w
  · simp only [Value.slice.injEq] at e
    obtain ⟨rfl, _, rfl⟩ := e
    exact trim_some b o _ cap l w hl hc hh
/-- The answer's place lies from block B on. -/
def Fresh (B : Nat) (v : Value) : Prop := ∀ a n c, v = .slice (some a) n c → B ≤ a.block
theorem trim_own {w : World} {B n : Nat} {v : Value} {l : List Int} (h : w.ownsRow B 88 1 v n (l.map (Value.int .u32))) (hl : l.length ≤ 9223372036854775807) :
    ∃ v', Same 65 #[v] w v' ∧ Limbs w v' (l.take (top l l.length)) ∧ Fresh B v' := by
  obtain ⟨L, hn⟩ := Limbs.of_own h
  subst hn
  rcases h.2 with ⟨rfl, h0⟩ | ⟨g, cap, cur, rfl, hb, hg, hc, hm, hs, ht⟩
  · have e : l = [] := List.eq_nil_of_length_eq_zero h0
    subst e
    exact ⟨_, trim_none _ _ w, .inl ⟨_, _, by simp, rfl⟩, fun a n c e => by simp at e⟩
  · refine ⟨_, trim_at _ _ l w L hl, L.take _ (top_le _ _), fun a n c e => ?_⟩
    simp only [Value.slice.injEq, Option.some.injEq] at e
    obtain ⟨rfl, _⟩ := e
    exact hb
end Go.Proofs.Ythcgkpmlfbjagaa
