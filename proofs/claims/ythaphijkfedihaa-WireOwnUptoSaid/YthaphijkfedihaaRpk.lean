/- The reference's packers: Bytes, Flush, Add. (gen_rpk.py) -/
import Derived.Test.YthaphijkfedihaaRfit
namespace Go.Proofs.Ythaphijkfedihaa
set_option linter.unusedVariables false
set_option linter.unusedSimpArgs false
open Go.RowKit W
/-- Texts with line ends between them. -/
def joinL (ps : List (List UInt8)) : List UInt8 := (ps.foldl (fun (a : Option (List UInt8)) p => some (match a with | none => p | some a => a ++ 10 :: p)) none).getD []
theorem joinL_snoc (ps : List (List UInt8)) (p : List UInt8) : joinL (ps ++ [p]) = if ps = [] then p else joinL ps ++ 10 :: p := by
  unfold joinL
  rw [List.foldl_append]
  cases h : ps.reverse with
  | nil =>
    have : ps = [] := by simpa using h
    subst this; rfl
  | cons x r =>
    have : ps = r.reverse ++ [x] := by have := congrArg List.reverse h; simpa using this
    subst this
    rw [if_neg (by simp), List.foldl_append]
    rfl
abbrev TR : List TypeId := [29, 9]
structure RkV (B : Nat) (w : World) (g : Nat) (size : Int) (v : Value) (ps : List ByteArray) : Prop where
  blk : w.heap[g]? = some (.cells #[.int .i64 size, v] 29 (0, 0))
  own : w.ownsRow B 9 1 v ps.length (ps.map Value.string)
  le : B ≤ g
def Rk (B : Nat) (w : World) (g : Nat) (size : Int) (ps : List ByteArray) : Prop := ∃ v, RkV B w g size v ps
theorem RkV.c0 {B g : Nat} {w : World} {size : Int} {v : Value} {l : List ByteArray} (h : RkV B w g size v l) : w.cell? ⟨g, 0, none⟩ = some (.int .i64 size) := by simp [World.cell?, h.blk]
theorem RkV.c1 {B g : Nat} {w : World} {size : Int} {v : Value} {l : List ByteArray} (h : RkV B w g size v l) : w.cell? ⟨g, 1, none⟩ = some v := by simp [World.cell?, h.blk]
theorem RkV.fr {B g : Nat} {w : World} {size : Int} {v : Value} {l : List ByteArray} (h : RkV B w g size v l) (i : Nat) : w.frozen? ⟨g, i, none⟩ = false := by simp [World.frozen?, h.blk]
theorem RkV.lt {B g : Nat} {w : World} {size : Int} {v : Value} {l : List ByteArray} (h : RkV B w g size v l) : g < w.heap.size := blk_lt h.blk
theorem RkV.upd {B g : Nat} {T : List TypeId} {w w' : World} {size : Int} {v : Value} {l : List ByteArray} (h : RkV B w g size v l) (u : Upd B T w w') (h1 : 29 ∉ T) (h2 : 9 ∉ T) : RkV B w' g size v l :=
  ⟨u.blk h.blk h1, u.row h.own h2, h.le⟩
theorem own_ty {w w' : World} {base n e : Nat} {v : Value} {xs : List Value} (h : w.ownsRow base e 1 v n xs) (f : ∀ k, v.ownBlock = some k → w'.heap[k]? = w.heap[k]?) : w'.ownsRow base e 1 v n xs := by
  refine ⟨h.1, h.2.imp id ?_⟩
  rintro ⟨g, cap, cur, rfl, hb, hh, r⟩
  exact ⟨g, cap, cur, rfl, hb, (f g rfl).trans hh, r⟩
theorem RkV.store {B g : Nat} {w w1 : World} {size : Int} {v v' : Value} {l l' : List ByteArray} (h : RkV B w g size v l) (u : Upd B [9] w w1) (ho : w1.ownsRow B 9 1 v' l'.length (l'.map Value.string)) :
    RkV B (w1.setCell ⟨g, 1, none⟩ v') g size v' l' ∧ Upd B TR w (w1.setCell ⟨g, 1, none⟩ v') := by
  have b1 := u.blk h.blk (by decide)
  have ne : ∀ k, v'.ownBlock = some k → k ≠ g := by
    rintro k hk rfl
    obtain ⟨_, cs, hc⟩ := own_blk ho hk
    rw [b1] at hc
    injection hc with hc
    injection hc with _ hc
    exact absurd hc (by decide)
  refine ⟨⟨?_, ?_, h.le⟩, (u.more (Nat.le_refl _) (by intro t ht; simp at ht; subst ht; simp [TR])).set b1 h.le (by simp [TR]) v'⟩
  · simp [World.setCell, Array.getElem?_modify, b1]
  · exact own_ty ho (fun k hk => Below.heap_setCell w1 ⟨g, 1, none⟩ v' k (ne k hk))
theorem RkV.after {B g : Nat} {w w1 : World} {size : Int} {v : Value} {l : List ByteArray} (h : RkV B w g size v l) (u : Upd B [9] w w1) :
    w1.cell? ⟨g, 1, none⟩ = some v ∧ w1.frozen? ⟨g, 1, none⟩ = false ∧ w1.cell? ⟨g, 0, none⟩ = some (.int .i64 size) ∧ g < w1.heap.size := by
  have b := u.blk h.blk (by decide)
  exact ⟨by simp [World.cell?, b], by simp [World.frozen?, b], by simp [World.cell?, b], blk_lt b⟩
theorem rk_grown {B g : Nat} {w w1 : World} {size : Int} {v : Value} {l : List ByteArray} (h : RkV B w g size v l) (hg : w.grownBy w1 v.ownBlock) : Upd B [9] w w1 :=
  (Upd.refl B [9] w).grown hg (fun k hk => by
    obtain ⟨h1, cs, h2⟩ := own_blk h.own hk
    exact ⟨h1, cs, _, _, h2, by simp⟩)
theorem RkV.alloc {B g : Nat} {w : World} {size : Int} {v : Value} {l : List ByteArray} (h : RkV B w g size v l) (o : Obj) : RkV B (w.alloc o) g size v l :=
  ⟨(Below.heap_alloc w o g h.lt).trans h.blk, h.own.alloc o, h.le⟩
/-- The first k texts joined. -/
def joinK (ps : List ByteArray) (k : Nat) : List UInt8 := joinL ((ps.take k).map lst)
theorem joinK_succ (ps : List ByteArray) (k : Nat) (h : k < ps.length) : joinK ps (k + 1) = if k = 0 then lst ps[k] else joinK ps k ++ 10 :: lst ps[k] := by
  unfold joinK
  rw [List.take_succ_eq_append_getElem h, List.map_append, List.map_singleton, joinL_snoc]
  by_cases z : k = 0
  · subst z; rw [if_pos rfl, if_pos (by simp)]
  · rw [if_neg z, if_neg (by intro e; rw [List.map_eq_nil_iff, List.take_eq_nil_iff] at e; rcases e with e | e <;> simp_all)]
theorem joinK_zero (ps : List ByteArray) : joinK ps 0 = [] := rfl
theorem joinK_le (ps : List ByteArray) : ∀ d k, k + d = ps.length → (joinK ps k).length ≤ (joinK ps ps.length).length
  | 0, k, h => by rw [show k = ps.length by omega]; exact Nat.le_refl _
  | d + 1, k, h => by
    have ih := joinK_le ps d (k + 1) (by omega)
    refine Nat.le_trans ?_ ih
    rw [joinK_succ ps k (by omega)]
    by_cases z : k = 0
    · subst z; rw [joinK_zero]; simp
    · rw [if_neg z, List.length_append]; omega
theorem joinK_all (ps : List ByteArray) : joinK ps ps.length = joinL (ps.map lst) := by unfold joinK; rw [List.take_length]
set_option maxRecDepth 100000 in
set_option maxHeartbeats 4000000 in
theorem rbytes5 (B : Nat) (g : Nat) (size : Int) (ps : List ByteArray) (w : World) (h : Rk B w g size ps) (hl : ps.length ≤ 140737488355328) (hj : (joinL (ps.map lst)).length ≤ 65536) : Calls Try.prog 16 #[.pointer (some ⟨g, 0, none⟩)] w (TextPost (joinL (ps.map lst)) w) := by
  obtain ⟨v, h⟩ := h
  obtain ⟨A, c, rfl, hc, hn⟩ := own_form h.own
  have c1 := h.c1
  have RK := hide h
  have FP : Hid (∀ x : ByteArray, lst x = joinK ps ps.length → TextPost (joinL (ps.map lst)) w (.returned (.string x)) w) := fun x hx => ⟨x, rfl, by rw [hx]; unfold joinK; rw [List.take_length], rfl⟩
  clear h
  go_enter Try.func16, Try.ntmps16
  go_wp2
  go_loop [3, 4] (fun s i => ∃ (k : Nat) (x : ByteArray), k ≤ ps.length ∧ i = .int .i64 k ∧ s = .string x ∧ Hid (lst x = joinK ps k)) (fun _ i => ps.length - (intOf i).toNat)
  case atStart => exact ⟨0, ⟨#[]⟩, by omega, rfl, rfl, by rfl⟩
  case round =>
    obtain ⟨k, x, hk, rfl, rfl, hx⟩ := hrel
    by_cases hlt : k < ps.length
    · obtain ⟨g', hA⟩ : ∃ g', A = some ⟨g', 0, none⟩ := by
        rcases RK.out.own.2 with ⟨e, _⟩ | ⟨g', cap, cur, e, _⟩
        · injection e with e; exact absurd (hn e).1 (by omega)
        · injection e with e; exact ⟨g', e⟩
      subst hA
      have c2 : w.cell? ⟨g', k, none⟩ = some (.string ps[k]) := by
        have := RK.out.own.cells (g := g') rfl k (.string ps[k]) (by simp [hlt])
        rw [Go.WideShapes.add_plain, Nat.zero_add] at this
        exact this
      have ST := hide (joinK_succ ps k hlt)
      have LE := hide (joinK_le ps (ps.length - (k + 1)) (k + 1) (by omega))
      obtain ⟨p, hp⟩ : ∃ p, p = ps[k] := ⟨_, rfl⟩
      rw [← hp] at c2 ST
      clear hp
      rcases Nat.eq_zero_or_pos k with rfl | kp
      · have HX : Hid (lst (x ++ p) = joinK ps (0 + 1)) := by
          show _ = _
          rw [ST.out, if_pos rfl]
          have e : lst x = [] := hx.out
          have e2 : x = ⟨#[]⟩ := lst_inj (e.trans rfl)
          rw [e2]
          simp [lst]
        have zz : x.size = 0 := by
          have e : lst x = [] := hx.out
          rw [← lst_len, e]; rfl
        have zp : p.size ≤ 65536 := by
          have := LE.out
          rw [← HX.out, lst_len, joinK_all] at this
          simp at this; omega
        obtain rfl : x = ⟨#[]⟩ := lst_inj (show lst x = [] from hx.out)
        clear ST hx zz LE
        go_wp2_with fail
        go_round
        case rel => exact ⟨0 + 1, ⟨#[]⟩ ++ p, by omega, by go_num, rfl, HX⟩
        case measure => simp [intOf]; omega
      · have HX : Hid (lst (x ++ ⟨#[10]⟩ ++ p) = joinK ps (k + 1)) := by
          show _ = _
          rw [ST.out, if_neg (by omega), ← hx.out]
          simp [lst]
        have zz : x.size + 1 + p.size ≤ 65536 := by
          have := LE.out
          rw [← HX.out, lst_len, joinK_all] at this
          have e : (x ++ ⟨#[10]⟩ ++ p).size = x.size + 1 + p.size := by simp [ByteArray.size_append]; rfl
          rw [e] at this; omega
        have zx : x.size + 1 ≤ 65536 := by omega
        have kp2 : (0 : Int) < (k : Int) := by omega
        clear ST hx
        go_wp2_with fail
        go_round
        case rel => exact ⟨k + 1, x ++ ⟨#[10]⟩ ++ p, by omega, by go_num, rfl, HX⟩
        case measure => simp [intOf]; omega
    · obtain rfl : k = ps.length := by omega
      go_wp2
      go_returns
      exact FP.out x hx.out
def RFl (B g : Nat) (size : Int) (l : List UInt8) (w : World) (e : Ending) (w' : World) : Prop := ∃ x, e = .returned (.string x) ∧ lst x = l ∧ Rk B w' g size [] ∧ Upd B TR w w'
theorem rflush5 (B : Nat) (g : Nat) (size : Int) (ps : List ByteArray) (w : World) (h : Rk B w g size ps) (hl : ps.length ≤ 140737488355328) (hj : (joinL (ps.map lst)).length ≤ 65536) : Calls Try.prog 12 #[.pointer (some ⟨g, 0, none⟩)] w (RFl B g size (joinL (ps.map lst)) w) := by
  have kb := rbytes5 B g size ps w h hl hj
  obtain ⟨v, h⟩ := h
  have ST := hide (h.store (v' := .slice none 0 0) (l' := []) (Upd.refl _ _ _) ⟨rfl, .inl ⟨rfl, rfl⟩⟩)
  have c1 := h.c1
  have f1 := h.fr 1
  obtain ⟨A, c, rfl, _, _⟩ := own_form h.own
  clear h
  go_enter Try.func12, Try.ntmps12
  go_wp2_with fail
  refine kb.mono ?_
  rintro e w1 ⟨x, rfl, hx, rfl⟩
  have HX := hide hx
  clear hx kb
  go_wp2_with fail
  go_returns
  exact ⟨x, rfl, HX.out, ⟨_, ST.out.1⟩, ST.out.2⟩
end Go.Proofs.Ythaphijkfedihaa
