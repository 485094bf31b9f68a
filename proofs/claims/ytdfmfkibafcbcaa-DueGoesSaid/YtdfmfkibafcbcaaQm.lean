/- due: a queue in memory. -/
import Derived.Test.YtdfmfkibafcbcaaHq
import Derived.Test.YtdfmfkibafcbcaaMpg
namespace Go.Proofs.Ytdfmfkibafcbcaa
set_option linter.unusedVariables false
set_option linter.unusedSimpArgs false
open Go.RowKit W Go.Maps
/-- A block known whole, which may be written. -/
def Bw (w : World) (b : Nat) (t : TypeId) (cs : Array Value) : Prop := w.heap[b]? = some (.cells cs t (0, 0))
theorem Bw.lt {w : World} {b : Nat} {t : TypeId} {cs : Array Value} (h : Bw w b t cs) : b < w.heap.size := blk_lt h
theorem Bw.cell {w : World} {b : Nat} {t : TypeId} {cs : Array Value} (h : Bw w b t cs) (i : Nat) (v : Value) (hv : cs[i]? = some v) : w.cell? ⟨b, i, none⟩ = some v := by
  unfold Bw at h; simp [World.cell?, h]; simpa using hv
theorem Bw.frz {w : World} {b : Nat} {t : TypeId} {cs : Array Value} (h : Bw w b t cs) (i : Nat) : w.frozen? ⟨b, i, none⟩ = false := by
  unfold Bw at h; simp [World.frozen?, h]
theorem Bw.chg {S : Nat → Prop} {w w' : World} {b : Nat} {t : TypeId} {cs : Array Value} (h : Bw w b t cs) (c : Chg S w w') (n : ¬ S b) : Bw w' b t cs := (c.block b h.lt n).trans h
theorem Bw.set {w : World} {b : Nat} {t : TypeId} {cs : Array Value} (h : Bw w b t cs) (i : Nat) (u : Value) : Bw (w.setCell ⟨b, i, none⟩ u) b t (cs.setIfInBounds i u) := by
  unfold Bw at *; simp [World.setCell, Array.getElem?_modify, h]
theorem Bw.set_ne {w : World} {b g : Nat} {t : TypeId} {cs : Array Value} (h : Bw w b t cs) (ne : b ≠ g) (i : Nat) (u : Value) : Bw (w.setCell ⟨g, i, none⟩ u) b t cs := (Below.heap_setCell w ⟨g, i, none⟩ u b ne).trans h
theorem Bw.new (w : World) (t : TypeId) (cs : Array Value) : Bw (w.alloc (.cells cs t)) w.heap.size t cs := by
  unfold Bw; show (w.heap.push _)[w.heap.size]? = _; simp
theorem Bw.later {w w' : World} {b : Nat} {t : TypeId} {cs : Array Value} (h : Bw w b t cs) (k : Below w.heap.size w w') : Bw w' b t cs := (k.block b h.lt).trans h
theorem Bw.ne {w : World} {a b : Nat} {s t : TypeId} {cs ds : Array Value} (h : Bw w a s cs) (k : Bw w b t ds) (ne : s ≠ t) : a ≠ b := by
  rintro rfl
  unfold Bw at *
  rw [h] at k
  injection k with k
  injection k with _ k
  exact ne k
theorem Bw.ne_row {w : World} {b base e sz n : Nat} {t : TypeId} {cs : Array Value} {v : Value} {xs : List Value} (h : Bw w b t cs) (o : w.ownsRow base e sz v n xs) (ne : e ≠ t) : v.ownBlock ≠ some b := fun q => own_ne_blk o h ne q rfl
theorem Bw.ne_map {α : Type} {E : ElR α} {w : World} {b mb n : Nat} {t : TypeId} {cs : Array Value} {M : ByteArray → Option α} (h : Bw w b t cs) (m : MapG E w mb n M) : b ≠ mb := by
  rintro rfl
  obtain ⟨es, c, hb⟩ := m.block
  unfold Bw at h
  rw [hb] at h
  cases h
theorem row_ne_map {α : Type} {E : ElR α} {w : World} {mb n m base e sz : Nat} {v : Value} {xs : List Value} {M : ByteArray → Option α} (o : w.ownsRow base e sz v m xs) (k : MapG E w mb n M) : v.ownBlock ≠ some mb := by
  intro q
  obtain ⟨_, cs, h⟩ := own_blk o q
  obtain ⟨es, c, hb⟩ := k.block
  rw [hb] at h
  cases h
/-! ### a list of entries as cells -/
def dueC (e : En) : List Value := [.string e.1, .int .i64 e.2]
def dues : List En → List Value
  | [] => []
  | e :: l => .string e.1 :: .int .i64 e.2 :: dues l
theorem dues_len : ∀ l : List En, (dues l).length = l.length * 2
  | [] => rfl
  | e :: l => by simp [dues, dues_len l]; omega
theorem dues_key : ∀ {l : List En} {i : Nat} (h : i < l.length), (dues l)[i * 2]? = some (.string l[i].1)
  | e :: l, 0, _ => rfl
  | e :: l, i + 1, h => by
    rw [show (i + 1) * 2 = i * 2 + 1 + 1 from by omega]
    simp only [dues, List.getElem?_cons_succ, List.getElem_cons_succ]
    exact dues_key (by simpa using h)
theorem dues_at : ∀ {l : List En} {i : Nat} (h : i < l.length), (dues l)[i * 2 + 1]? = some (.int .i64 l[i].2)
  | e :: l, 0, _ => rfl
  | e :: l, i + 1, h => by
    rw [show (i + 1) * 2 + 1 = (i * 2 + 1) + 1 + 1 from by omega]
    simp only [dues, List.getElem?_cons_succ, List.getElem_cons_succ]
    exact dues_at (by simpa using h)
theorem dues_app : ∀ (l m : List En), dues (l ++ m) = dues l ++ dues m
  | [], m => rfl
  | e :: l, m => by simp [dues, dues_app l m]
theorem dues_set : ∀ (l : List En) (i : Nat) (e : En), dues (l.set i e) = ((dues l).set (i * 2) (.string e.1)).set (i * 2 + 1) (.int .i64 e.2)
  | [], i, e => by simp [dues]
  | x :: l, 0, e => by simp [dues]
  | x :: l, i + 1, e => by
    rw [show (i + 1) * 2 = i * 2 + 1 + 1 from by omega, show i * 2 + 1 + 1 + 1 = (i * 2 + 1) + 1 + 1 from by omega]
    simp only [List.set_cons_succ, dues]
    rw [dues_set l i e]
theorem dues_take : ∀ (l : List En) (k : Nat), dues (l.take k) = (dues l).take (k * 2)
  | [], k => by simp [dues]
  | e :: l, 0 => by simp [dues]
  | e :: l, k + 1 => by
    rw [show (k + 1) * 2 = k * 2 + 1 + 1 from by omega]
    simp [dues, dues_take l k]
theorem dues_one (l : List En) : ∀ u ∈ dues l, u.oneCell' = true := by
  induction l with
  | nil => intro u h; cases h
  | cons e l ih =>
    intro u h
    simp only [dues, List.mem_cons] at h
    rcases h with rfl | rfl | h
    · rfl
    · rfl
    · exact ih u h
/-! ### the map of places -/
def intR : Value → Option (DataW Unit × List MemPlace)
  | .int .i64 x => some (.lit (.int .i64 x), [])
  | _ => none
def elI : ElR Int where
  R := intR
  enc x := .int .i64 x
  dat x := .lit (.int .i64 x)
  ok x := rfl
  inv v a ps h := by
    unfold intR at h
    split at h
    · injection h with h
      injection h with h _
      injection h with h
      injection h with _ h
      rw [h]
    · cases h
theorem elI_enc (x : Int) : elI.enc x = .int .i64 x := rfl
abbrev idxI (l : List En) : ByteArray → Option Int := fun key => (idxK l key).map Int.ofNat
/-! ### the queue -/
/-- What the queue's list and map hold. -/
structure KM (B : Nat) (w : World) (kb mb : Nat) (v : Value) (l : List En) (m : Nat) (M : ByteArray → Option Int) : Prop where
  k : Bw w kb 55 #[v, .map (some mb)]
  row : w.ownsRow B 43 2 v l.length (dues l)
  map : MapG elI w mb m M
  bk : B ≤ kb
  bm : B ≤ mb
  sz : ∀ e ∈ l, e.1.size ≤ maxLen
/-- The blocks that are written. -/
abbrev kS3 (kb mb : Nat) (v : Value) : Nat → Prop := fun k => k = kb ∨ k = mb ∨ v.ownBlock = some k
theorem KM.chg {B : Nat} {S : Nat → Prop} {w w' : World} {kb mb m : Nat} {v : Value} {l : List En} {M : ByteArray → Option Int} (h : KM B w kb mb v l m M) (c : Chg S w w') (n : ∀ k, kS3 kb mb v k → ¬ S k) : KM B w' kb mb v l m M :=
  ⟨h.k.chg c (n _ (.inl rfl)), chg_row h.row c (fun k e => n k (.inr (.inr e))), h.map.chg c (n _ (.inr (.inl rfl))), h.bk, h.bm, h.sz⟩
theorem KM.later {B : Nat} {w w' : World} {kb mb m : Nat} {v : Value} {l : List En} {M : ByteArray → Option Int} (h : KM B w kb mb v l m M) (c : Below w.heap.size w w') : KM B w' kb mb v l m M := h.chg (S := fun _ => False) (Chg.of_below c) (fun _ _ q => q)
theorem KM.old {B : Nat} {w : World} {kb mb m : Nat} {v : Value} {l : List En} {M : ByteArray → Option Int} (h : KM B w kb mb v l m M) : ∀ k, kS3 kb mb v k → B ≤ k ∧ k < w.heap.size := by
  rintro k (rfl | rfl | e)
  · exact ⟨h.bk, h.k.lt⟩
  · exact ⟨h.bm, h.map.lt⟩
  · exact own_old h.row e
theorem KM.nkm {B : Nat} {w : World} {kb mb m : Nat} {v : Value} {l : List En} {M : ByteArray → Option Int} (h : KM B w kb mb v l m M) : kb ≠ mb := h.k.ne_map h.map
theorem KM.nrk {B : Nat} {w : World} {kb mb m : Nat} {v : Value} {l : List En} {M : ByteArray → Option Int} (h : KM B w kb mb v l m M) : v.ownBlock ≠ some kb := h.k.ne_row h.row (by decide)
theorem KM.nrm {B : Nat} {w : World} {kb mb m : Nat} {v : Value} {l : List En} {M : ByteArray → Option Int} (h : KM B w kb mb v l m M) : v.ownBlock ≠ some mb := row_ne_map h.row h.map
/-- All of it fits together. -/
structure KQ (B : Nat) (w : World) (kb mb : Nat) (v : Value) (l : List En) : Prop where
  km : KM B w kb mb v l l.length (idxI l)
  keys : Keys l
  len : l.length ≤ 65536
theorem KQ.chg {B : Nat} {S : Nat → Prop} {w w' : World} {kb mb : Nat} {v : Value} {l : List En} (h : KQ B w kb mb v l) (c : Chg S w w') (n : ∀ k, kS3 kb mb v k → ¬ S k) : KQ B w' kb mb v l := ⟨h.km.chg c n, h.keys, h.len⟩
theorem KQ.later {B : Nat} {w w' : World} {kb mb : Nat} {v : Value} {l : List En} (h : KQ B w kb mb v l) (c : Below w.heap.size w w') : KQ B w' kb mb v l := ⟨h.km.later c, h.keys, h.len⟩
/-- The places behind a swap. -/
theorem idx_swap {l : List En} (k : Keys l) {i j : Nat} (hi : i < l.length) (hj : j < l.length) :
    updM (updM (idxI l) l[j].1 (some (i : Int))) l[i].1 (some (j : Int)) = idxI (swapL l i j) := by
  have kp := k.perm (swapL_perm hi hj).symm
  have sl := swapL_len l i j
  have e1 : ∀ (h : i < (swapL l i j).length), (swapL l i j)[i] = if i = j then l[i] else l[j] := by
    intro h
    simp only [swapL_eq hi hj]
    by_cases q : j = i
    · subst q; simp
    · rw [List.getElem_set_ne q, List.getElem_set_self, if_neg (Ne.symm q)]
  have e2 : ∀ (h : j < (swapL l i j).length), (swapL l i j)[j] = l[i] := by
    intro h
    simp only [swapL_eq hi hj]
    rw [List.getElem_set_self]
  funext key
  unfold updM
  show _ = (idxK (swapL l i j) key).map Int.ofNat
  by_cases q1 : key = l[i].1
  · rw [if_pos q1]
    have : idxK (swapL l i j) key = some j := (idxK_some kp).2 ⟨by omega, by rw [e2, q1]⟩
    rw [this]; rfl
  · rw [if_neg q1]
    by_cases q2 : key = l[j].1
    · rw [if_pos q2]
      have ne : i ≠ j := fun e => q1 (by subst e; exact q2)
      have : idxK (swapL l i j) key = some i := (idxK_some kp).2 ⟨by omega, by rw [e1, if_neg ne, q2]⟩
      rw [this]; rfl
    · rw [if_neg q2]
      show (idxK l key).map Int.ofNat = _
      congr 1
      cases e : idxK l key with
      | none =>
        rw [idxK_none] at e
        rw [hasK_perm (swapL_perm hi hj).symm key] at e
        exact (idxK_none.2 e).symm
      | some m =>
        obtain ⟨hm, hme⟩ := (idxK_some k).1 e
        have mi : m ≠ i := by rintro rfl; exact q1 hme.symm
        have mj : m ≠ j := by rintro rfl; exact q2 hme.symm
        refine ((idxK_some kp).2 ⟨by omega, ?_⟩).symm
        simp only [swapL_eq hi hj]
        rw [List.getElem_set_ne (Ne.symm mj), List.getElem_set_ne (Ne.symm mi)]
        exact hme
theorem idx_push {l : List En} (x : En) (hk : hasK l x.1 = false) (k : Keys l) : updM (idxI l) x.1 (some (l.length : Int)) = idxI (l ++ [x]) := by
  have kp : Keys (l ++ [x]) := by
    refine List.pairwise_append.2 ⟨k, by simp, fun a ha b hb e => ?_⟩
    rw [List.mem_singleton] at hb
    subst hb
    rw [hasK_iff.2 ⟨a, ha, e⟩] at hk; cases hk
  funext key
  unfold updM
  show _ = (idxK (l ++ [x]) key).map Int.ofNat
  by_cases q : key = x.1
  · rw [if_pos q]
    have : idxK (l ++ [x]) key = some l.length := (idxK_some kp).2 ⟨by simp, by simp [q]⟩
    rw [this]; rfl
  · rw [if_neg q]
    show (idxK l key).map Int.ofNat = _
    congr 1
    cases e : idxK l key with
    | none =>
      rw [idxK_none] at e
      refine (idxK_none.2 ?_).symm
      simp [hasK, List.any_append] at e ⊢
      exact ⟨e, fun h => q h.symm⟩
    | some m =>
      obtain ⟨hm, hme⟩ := (idxK_some k).1 e
      refine ((idxK_some kp).2 ⟨by simp; omega, ?_⟩).symm
      rw [List.getElem_append_left hm]
      exact hme
theorem Keys.push {l : List En} (k : Keys l) (x : En) (hk : hasK l x.1 = false) : Keys (l ++ [x]) := by
  refine List.pairwise_append.2 ⟨k, by simp, fun a ha b hb e => ?_⟩
  rw [List.mem_singleton] at hb
  subst hb
  rw [hasK_iff.2 ⟨a, ha, e⟩] at hk; cases hk
theorem idx_pop {l : List En} (k : Keys l) {n : Nat} (hn : l.length = n + 1) : updM (idxI l) (l[n]'(by omega)).1 none = idxI (l.take n) := by
  have kp : Keys (l.take n) := k.take
  have lt : (l.take n).length = n := by rw [List.length_take]; omega
  funext key
  unfold updM
  show _ = (idxK (l.take n) key).map Int.ofNat
  by_cases q : key = (l[n]'(by omega)).1
  · rw [if_pos q]
    have : idxK (l.take n) key = none := by
      cases e : idxK (l.take n) key with
      | none => rfl
      | some m =>
        obtain ⟨hm, hme⟩ := (idxK_some kp).1 e
        rw [List.getElem_take] at hme
        have := k.eq (by omega) (by omega) (hme.trans q)
        omega
    rw [this]; rfl
  · rw [if_neg q]
    show (idxK l key).map Int.ofNat = _
    congr 1
    cases e : idxK l key with
    | none =>
      rw [idxK_none] at e
      refine (idxK_none.2 ?_).symm
      cases h : hasK (l.take n) key
      · rfl
      · obtain ⟨x, hx, hxe⟩ := hasK_iff.1 h
        rw [hasK_iff.2 ⟨x, List.mem_of_mem_take hx, hxe⟩] at e; cases e
    | some m =>
      obtain ⟨hm, hme⟩ := (idxK_some k).1 e
      have : m ≠ n := by rintro rfl; exact q hme.symm
      refine ((idxK_some kp).2 ⟨by omega, ?_⟩).symm
      rw [List.getElem_take]
      exact hme
end Go.Proofs.Ytdfmfkibafcbcaa
