/- wire: Packer.Add. (gen_padd.py) -/
import Derived.Test.YthaphijkfedihaaPk
import Derived.Deep.QuietTactic
import Derived.BigQuiet
namespace Go.Proofs.Ythaphijkfedihaa
set_option linter.unusedVariables false
set_option linter.unusedSimpArgs false
open Go.RowKit W
/-- May a text be a line of a datagram? -/
def fitL (l : List UInt8) : Bool := !l.isEmpty && decide ((10 : UInt8) ∉ l) && decide (l.getLast? ≠ some 13)
/-- P5.3: what is held behind it, what comes out, the error. -/
def addF (size : Int) (l s : List UInt8) : List UInt8 × List UInt8 × Int :=
  if fitL s = false then (l, [], 51) else if size < s.length then (l, [], 2)
  else if l = [] then (s, [], 0) else if size < (l.length : Int) + 1 + s.length then (s, l, 0) else (l ++ 10 :: s, [], 0)
def AddPost (B g : Nat) (size : Int) (l s : List UInt8) (w : World) (e : Ending) (w' : World) : Prop :=
  ∃ a c, e = .returned (.tuple #[.slice a (addF size l s).2.1.length c, .int .i64 (addF size l s).2.2]) ∧ (addF size l s).2.1.length ≤ c ∧ (a = none → (addF size l s).2.1.length = 0 ∧ c = 0) ∧
    BytesT w' a (addF size l s).2.1 ∧ Pk B w' g size (addF size l s).1 ∧ Upd B TP w w'
theorem add_mk {B g n c : Nat} {size er : Int} {l s l' out : List UInt8} {w w' : World} {A : Option Addr} (h : addF size l s = (l', out, er)) (hn : out.length = n) (hc : n ≤ c) (ha : A = none → n = 0 ∧ c = 0) (hb : BytesT w' A out) (hp : Pk B w' g size l') (hu : Upd B TP w w') :
    AddPost B g size l s w (.returned (.tuple #[.slice A n c, .int .i64 er])) w' := by
  unfold AddPost
  rw [h]
  subst hn
  exact ⟨A, c, rfl, hc, ha, hb, hp, hu⟩
theorem fit_parts {s : List UInt8} (h : fitL s = true) : s ≠ [] ∧ (10 : UInt8) ∉ s ∧ s.getLast? ≠ some 13 := by
  unfold fitL at h
  simp only [Bool.and_eq_true, Bool.not_eq_true', decide_eq_true_eq, List.isEmpty_eq_false_iff] at h
  exact ⟨h.1.1, h.1.2, h.2⟩
theorem fit_mk {s : List UInt8} (h : s ≠ []) (h2 : (10 : UInt8) ∉ s) (h3 : s.getLast? ≠ some 13) : fitL s = true := by
  unfold fitL
  simp only [Bool.and_eq_true, Bool.not_eq_true', decide_eq_true_eq, List.isEmpty_eq_false_iff]
  exact ⟨⟨h, h2⟩, h3⟩
theorem add_bad {size : Int} {l s : List UInt8} (h : fitL s = false) : addF size l s = (l, [], 51) := by unfold addF; rw [if_pos h]
theorem add_long {size : Int} {l s : List UInt8} (h : fitL s = true) (h2 : size < s.length) : addF size l s = (l, [], 2) := by unfold addF; rw [if_neg (by rw [h]; simp), if_pos h2]
theorem add_first {size : Int} {s : List UInt8} (h : fitL s = true) (h2 : ¬ size < s.length) : addF size [] s = (s, [], 0) := by unfold addF; rw [if_neg (by rw [h]; simp), if_neg h2, if_pos rfl]
theorem add_full {size : Int} {l s : List UInt8} (h : fitL s = true) (h2 : ¬ size < s.length) (h3 : l ≠ []) (h4 : size < (l.length : Int) + 1 + s.length) : addF size l s = (s, l, 0) := by unfold addF; rw [if_neg (by rw [h]; simp), if_neg h2, if_neg h3, if_pos h4]
theorem add_more {size : Int} {l s : List UInt8} (h : fitL s = true) (h2 : ¬ size < s.length) (h3 : l ≠ []) (h4 : ¬ size < (l.length : Int) + 1 + s.length) : addF size l s = (l ++ 10 :: s, [], 0) := by unfold addF; rw [if_neg (by rw [h]; simp), if_neg h2, if_neg h3, if_neg h4]
theorem last_at {s : ByteArray} {k : Nat} (h : s.size = k + 1) : (lst s).getLast? = some (s[k]'(by omega)) := by
  have e : (lst s).length = k + 1 := by rw [lst_len]; exact h
  rw [List.getLast?_eq_getElem?, e, Nat.add_sub_cancel, List.getElem?_eq_getElem (by omega)]; rfl
/-- The row grows by one that was grown from it. -/
theorem pk_grown {B g : Nat} {w w1 : World} {size : Int} {v : Value} {l : List UInt8} (h : PkV B w g size v l) (hg : w.grownBy w1 v.ownBlock) : Upd B [5] w w1 :=
  (Upd.refl B [5] w).grown hg (fun k hk => by
    obtain ⟨h1, cs, h2⟩ := own_blk h.own hk
    exact ⟨h1, cs, _, _, h2, by simp⟩)
theorem PkV.alloc {B g : Nat} {w : World} {size : Int} {v : Value} {l : List UInt8} (h : PkV B w g size v l) (o : Obj) : PkV B (w.alloc o) g size v l :=
  ⟨(Below.heap_alloc w o g h.lt).trans h.blk, h.own.alloc o, h.le⟩
theorem PkV.after {B g : Nat} {w w1 : World} {size : Int} {v : Value} {l : List UInt8} (h : PkV B w g size v l) (u : Upd B [5] w w1) :
    w1.cell? ⟨g, 2, none⟩ = some v ∧ w1.frozen? ⟨g, 2, none⟩ = false ∧ w1.cell? ⟨g, 1, none⟩ = some (.int .i64 size) ∧ w1.cell? ⟨g, 0, none⟩ = some (.pointer (some ⟨g, 0, none⟩)) ∧ g < w1.heap.size := by
  have b := u.blk h.blk (by decide)
  exact ⟨by simp [World.cell?, b], by simp [World.frozen?, b], by simp [World.cell?, b], by simp [World.cell?, b], blk_lt b⟩
set_option maxRecDepth 100000 in
set_option maxHeartbeats 8000000 in
theorem add_empty (B : Nat) (g : Nat) (size : Int) (l : List UInt8) (s : ByteArray) (w : World) (h : Pk B w g size l) (hl : l.length ≤ 65536) (hz : size ≤ 65536) (hb : B ≤ w.heap.size) (e : lst s = []) : Calls Try.prog 13 #[.pointer (some ⟨g, 0, none⟩), .string s] w (AddPost B g size l (lst s) w) := by
  obtain ⟨v, h⟩ := h
  have km := pmade B g size v l w h
  have F : Hid (AddPost B g size l (lst s) w (.returned (.tuple #[.slice none 0 0, .int .i64 51])) w) := add_mk (add_bad (by rw [e]; rfl)) rfl (Nat.le_refl _) (fun _ => ⟨rfl, rfl⟩) (.inl rfl) ⟨v, h⟩ (Upd.refl _ _ _)
  obtain rfl : s = ⟨#[]⟩ := lst_inj (e.trans rfl)
  clear e h
  go_enter Try.func13, Try.ntmps13
  go_wp2_with (go_at_call 27; refine km.mono ?_; rintro e w1 ⟨rfl, rfl⟩)
  go_returns
  exact F.out
set_option maxRecDepth 100000 in
set_option maxHeartbeats 8000000 in
theorem add_line (B : Nat) (g : Nat) (size : Int) (l : List UInt8) (s : ByteArray) (w : World) (h : Pk B w g size l) (hl : l.length ≤ 65536) (hz : size ≤ 65536) (hb : B ≤ w.heap.size) (ne : lst s ≠ []) (e : (10 : UInt8) ∈ lst s) : Calls Try.prog 13 #[.pointer (some ⟨g, 0, none⟩), .string s] w (AddPost B g size l (lst s) w) := by
  obtain ⟨v, h⟩ := h
  have km := pmade B g size v l w h
  have F : Hid (AddPost B g size l (lst s) w (.returned (.tuple #[.slice none 0 0, .int .i64 51])) w) := add_mk (add_bad (by unfold fitL; simp [e])) rfl (Nat.le_refl _) (fun _ => ⟨rfl, rfl⟩) (.inl rfl) ⟨v, h⟩ (Upd.refl _ _ _)
  have n1 : s.toList.isEmpty = false := by rw [ByteArray.toList_eq]; unfold lst at ne; cases q : s.data.toList with | nil => exact absurd q ne | cons _ _ => rfl
  have n2 : ¬ s.toList = [] := by rw [ByteArray.toList_eq]; exact ne
  have ki := fun w => Try.strings_IndexByte s 10 w
  rcases index_line (lst s) with ⟨_, _, q⟩ | ⟨q, _⟩
  · exact absurd e q
  have qq : Lib.indexByte s.data.toList 10 = lineN (lst s) := q
  rw [show (10 : Int).toNat.toUInt8 = 10 from rfl, qq] at ki
  replace ki := fun w => (ki w).mono fun e w' (h : _ ∧ w' = w) => (⟨h.1, h.2.symm⟩ : _ ∧ w = w')
  obtain ⟨m, hm⟩ : ∃ m, m = lineN (lst s) := ⟨_, rfl⟩
  rw [← hm] at ki
  clear e h q qq hm ne
  go_enter Try.func13, Try.ntmps13
  go_wp2_with (first | (go_at_call 27; refine km.mono ?_; rintro e w1 ⟨rfl, rfl⟩) | (go_at_call 28; refine (ki _).mono ?_; rintro e w1 ⟨rfl, rfl⟩))
  go_returns
  exact F.out
theorem line_mem {l : List UInt8} (h : lineN l < l.length) : (10 : UInt8) ∈ l := by
  induction l with
  | nil => simp at h
  | cons x r ih =>
    unfold lineN at h
    by_cases e : x = 10
    · rw [e]; simp
    · rw [if_neg e] at h
      exact List.mem_cons_of_mem _ (ih (by simp at h; omega))
set_option maxRecDepth 100000 in
set_option maxHeartbeats 8000000 in
theorem add_cr (B : Nat) (g : Nat) (size : Int) (l : List UInt8) (s : ByteArray) (w : World) (h : Pk B w g size l) (hl : l.length ≤ 65536) (hz : size ≤ 65536) (hb : B ≤ w.heap.size) (hs : s.size ≤ 140737488355327) (ne : lst s ≠ []) (e : (10 : UInt8) ∉ lst s) (e2 : (lst s).getLast? = some 13) : Calls Try.prog 13 #[.pointer (some ⟨g, 0, none⟩), .string s] w (AddPost B g size l (lst s) w) := by
  obtain ⟨v, h⟩ := h
  have km := pmade B g size v l w h
  have F : Hid (AddPost B g size l (lst s) w (.returned (.tuple #[.slice none 0 0, .int .i64 51])) w) := add_mk (add_bad (by unfold fitL; simp [e2])) rfl (Nat.le_refl _) (fun _ => ⟨rfl, rfl⟩) (.inl rfl) ⟨v, h⟩ (Upd.refl _ _ _)
  have n1 : s.toList.isEmpty = false := by rw [ByteArray.toList_eq]; unfold lst at ne; cases q : s.data.toList with | nil => exact absurd q ne | cons _ _ => rfl
  have n2 : ¬ s.toList = [] := by rw [ByteArray.toList_eq]; exact ne
  have ki := fun w => Try.strings_IndexByte s 10 w
  rcases index_line (lst s) with ⟨q, _, _⟩ | ⟨q, q2⟩
  case inr => exact absurd (line_mem q2) e
  have qq : Lib.indexByte s.data.toList 10 = -1 := q
  rw [show (10 : Int).toNat.toUInt8 = 10 from rfl, qq] at ki
  replace ki := fun w => (ki w).mono fun e w' (h : _ ∧ w' = w) => (⟨h.1, h.2.symm⟩ : _ ∧ w = w')
  obtain ⟨k, hk⟩ : ∃ k, s.size = k + 1 := ⟨s.size - 1, by have : 0 < (lst s).length := (by cases q : lst s with | nil => exact absurd q ne | cons _ _ => simp); rw [lst_len] at this; omega⟩
  have kb : k < 140737488355328 := by omega
  have i1 : IntKind.i64.wrap ((s.size : Int) - 1) = k := by rw [IntKind.wrap_i64]; omega
  have i2 : (k : Int) < (s.size : Int) := by omega
  have i3 : k < s.size := by omega
  have i4 : (k : Int) ≤ (s.size : Int) := by omega
  have la : (lst s).getLast? = some (s[k]'i3) := last_at hk
  clear hk
  rw [la] at e2
  have e3 := Option.some.inj e2
  have xe : ((s[k]'(by omega)).toNat : Int) = 13 := by rw [e3]; rfl
  have xb : (((s[k]'(by omega)).toNat : Int) == 13) = true := by rw [xe]; rfl
  clear e h q qq ne e2 e3 la
  go_enter Try.func13, Try.ntmps13
  go_wp2_with (first | (go_at_call 27; refine km.mono ?_; rintro e w1 ⟨rfl, rfl⟩) | (go_at_call 28; refine (ki _).mono ?_; rintro e w1 ⟨rfl, rfl⟩))
  go_returns
  exact F.out
set_option maxRecDepth 100000 in
set_option maxHeartbeats 8000000 in
theorem add_toolong (B : Nat) (g : Nat) (size : Int) (l : List UInt8) (s : ByteArray) (w : World) (h : Pk B w g size l) (hl : l.length ≤ 65536) (hz : size ≤ 65536) (hb : B ≤ w.heap.size) (hs : s.size ≤ 140737488355327) (ft : fitL (lst s) = true) (lg : size < s.size) : Calls Try.prog 13 #[.pointer (some ⟨g, 0, none⟩), .string s] w (AddPost B g size l (lst s) w) := by
  obtain ⟨v, h⟩ := h
  have km := pmade B g size v l w h
  have c1 := h.c1
  have F : Hid (AddPost B g size l (lst s) w (.returned (.tuple #[.slice none 0 0, .int .i64 2])) w) := add_mk (add_long ft (by rw [lst_len]; exact lg)) rfl (Nat.le_refl _) (fun _ => ⟨rfl, rfl⟩) (.inl rfl) ⟨v, h⟩ (Upd.refl _ _ _)
  obtain ⟨ne, e, e2⟩ := fit_parts ft
  have n1 : s.toList.isEmpty = false := by rw [ByteArray.toList_eq]; unfold lst at ne; cases q : s.data.toList with | nil => exact absurd q ne | cons _ _ => rfl
  have n2 : ¬ s.toList = [] := by rw [ByteArray.toList_eq]; exact ne
  have ki := fun w => Try.strings_IndexByte s 10 w
  rcases index_line (lst s) with ⟨q, _, _⟩ | ⟨q, q2⟩
  case inr => exact absurd (line_mem q2) e
  have qq : Lib.indexByte s.data.toList 10 = -1 := q
  rw [show (10 : Int).toNat.toUInt8 = 10 from rfl, qq] at ki
  replace ki := fun w => (ki w).mono fun e w' (h : _ ∧ w' = w) => (⟨h.1, h.2.symm⟩ : _ ∧ w = w')
  obtain ⟨k, hk⟩ : ∃ k, s.size = k + 1 := ⟨s.size - 1, by have : 0 < (lst s).length := (by cases q : lst s with | nil => exact absurd q ne | cons _ _ => simp); rw [lst_len] at this; omega⟩
  have kb : k < 140737488355328 := by omega
  have i1 : IntKind.i64.wrap ((s.size : Int) - 1) = k := by rw [IntKind.wrap_i64]; omega
  have i2 : (k : Int) < (s.size : Int) := by omega
  have i3 : k < s.size := by omega
  have i4 : (k : Int) ≤ (s.size : Int) := by omega
  have la : (lst s).getLast? = some (s[k]'i3) := last_at hk
  clear hk
  rw [la] at e2
  have xb : (((s[k]'(by omega)).toNat : Int) == 13) = false := by rw [beq_eq_false_iff_ne]; intro q; exact e2 (by rw [show (s[k]'(by omega)) = 13 from UInt8.toNat_inj.1 (show (s[k]'(by omega)).toNat = 13 by omega)])
  clear e h q qq ne e2 la ft
  go_enter Try.func13, Try.ntmps13
  go_wp2_with (first | (go_at_call 27; refine km.mono ?_; rintro e w1 ⟨rfl, rfl⟩) | (go_at_call 28; refine (ki _).mono ?_; rintro e w1 ⟨rfl, rfl⟩))
  go_returns
  exact F.out
set_option maxRecDepth 100000 in
set_option maxHeartbeats 8000000 in
theorem add_one (B : Nat) (g : Nat) (size : Int) (l : List UInt8) (s : ByteArray) (w : World) (h : Pk B w g size l) (hl : l.length ≤ 65536) (hz : size ≤ 65536) (hb : B ≤ w.heap.size) (hs : s.size ≤ 140737488355327) (ft : fitL (lst s) = true) (lg : ¬ size < s.size) (le : l = []) : Calls Try.prog 13 #[.pointer (some ⟨g, 0, none⟩), .string s] w (AddPost B g size l (lst s) w) := by
  subst le
  obtain ⟨v, h⟩ := h
  have km := pmade B g size v [] w h
  have HB := hide hb
  have PK := hide h
  obtain ⟨A, c, rfl, hc, hn⟩ := own_form h.own
  have c1 := h.c1
  have c2 := h.c2
  have f2 := h.fr 2
  have AD := hide (add_first ft (show ¬ size < (lst s).length by rw [lst_len]; exact lg))
  rw [List.length_nil] at c2
  obtain ⟨ne, e, e2⟩ := fit_parts ft
  have n1 : s.toList.isEmpty = false := by rw [ByteArray.toList_eq]; unfold lst at ne; cases q : s.data.toList with | nil => exact absurd q ne | cons _ _ => rfl
  have n2 : ¬ s.toList = [] := by rw [ByteArray.toList_eq]; exact ne
  have ki := fun w => Try.strings_IndexByte s 10 w
  rcases index_line (lst s) with ⟨q, _, _⟩ | ⟨q, q2⟩
  case inr => exact absurd (line_mem q2) e
  have qq : Lib.indexByte s.data.toList 10 = -1 := q
  rw [show (10 : Int).toNat.toUInt8 = 10 from rfl, qq] at ki
  replace ki := fun w => (ki w).mono fun e w' (h : _ ∧ w' = w) => (⟨h.1, h.2.symm⟩ : _ ∧ w = w')
  obtain ⟨k, hk⟩ : ∃ k, s.size = k + 1 := ⟨s.size - 1, by have : 0 < (lst s).length := (by cases q : lst s with | nil => exact absurd q ne | cons _ _ => simp); rw [lst_len] at this; omega⟩
  have kb : k < 140737488355328 := by omega
  have i1 : IntKind.i64.wrap ((s.size : Int) - 1) = k := by rw [IntKind.wrap_i64]; omega
  have i2 : (k : Int) < (s.size : Int) := by omega
  have i3 : k < s.size := by omega
  have i4 : (k : Int) ≤ (s.size : Int) := by omega
  have la : (lst s).getLast? = some (s[k]'i3) := last_at hk
  clear hk
  rw [la] at e2
  have xb : (((s[k]'(by omega)).toNat : Int) == 13) = false := by rw [beq_eq_false_iff_ne]; intro q; exact e2 (by rw [show (s[k]'(by omega)) = 13 from UInt8.toNat_inj.1 (show (s[k]'(by omega)).toNat = 13 by omega)])
  obtain ⟨i0, hi0, hz0, hz1, hz2⟩ := info_parts info_u8
  have HI : Hid (Try.prog.info? 5 = some i0 ∧ i0.zero = some (.int .u8 0) ∧ i0.size = 1 ∧ i0.bytes = 1) := ⟨hi0, hz0, hz1, hz2⟩
  clear hi0 hz0 hz1 hz2
  clear e h q qq ne e2 la ft hn
  go_enter Try.func13, Try.ntmps13
  go_wp2_with (first | (go_at_call 27; refine km.mono ?_; rintro e w1 ⟨rfl, rfl⟩) | (go_at_call 28; refine (ki _).mono ?_; rintro e w1 ⟨rfl, rfl⟩))
  go_quiet (fail)
  go_wp2_with (
    at_builtin
    refine Lib.wpList_append_own_string _ rfl _ _ 35 9 rfl B 5 i0 Try.underlying35 Try.underlying9 HI.out.1 HI.out.2.1 HI.out.2.2.1 HI.out.2.2.2 (.slice A 0 c) 0 (rowB []) rfl (PK.out.upd (Upd.of_below (B := B) (T := []) (below_drewN (Below.refl _ _) _)) (by simp) (by simp)).own s rfl ?a1 ?a2 ?a3 ?_
    case a1 => unfold maxLen; omega
    case a2 => omega
    case a3 => first | exact HB.out | (simp; omega) | omega
    intro v' w9 hown' hgrow hnil
    have G9 := hide hgrow
    have U9 := hide (pk_grown (PK.out.upd (Upd.of_below (B := B) (T := []) (below_drewN (Below.refl _ _) _)) (by simp) (by simp)) hgrow)
    rw [rowB_str, ← rowB_app] at hown'
    have O9 : Hid (World.ownsRow w9 B 5 1 v' (([] : List UInt8) ++ lst s).length (rowB (([] : List UInt8) ++ lst s))) := by show World.ownsRow _ _ _ _ _ _ _; rw [List.length_append, lst_len]; exact hown'
    obtain ⟨A9, c9, rfl, _, _⟩ := own_form hown'
    obtain ⟨p1, p2, p3, p4, p5⟩ := (PK.out.upd (Upd.of_below (B := B) (T := []) (below_drewN (Below.refl _ _) _)) (by simp) (by simp)).after U9.out
    clear hown' hgrow hnil)
  go_returns
  have ST := PkV.store (PK.out.upd (Upd.of_below (B := B) (T := []) (below_drewN (Below.refl _ _) _)) (by simp) (by simp)) U9.out O9.out
  rw [Nat.zero_add] at ST
  exact add_mk AD.out rfl (Nat.le_refl _) (fun _ => ⟨rfl, rfl⟩) (.inl rfl) ⟨_, ST.1⟩ (((Upd.refl B TP _).drewN _).trans ST.2)
set_option maxRecDepth 100000 in
set_option maxHeartbeats 8000000 in
theorem add_two (B : Nat) (g : Nat) (size : Int) (l : List UInt8) (s : ByteArray) (w : World) (h : Pk B w g size l) (hl : l.length ≤ 65536) (hz : size ≤ 65536) (hb : B ≤ w.heap.size) (hs : s.size ≤ 140737488355327) (ft : fitL (lst s) = true) (lg : ¬ size < s.size) (le : l ≠ []) (fu : size < (l.length : Int) + 1 + s.size) : Calls Try.prog 13 #[.pointer (some ⟨g, 0, none⟩), .string s] w (AddPost B g size l (lst s) w) := by
  have FL := fun W (P : Pk B W g size l) => flush_spec B g size l W P (by omega)
  obtain ⟨v, h⟩ := h
  have km := pmade B g size v l w h
  have HB := hide hb
  have PK := hide h
  obtain ⟨A, c, rfl, hc, hn⟩ := own_form h.own
  have c1 := h.c1
  have c2 := h.c2
  have f2 := h.fr 2
  have AD := hide (add_full ft (show ¬ size < (lst s).length by rw [lst_len]; exact lg) le (show size < (l.length : Int) + 1 + (lst s).length by rw [lst_len]; exact fu))
  have lp : 0 < l.length := by cases l; exact absurd rfl le; simp
  have g1 : decide (0 < (l.length : Int)) = true := decide_eq_true (by omega)
  have w1' : IntKind.i64.wrap ((l.length : Int) + 1) = (l.length : Int) + 1 := by rw [IntKind.wrap_i64]; omega
  have w2' : IntKind.i64.wrap ((l.length : Int) + 1 + (s.size : Int)) = (l.length : Int) + 1 + s.size := by rw [IntKind.wrap_i64]; omega
  obtain ⟨ne, e, e2⟩ := fit_parts ft
  have n1 : s.toList.isEmpty = false := by rw [ByteArray.toList_eq]; unfold lst at ne; cases q : s.data.toList with | nil => exact absurd q ne | cons _ _ => rfl
  have n2 : ¬ s.toList = [] := by rw [ByteArray.toList_eq]; exact ne
  have ki := fun w => Try.strings_IndexByte s 10 w
  rcases index_line (lst s) with ⟨q, _, _⟩ | ⟨q, q2⟩
  case inr => exact absurd (line_mem q2) e
  have qq : Lib.indexByte s.data.toList 10 = -1 := q
  rw [show (10 : Int).toNat.toUInt8 = 10 from rfl, qq] at ki
  replace ki := fun w => (ki w).mono fun e w' (h : _ ∧ w' = w) => (⟨h.1, h.2.symm⟩ : _ ∧ w = w')
  obtain ⟨k, hk⟩ : ∃ k, s.size = k + 1 := ⟨s.size - 1, by have : 0 < (lst s).length := (by cases q : lst s with | nil => exact absurd q ne | cons _ _ => simp); rw [lst_len] at this; omega⟩
  have kb : k < 140737488355328 := by omega
  have i1 : IntKind.i64.wrap ((s.size : Int) - 1) = k := by rw [IntKind.wrap_i64]; omega
  have i2 : (k : Int) < (s.size : Int) := by omega
  have i3 : k < s.size := by omega
  have i4 : (k : Int) ≤ (s.size : Int) := by omega
  have la : (lst s).getLast? = some (s[k]'i3) := last_at hk
  clear hk
  rw [la] at e2
  have xb : (((s[k]'(by omega)).toNat : Int) == 13) = false := by rw [beq_eq_false_iff_ne]; intro q; exact e2 (by rw [show (s[k]'(by omega)) = 13 from UInt8.toNat_inj.1 (show (s[k]'(by omega)).toNat = 13 by omega)])
  obtain ⟨i0, hi0, hz0, hz1, hz2⟩ := info_parts info_u8
  have HI : Hid (Try.prog.info? 5 = some i0 ∧ i0.zero = some (.int .u8 0) ∧ i0.size = 1 ∧ i0.bytes = 1) := ⟨hi0, hz0, hz1, hz2⟩
  clear hi0 hz0 hz1 hz2
  clear e h q qq ne e2 la ft hn le
  go_enter Try.func13, Try.ntmps13
  go_wp2_with (first | (go_at_call 27; refine km.mono ?_; rintro e w1 ⟨rfl, rfl⟩) | (go_at_call 28; refine (ki _).mono ?_; rintro e w1 ⟨rfl, rfl⟩))
  go_quiet (fail)
  go_wp2_with fail
  refine (FL _ ⟨_, (PK.out.upd (Upd.of_below (B := B) (T := []) (below_drewN (Below.refl _ _) _)) (by simp) (by simp))⟩).mono ?_
  rintro e w2 ⟨a, ca, rfl, hca, ha, ib, ⟨v2, P2, ap⟩, u2⟩
  have B2 : Hid (B ≤ w2.heap.size) := Nat.le_trans HB.out u2.size
  obtain ⟨A2, c2, rfl, _, _⟩ := own_form P2.own
  have d2 := P2.c2
  have e2 := P2.fr 2
  rw [List.length_nil] at d2
  have PK2 := hide P2
  have IB := hide ib
  have AP := hide ap
  have U2 := hide u2
  clear P2 ib u2 FL ap
  go_wp2_with (
    at_builtin
    refine Lib.wpList_append_own_string _ rfl _ _ 35 9 rfl B 5 i0 Try.underlying35 Try.underlying9 HI.out.1 HI.out.2.1 HI.out.2.2.1 HI.out.2.2.2 (.slice A2 0 c2) 0 (rowB []) rfl PK2.out.own s rfl ?a1 ?a2 ?a3 ?_
    case a1 => unfold maxLen; omega
    case a2 => omega
    case a3 => first | exact B2.out | (simp; omega) | omega
    intro v' w9 hown' hgrow hnil
    have G9 := hide hgrow
    have U9 := hide (pk_grown PK2.out hgrow)
    rw [rowB_str, ← rowB_app] at hown'
    have O9 : Hid (World.ownsRow w9 B 5 1 v' (([] : List UInt8) ++ lst s).length (rowB (([] : List UInt8) ++ lst s))) := by show World.ownsRow _ _ _ _ _ _ _; rw [List.length_append, lst_len]; exact hown'
    obtain ⟨A9, c9, rfl, _, _⟩ := own_form hown'
    obtain ⟨p1, p2, p3, p4, p5⟩ := PK2.out.after U9.out
    clear hown' hgrow hnil)
  go_returns
  have ST := PkV.store PK2.out U9.out O9.out
  rw [Nat.zero_add] at ST
  refine add_mk AD.out rfl hca ha ?_ ⟨_, ST.1⟩ ((((Upd.refl B TP _).drewN _).trans U2.out).trans ST.2)
  rcases IB.out with q | ⟨b, rfl, hh⟩
  · exact .inl q
  · obtain ⟨a1, a2⟩ := AP.out b 0 rfl
    refine .inr ⟨b, rfl, ?_⟩
    rw [Below.heap_setCell w9 ⟨g, 2, none⟩ _ b a2, G9.out.block b (blk_lt hh) (fun e => a1 e.symm)]
    exact hh
set_option maxRecDepth 100000 in
set_option maxHeartbeats 8000000 in
theorem add_three (B : Nat) (g : Nat) (size : Int) (l : List UInt8) (s : ByteArray) (w : World) (h : Pk B w g size l) (hl : l.length ≤ 65536) (hz : size ≤ 65536) (hb : B ≤ w.heap.size) (hs : s.size ≤ 140737488355327) (ft : fitL (lst s) = true) (lg : ¬ size < s.size) (le : l ≠ []) (fu : ¬ size < (l.length : Int) + 1 + s.size) : Calls Try.prog 13 #[.pointer (some ⟨g, 0, none⟩), .string s] w (AddPost B g size l (lst s) w) := by
  obtain ⟨v, h⟩ := h
  have km := pmade B g size v l w h
  have HB := hide hb
  have PK := hide h
  obtain ⟨A, c, rfl, hc, hn⟩ := own_form h.own
  have c1 := h.c1
  have c2 := h.c2
  have f2 := h.fr 2
  have AD := hide (add_more ft (show ¬ size < (lst s).length by rw [lst_len]; exact lg) le (show ¬ size < (l.length : Int) + 1 + (lst s).length by rw [lst_len]; exact fu))
  have lp : 0 < l.length := by cases l; exact absurd rfl le; simp
  have g1 : decide (0 < (l.length : Int)) = true := decide_eq_true (by omega)
  have w1' : IntKind.i64.wrap ((l.length : Int) + 1) = (l.length : Int) + 1 := by rw [IntKind.wrap_i64]; omega
  have w2' : IntKind.i64.wrap ((l.length : Int) + 1 + (s.size : Int)) = (l.length : Int) + 1 + s.size := by rw [IntKind.wrap_i64]; omega
  obtain ⟨ne, e, e2⟩ := fit_parts ft
  have n1 : s.toList.isEmpty = false := by rw [ByteArray.toList_eq]; unfold lst at ne; cases q : s.data.toList with | nil => exact absurd q ne | cons _ _ => rfl
  have n2 : ¬ s.toList = [] := by rw [ByteArray.toList_eq]; exact ne
  have ki := fun w => Try.strings_IndexByte s 10 w
  rcases index_line (lst s) with ⟨q, _, _⟩ | ⟨q, q2⟩
  case inr => exact absurd (line_mem q2) e
  have qq : Lib.indexByte s.data.toList 10 = -1 := q
  rw [show (10 : Int).toNat.toUInt8 = 10 from rfl, qq] at ki
  replace ki := fun w => (ki w).mono fun e w' (h : _ ∧ w' = w) => (⟨h.1, h.2.symm⟩ : _ ∧ w = w')
  obtain ⟨k, hk⟩ : ∃ k, s.size = k + 1 := ⟨s.size - 1, by have : 0 < (lst s).length := (by cases q : lst s with | nil => exact absurd q ne | cons _ _ => simp); rw [lst_len] at this; omega⟩
  have kb : k < 140737488355328 := by omega
  have i1 : IntKind.i64.wrap ((s.size : Int) - 1) = k := by rw [IntKind.wrap_i64]; omega
  have i2 : (k : Int) < (s.size : Int) := by omega
  have i3 : k < s.size := by omega
  have i4 : (k : Int) ≤ (s.size : Int) := by omega
  have la : (lst s).getLast? = some (s[k]'i3) := last_at hk
  clear hk
  rw [la] at e2
  have xb : (((s[k]'(by omega)).toNat : Int) == 13) = false := by rw [beq_eq_false_iff_ne]; intro q; exact e2 (by rw [show (s[k]'(by omega)) = 13 from UInt8.toNat_inj.1 (show (s[k]'(by omega)).toNat = 13 by omega)])
  obtain ⟨i0, hi0, hz0, hz1, hz2⟩ := info_parts info_u8
  have HI : Hid (Try.prog.info? 5 = some i0 ∧ i0.zero = some (.int .u8 0) ∧ i0.size = 1 ∧ i0.bytes = 1) := ⟨hi0, hz0, hz1, hz2⟩
  clear hi0 hz0 hz1 hz2
  clear e h q qq ne e2 la ft hn le
  go_enter Try.func13, Try.ntmps13
  go_wp2_with (first | (go_at_call 27; refine km.mono ?_; rintro e w1 ⟨rfl, rfl⟩) | (go_at_call 28; refine (ki _).mono ?_; rintro e w1 ⟨rfl, rfl⟩))
  go_quiet (fail)
  go_wp2_with (first
    | (
      at_builtin
      refine wpList_append_own _ rfl _ _ 35 rfl B 5 i0 (.int .u8 0) 1 1 Try.underlying35 HI.out.1 HI.out.2.1 HI.out.2.2.1 HI.out.2.2.2 ?a1 ?a2 (.slice A l.length c) l.length (rowB l) ?a3 ((PK.out.upd (Upd.of_below (B := B) (T := []) (below_drewN (Below.refl _ _) _)) (by simp) (by simp)).own.alloc _) ⟨w.heap.size, 0, none⟩ 1 1 [.int .u8 10] ?a5 ?a6 ?a7 ?a8 ?a9 ?b1 ?b2 ?_
      case a1 => rfl
      case a2 => decide
      case a3 => rfl
      case a5 => rfl
      case a6 => rfl
      case a7 => exact cell_one_new _ _ _
      case a8 => intro u hu; rw [List.mem_singleton] at hu; subst hu; rfl
      case a9 => unfold maxLen; omega
      case b1 => omega
      case b2 => (simp; omega)
      intro v8 w8 hown8 hgrow8 hnil8
      have U8 := hide (pk_grown ((PK.out.upd (Upd.of_below (B := B) (T := []) (below_drewN (Below.refl _ _) _)) (by simp) (by simp)).alloc _) hgrow8)
      have O8 : Hid (World.ownsRow w8 B 5 1 v8 (l ++ [10]).length (rowB (l ++ [10]))) := by show World.ownsRow _ _ _ _ _ _ _; rw [List.length_append, rowB_app]; exact hown8
      obtain ⟨A8, c8, rfl, _, _⟩ := own_form hown8
      obtain ⟨q1, q2, q3, q4, q5⟩ := ((PK.out.upd (Upd.of_below (B := B) (T := []) (below_drewN (Below.refl _ _) _)) (by simp) (by simp)).alloc _).after U8.out
      have P8 := hide (PkV.store ((PK.out.upd (Upd.of_below (B := B) (T := []) (below_drewN (Below.refl _ _) _)) (by simp) (by simp)).alloc _) U8.out O8.out)
      have B8 : Hid (B ≤ w8.heap.size) := Nat.le_trans HB.out (Nat.le_trans (by simp) U8.out.size)
      clear hown8 hgrow8 hnil8)
    | (
      at_builtin
      refine Lib.wpList_append_own_string _ rfl _ _ 35 9 rfl B 5 i0 Try.underlying35 Try.underlying9 HI.out.1 HI.out.2.1 HI.out.2.2.1 HI.out.2.2.2 (.slice A8 (l.length + 1) c8) (l.length + 1) (rowB (l ++ [10])) rfl (by have := P8.out.1.own; rw [List.length_append] at this; exact this) s rfl ?a1 ?a2 ?a3 ?_
      case a1 => unfold maxLen; omega
      case a2 => omega
      case a3 => have := B8.out; simp; omega
      intro v' w9 hown' hgrow hnil
      have U9 := hide (pk_grown P8.out.1 hgrow)
      have O9 : Hid (World.ownsRow w9 B 5 1 v' (l ++ [10] ++ lst s).length (rowB (l ++ [10] ++ lst s))) := by show World.ownsRow _ _ _ _ _ _ _; rw [List.length_append, List.length_append, lst_len, rowB_app]; exact hown'
      obtain ⟨A9, c9, rfl, _, _⟩ := own_form hown'
      obtain ⟨p1, p2, p3, p4, p5⟩ := P8.out.1.after U9.out
      clear hown' hgrow hnil))
  go_returns
  have ST := PkV.store P8.out.1 U9.out O9.out
  have EQ : l ++ [10] ++ lst s = l ++ 10 :: lst s := by simp
  exact add_mk AD.out rfl (Nat.le_refl _) (fun _ => ⟨rfl, rfl⟩) (.inl rfl) ⟨_, EQ ▸ ST.1⟩ (((((Upd.refl B TP _).drewN _).alloc _).trans P8.out.2).trans ST.2)
theorem padd_spec (B : Nat) (g : Nat) (size : Int) (l : List UInt8) (s : ByteArray) (w : World) (h : Pk B w g size l) (hl : l.length ≤ 65536) (hz : size ≤ 65536) (hb : B ≤ w.heap.size) (hs : s.size ≤ 140737488355327) : Calls Try.prog 13 #[.pointer (some ⟨g, 0, none⟩), .string s] w (AddPost B g size l (lst s) w) := by
  by_cases e1 : lst s = []
  · exact add_empty B g size l s w h hl hz hb e1
  by_cases e2 : (10 : UInt8) ∈ lst s
  · exact add_line B g size l s w h hl hz hb e1 e2
  by_cases e3 : (lst s).getLast? = some 13
  · exact add_cr B g size l s w h hl hz hb hs e1 e2 e3
  have ft := fit_mk e1 e2 e3
  by_cases e4 : size < s.size
  · exact add_toolong B g size l s w h hl hz hb hs ft e4
  by_cases e5 : l = []
  · exact add_one B g size l s w h hl hz hb hs ft e4 e5
  by_cases e6 : size < (l.length : Int) + 1 + s.size
  · exact add_two B g size l s w h hl hz hb hs ft e4 e5 e6
  · exact add_three B g size l s w h hl hz hb hs ft e4 e5 e6
end Go.Proofs.Ythaphijkfedihaa
