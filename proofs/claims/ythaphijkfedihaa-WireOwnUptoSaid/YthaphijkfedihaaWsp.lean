/- wire: lineLength, bare, Split. -/
import Derived.Test.YthaphijkfedihaaBytes
import Derived.Test.YthaphijkfedihaaShelf
namespace Go.Proofs.Ythaphijkfedihaa
set_option linter.unusedVariables false
set_option linter.unusedSimpArgs false
open Go.RowKit W
theorem ints_bytes (l : List UInt8) : Lib.bytesOf (l.map fun x => (x.toNat : Int)) = l := by
  unfold Lib.bytesOf
  rw [List.map_map]
  conv => rhs; rw [← List.map_id l]
  apply List.map_congr_left
  intro x _
  simp
set_option maxRecDepth 100000 in
theorem idx_some (a : Addr) (l : List UInt8) (c : Nat) (w : World) (h : IsBytes w (some a) l) :
    Calls Try.prog 37 #[.slice (some a) l.length c, .int .u8 10] w fun e w' => e = .returned (.int .i64 (Lib.indexByte l 10)) ∧ w' = w := by
  have k := Try.bytes_IndexByte_at a l.length c (l.map fun x => (x.toNat : Int)) 10 w (by simp) (by
    intro i hi
    rcases h with rfl | ⟨g, o, e, lt, h⟩
    · exact absurd hi (by simp)
    · obtain rfl := Option.some.inj e
      rw [Go.WideShapes.add_plain, h i hi]
      simp [List.getD_eq_getElem?_getD, hi])
  rw [ints_bytes] at k
  exact k
set_option maxRecDepth 100000 in
set_option maxHeartbeats 4000000 in
theorem linelen_some (a : Addr) (l : List UInt8) (c : Nat) (w : World) (h : IsBytes w (some a) l) (hl : l.length ≤ 140737488355328) :
    CalcN 30 #[.slice (some a) l.length c] w (.int .i64 (lineN l)) := by
  have k := idx_some a l c w h
  rcases index_line l with ⟨h1, h2, _⟩ | ⟨h1, h2⟩
  · rw [h1] at k
    rw [h2]
    clear h1 h2
    go_enter Try.func30, Try.ntmps30
    go_wp2_with (go_at_call 37; refine k.mono ?_; rintro e w1 ⟨rfl, rfl⟩)
    go_returns
    exact ⟨rfl, rfl⟩
  · rw [h1] at k
    clear h1
    generalize lineN l = n at *
    go_enter Try.func30, Try.ntmps30
    go_wp2_with (go_at_call 37; refine k.mono ?_; rintro e w1 ⟨rfl, rfl⟩)
    go_returns
    exact ⟨rfl, rfl⟩
set_option maxRecDepth 100000 in
theorem linelen_nil (w : World) : CalcN 30 #[.slice none 0 0] w (.int .i64 0) := by
  have k := Try.bytes_IndexByte_nil 10 w
  go_enter Try.func30, Try.ntmps30
  go_wp2_with (go_at_call 37; refine k.mono ?_; rintro e w1 ⟨rfl, rfl⟩)
  go_returns
  exact ⟨rfl, rfl⟩
theorem linelen_spec (a : Option Addr) (l : List UInt8) (c : Nat) (w : World) (h : IsBytes w a l) (hl : l.length ≤ 140737488355328) (hn : a = none → l.length = 0 ∧ c = 0) :
    CalcN 30 #[.slice a l.length c] w (.int .i64 (lineN l)) := by
  cases a with
  | none =>
    obtain ⟨h1, h2⟩ := hn rfl
    obtain rfl := List.eq_nil_of_length_eq_zero h1
    subst h2
    exact linelen_nil w
  | some a => exact linelen_some a l c w h hl
/-- A slice of bytes that is answered. -/
def BytesPost (w : World) (l : List UInt8) (e : Ending) (w' : World) : Prop := ∃ a c, e = .returned (.slice a l.length c) ∧ l.length ≤ c ∧ IsBytes w a l ∧ w = w'
theorem bp_mk {w : World} {l : List UInt8} (a : Option Addr) (n c : Nat) (hn : l.length = n) (hc : n ≤ c) (h : IsBytes w a l) : BytesPost w l (.returned (.slice a n c)) w := ⟨a, c, by rw [hn], by omega, h, rfl⟩
set_option maxRecDepth 100000 in
set_option maxHeartbeats 4000000 in
theorem bare_spec (a : Option Addr) (l : List UInt8) (c : Nat) (w : World) (h : IsBytes w a l) (hl : l.length ≤ 140737488355328) (hc : l.length ≤ c) :
    Calls Try.prog 35 #[.slice a l.length c] w (BytesPost w (bareL l)) := by
  rcases Nat.eq_zero_or_pos l.length with z | z
  · obtain rfl := List.eq_nil_of_length_eq_zero z
    have F : ∀ c, BytesPost w (bareL []) (.returned (.slice a 0 c)) w := fun c => bp_mk a 0 c rfl (by omega) (.inl rfl)
    rw [List.length_nil]
    go_enter Try.func35, Try.ntmps35
    go_wp2
    go_returns
    exact F c
  · obtain ⟨k, hk⟩ : ∃ k, l.length = k + 1 := ⟨l.length - 1, by omega⟩
    have cut := bytes_upto h c k (by omega) hc
    obtain ⟨cut1, cut2⟩ := cut
    have c0 : ∃ g o, a = some ⟨g, o, none⟩ ∧ w.cell? ⟨g, o + k, none⟩ = some (.int .u8 ((l[k]'(by omega)).toNat : Int)) := by
      rcases h with rfl | ⟨g, o, rfl, lt, h⟩
      · exact absurd z (by simp)
      · exact ⟨g, o, rfl, h k (by omega)⟩
    obtain ⟨g, o, rfl, c0⟩ := c0
    have t1 := fun e => bareL_13 (l := l) hk e
    have t2 := fun e => bareL_no (l := l) hk e
    obtain ⟨x, hx⟩ : ∃ x, x = l[k]'(by omega) := ⟨_, rfl⟩
    rw [← hx] at c0 t1 t2
    clear hx
    have c1 : k + 1 ≤ c := by omega
    rw [hk] at cut1 ⊢
    by_cases e : x = 13
    · have F : Hid (BytesPost w (bareL l) (.returned (.slice (some ⟨g, o, none⟩) k k)) w) := by rw [t1 e]; exact bp_mk _ k k (by rw [List.length_take]; omega) (by omega) cut2
      have xe : (x.toNat : Int) = 13 := by rw [e]; rfl
      rw [xe] at c0
      have kb : k < 140737488355328 := by omega
      clear e xe t1 t2 cut2 h z hl
      clear hk hc
      go_enter Try.func35, Try.ntmps35
      go_wp2
      go_returns
      exact F.out
    · have F : Hid (BytesPost w (bareL l) (.returned (.slice (some ⟨g, o, none⟩) (k + 1) c)) w) := by rw [t2 e]; exact bp_mk _ (k + 1) c hk c1 h
      have xe : ((x.toNat : Int) == 13) = false := by rw [beq_eq_false_iff_ne]; intro q; exact e (UInt8.toNat_inj.1 (show x.toNat = 13 by omega))
      have kb : k < 140737488355328 := by omega
      clear e t1 t2 cut1 cut2 h z
      clear hk hc hl
      go_enter Try.func35, Try.ntmps35
      go_wp2
      go_returns
      exact F.out
end Go.Proofs.Ythaphijkfedihaa
