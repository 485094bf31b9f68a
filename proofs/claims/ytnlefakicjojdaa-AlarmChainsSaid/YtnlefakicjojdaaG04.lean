/- Texts that belong together: Alav Lawan Alrd Limb Limbb Lw Limbc Ladd Lsub Lcmp. -/
import Derived.Test.YtnlefakicjojdaaG03
import Derived.ChangeArms
import Derived.ChangeAlike
import Init
import Derived.Test.YtnlefakicjojdaaG01
import Derived.Laws.OwnMore
import Derived.Laws.BitsAllLaws
set_option linter.unusedSimpArgs false
set_option linter.unusedVariables false
/- alarm: alive; AlarmNobody. -/
namespace Go.Proofs.Ytnlefakicjojdaa
set_option linter.unusedVariables false
set_option linter.unusedSimpArgs false
open Go.RowKit W Go.Maps
def sA : St := ⟨3, 3, 1, 0, 0, 0, 1, 0⟩
theorem feed25 {w : World} {bb mb b : Nat} (h : BookA w bb mb [(upR, st0, b)]) :
    Calls Try.prog 12 #[.pointer (some ⟨bb, 0, none⟩), .string ⟨#[117, 112]⟩, .int .i64 1, .agg #[.bool true, .int .i64 0, .int .u64 25]] w fun e w' => ∃ g, e = .returned (.tuple #[.slice (some ⟨g, 0, none⟩) 1 1, .int .i64 0]) ∧ Row w' g 0 [.string ⟨#[117, 112]⟩, .int .i64 1, .int .i64 1, .int .i64 3, .bool false, .bool true, .int .i64 0, .int .u64 25] ∧ BookA w' bb mb [(upR, sA, b)] ∧ Mod [b] w w' ∧ w.heap.size ≤ g := by
  have k := feed_any h upR st0 List.mem_cons_self (by decide) 1 0 25 true ⟨⟨by decide, by decide⟩, ⟨by decide, by decide⟩⟩
  have e1 : feE st0 1 = 0 := rfl
  have e2 : feS upR st0 1 true (V 0 25) = sA := rfl
  have e3 : feO upR st0 1 true 0 25 = some [.string ⟨#[117, 112]⟩, .int .i64 1, .int .i64 1, .int .i64 3, .bool false, .bool true, .int .i64 0, .int .u64 25] := rfl
  rw [e1, e2, e3] at k
  refine Calls.mono k ?_
  rintro e w' ⟨v, rfl, ⟨g, rfl, row⟩, fr, bk, m⟩
  rw [updL_one] at bk
  exact ⟨g, rfl, row, bk, m, fr g rfl⟩
theorem feed19 {w : World} {bb mb b : Nat} (h : BookA w bb mb [(upR, sA, b)]) :
    Calls Try.prog 12 #[.pointer (some ⟨bb, 0, none⟩), .string ⟨#[117, 112]⟩, .int .i64 2, .agg #[.bool true, .int .i64 0, .int .u64 19]] w fun e w' => e = .returned (.tuple #[.slice none 0 0, .int .i64 0]) ∧ Mod [b] w w' := by
  have k := feed_any h upR sA List.mem_cons_self (by decide) 2 0 19 true ⟨⟨by decide, by decide⟩, ⟨by decide, by decide⟩⟩
  have e1 : feE sA 2 = 0 := rfl
  have e3 : feO upR sA 2 true 0 19 = none := rfl
  rw [e1, e3] at k
  refine Calls.mono k ?_
  rintro e w' ⟨v, rfl, rfl, fr, bk, m⟩
  exact ⟨rfl, m⟩
theorem stateA {w : World} {bb mb b : Nat} (h : BookA w bb mb [(upR, sA, b)]) : CalcN 17 #[.pointer (some ⟨bb, 0, none⟩), .string ⟨#[117, 112]⟩] w (.tuple #[.int .i64 3, .bool true]) :=
  state_any h upR sA List.mem_cons_self (by decide)
set_option maxRecDepth 100000 in
set_option maxHeartbeats 4000000 in
theorem alive_spec (w : World) : Calls Try.prog 11 #[] w fun e w' => e = .returned (.bool true) ∧ Below w.heap.size w w' := by
  have ku := up_spec
  unfold ruV at ku
  simp only [upR] at ku
  go_enter Try.func11, Try.ntmps11
  go_wp2_with (go_at_call 26; refine (ku _).mono ?_; rintro e w1 ⟨rfl, b1⟩)
  have s1 := b1.size
  have R1 : Row (w1.alloc (.cells (ruL upR).toArray 53)) w1.heap.size 0 (ruL upR) := Row.new w1 _ _ _ rfl
  have B1 := hide (b1.alloc s1 (.cells (ruL upR).toArray 53))
  refine Calls.mono (new_one upR upOk (by decide) upMay _ _ 1 (rules_one R1)) ?_
  rintro e w2 ⟨bb, mb, b, rfl, bk, l1, l2, l3, k2⟩
  have B2 : Hid (Below w.heap.size w w2) := B1.out.trans (k2.mono B1.out.size)
  have BK := hide bk
  have LB : Hid (w.heap.size ≤ b) := by have := B1.out.size; exact Nat.le_trans this l3
  clear B1 R1 bk l1 l2 l3 k2 b1 s1
  go_wp2_with (first | (go_at_call 27; refine (of25 _).mono ?_; rintro e w3 ⟨rfl, b3⟩))
  refine Calls.mono (feed25 (BK.out.later b3)) ?_
  rintro e w4 ⟨g, rfl, row, bk4, m4, lg⟩
  have B3 : Hid (Below w.heap.size w w3) := B2.out.trans (b3.mono B2.out.size)
  have B4 : Hid (Below w.heap.size w w4) := B3.out.trans (m4.below B3.out.size (by have := LB.out; intro x hx; simp at hx; omega))
  have BK4 := hide bk4
  have t2 := row.at0 2 _ rfl
  have t3 := row.at0 3 _ rfl
  have tl := row.lt
  clear bk4 m4 lg b3 BK B2 B3 row
  go_wp2_with (first | (go_at_call 17; refine Calls.mono (stateA BK4.out) ?_; rintro e w' ⟨rfl, rfl⟩) | (go_at_call 27; refine (of19 _).mono ?_; rintro e w5 ⟨rfl, b5⟩))
  refine Calls.mono (feed19 (BK4.out.later b5)) ?_
  rintro e w6 ⟨rfl, m6⟩
  have B5 : Below w.heap.size w w5 := B4.out.trans (b5.mono B4.out.size)
  have B6 : Below w.heap.size w w6 := B5.trans (m6.below B5.size (by have := LB.out; intro x hx; simp at hx; omega))
  clear m6 b5 t2 t3
  go_wp2_with fail
  go_returns
  exact ⟨rfl, B6⟩
end Go.Proofs.Ytnlefakicjojdaa
/- AlarmNobody. -/
namespace Go.Proofs.Ytnlefakicjojdaa
set_option linter.unusedVariables false
set_option linter.unusedSimpArgs false
open Go.RowKit W Go.Maps
def opV (kd : Int) (nm : ByteArray) (t : Int) (is : Bool) (v1 v0 : Int) : Value := .agg #[.int .i64 kd, .string nm, .int .i64 t, .bool is, .int .i64 v1, .int .u64 v0]
set_option maxRecDepth 100000 in
set_option maxHeartbeats 4000000 in
theorem law_AlarmNobody (kd : Int) (nm : ByteArray) (t : Int) (is : Bool) (v1 v0 : Int) (w : World) :
    Calls Try.prog 8 #[opV kd nm t is v1 v0] w fun e w' => e = .returned (.bool true) ∧ Below w.heap.size w w' := by
  have N1 := fun (W : World) => Unm.later (w := W) (w' := W) (v := .pointer none) (.inl rfl) (Below.refl _ _)
  have fn := fun (W : World) => feed_not (N1 W) nm t v1 v0 is
  have mn := fun (W : World) => mute_not (N1 W) nm t
  have sn := fun (W : World) => state_not (N1 W) nm
  have RO := hide (Row.new w [.int .i64 kd, .string nm, .int .i64 t, .bool is, .int .i64 v1, .int .u64 v0] 40 _ rfl)
  have B0 : Below w.heap.size w (w.alloc (.cells [.int .i64 kd, .string nm, .int .i64 t, .bool is, .int .i64 v1, .int .u64 v0].toArray 40)) := (Below.refl _ _).alloc (Nat.le_refl _) _
  clear N1
  unfold opV
  go_enter Try.func8, Try.ntmps8
  go_wp2_with fail
  refine (fn _).mono ?_
  rintro e w3 ⟨rfl, k3⟩
  have U3 : Hid (Unm w3 (.pointer (some ⟨w.heap.size + 1, 0, none⟩))) := Unm.later (.inr ⟨w.heap.size + 1, rfl, by simp [go_sem], by simp⟩) k3
  have B3 : Hid (Below w.heap.size w w3) := (B0.alloc (by simp) _).trans (k3.mono (by simp; omega))
  have R3 := hide ((RO.out.later ((Below.refl _ _).alloc (Nat.le_refl _) _)).later k3)
  have c1 := R3.out.at0 1 _ rfl
  have c2 := R3.out.at0 2 _ rfl
  have c3 := R3.out.at0 3 _ rfl
  have c4 := R3.out.at0 4 _ rfl
  have c5 := R3.out.at0 5 _ rfl
  have l3 := R3.out.lt
  clear k3 B0 RO
  go_wp2_with fail
  refine (feed_not U3.out nm t v1 v0 is).mono ?_
  rintro e w4 ⟨rfl, k4⟩
  have U4 := hide (U3.out.later k4)
  have B4 : Hid (Below w.heap.size w w4) := B3.out.trans (k4.mono B3.out.size)
  have R4 := hide (R3.out.later k4)
  have c1 := R4.out.at0 1 _ rfl
  have c2 := R4.out.at0 2 _ rfl
  have l4 := R4.out.lt
  have sc := state_not U4.out nm
  clear k4 c3 c4 c5 l3
  go_wp2_with (first | (go_at_call 17; first | (with_reducible refine Calls.mono (sn _) ?_; rintro e w' ⟨rfl, rfl⟩) | (with_reducible refine Calls.mono sc ?_; rintro e w' ⟨rfl, rfl⟩)))
  refine (alive_spec _).mono ?_
  rintro e w5 ⟨rfl, k5⟩
  have U5 := hide (U4.out.later k5)
  have B5 : Below w.heap.size w w5 := B4.out.trans (k5.mono B4.out.size)
  have R5 := hide (R4.out.later k5)
  have c1 := R5.out.at0 1 _ rfl
  have c2 := R5.out.at0 2 _ rfl
  have l5 := R5.out.lt
  have mc := mute_not U5.out nm t
  clear k5 l4 sc
  go_wp2_with (first | (go_at_call 15; first | (with_reducible refine Calls.mono (mn _) ?_; rintro e w' ⟨rfl, rfl⟩) | (with_reducible refine Calls.mono mc ?_; rintro e w' ⟨rfl, rfl⟩)))
  go_returns
  exact ⟨rfl, B5⟩
end Go.Proofs.Ytnlefakicjojdaa
/- alarm: how rules, calls and lists of them read. -/
namespace Go.Proofs.Ytnlefakicjojdaa
set_option linter.unusedVariables false
set_option linter.unusedSimpArgs false
open Go.RowKit W Go.Maps Go.ChangeShapes Go.WideShapes
section
variable {H : Type} {enc : TypeId × Value → H} {w : World} {base : Nat} {sp : Nat → Bool} {held : Bool} {fuel : Nat} {cs : List Value} {x : DataW H × List MemPlace}
theorem cells36 : Try.prog.cellsOf 36 = 2 := by kernel_rfl
theorem cells38 : Try.prog.cellsOf 38 = 3 := by kernel_rfl
theorem cells53 : Try.prog.cellsOf 53 = 11 := by kernel_rfl
theorem cells40 : Try.prog.cellsOf 40 = 6 := by kernel_rfl
theorem c1i : Try.prog.cellsOf 2 = 1 := by kernel_rfl
theorem c1n : Try.prog.cellsOf 3 = 1 := by kernel_rfl
theorem c1u : Try.prog.cellsOf 34 = 1 := by kernel_rfl
theorem c1b : Try.prog.cellsOf 4 = 1 := by kernel_rfl
theorem c1s : Try.prog.cellsOf 9 = 1 := by kernel_rfl
theorem len2 {α : Type} {l : List α} (h : l.length = 2) : ∃ a b, l = [a, b] := by
  rcases l with _ | ⟨a, _ | ⟨b, _ | ⟨c, l⟩⟩⟩ <;> simp at h
  exact ⟨a, b, rfl⟩
theorem len3 {α : Type} {l : List α} (h : l.length = 3) : ∃ a b c, l = [a, b, c] := by
  rcases l with _ | ⟨a, l⟩
  · simp at h
  · obtain ⟨b, c, rfl⟩ := len2 (by simpa using h)
    exact ⟨a, b, c, rfl⟩
theorem len4 {α : Type} {l : List α} (h : l.length = 4) : ∃ a b c d, l = [a, b, c, d] := by
  rcases l with _ | ⟨a, l⟩
  · simp at h
  · obtain ⟨b, c, d, rfl⟩ := len3 (by simpa using h)
    exact ⟨a, b, c, d, rfl⟩
theorem len6 {α : Type} {l : List α} (h : l.length = 6) : ∃ a b c d e f, l = [a, b, c, d, e, f] := by
  rcases l with _ | ⟨a, _ | ⟨b, l⟩⟩
  · simp at h
  · simp at h
  · obtain ⟨c, d, e, f, rfl⟩ := len4 (by simpa using h)
    exact ⟨a, b, c, d, e, f, rfl⟩
theorem len8 {α : Type} {l : List α} (h : l.length = 8) : ∃ a b c d e f g i, l = [a, b, c, d, e, f, g, i] := by
  rcases l with _ | ⟨a, _ | ⟨b, l⟩⟩
  · simp at h
  · simp at h
  · obtain ⟨c, d, e, f, g, i, rfl⟩ := len6 (by simpa using h)
    exact ⟨a, b, c, d, e, f, g, i, rfl⟩
theorem len11 {α : Type} {l : List α} (h : l.length = 11) : ∃ a b c d e f g i j k m, l = [a, b, c, d, e, f, g, i, j, k, m] := by
  rcases l with _ | ⟨a, _ | ⟨b, _ | ⟨c, l⟩⟩⟩
  · simp at h
  · simp at h
  · simp at h
  · obtain ⟨d, e, f, g, i, j, k, m, rfl⟩ := len8 (by simpa using h)
    exact ⟨a, b, c, d, e, f, g, i, j, k, m, rfl⟩
theorem rd_wide (h : DataW.trod enc Try.prog w base sp held fuel 36 cs = some x) : ∃ a b, cs = [.int .i64 a, .int .u64 b] ∧ IsW (a, b) := by
  obtain ⟨xs, n, _, _, hl, hxl, hf⟩ := DataW.trod_struct Try.underlying36 h
  rw [cells36] at hl
  have hxl : xs.length = 2 := by simpa using hxl
  obtain ⟨v0, v1, rfl⟩ := len2 hl
  obtain ⟨y0, y1, rfl⟩ := len2 hxl
  have g0 := hf 0 _ rfl
  have g1 := hf 1 _ rfl
  simp [c1i, c1u] at g0 g1
  obtain ⟨a, e0, _, w0⟩ := DataW.trod_int Try.underlying2 g0
  obtain ⟨b, e1, _, w1⟩ := DataW.trod_int Try.underlying34 g1
  simp at e0 e1
  subst e0 e1
  exact ⟨a, b, rfl, ⟨hi_of_wf w0, lo_of_wf w1⟩⟩
theorem rd_cell (h : DataW.trod enc Try.prog w base sp held fuel 38 cs = some x) : ∃ is a b, cs = [.bool is, .int .i64 a, .int .u64 b] ∧ IsW (a, b) := by
  obtain ⟨xs, n, _, _, hl, hxl, hf⟩ := DataW.trod_struct Try.underlying38 h
  rw [cells38] at hl
  have hxl : xs.length = 2 := by simpa using hxl
  obtain ⟨v0, v1, v2, rfl⟩ := len3 hl
  obtain ⟨y0, y1, rfl⟩ := len2 hxl
  have g0 := hf 0 _ rfl
  have g1 := hf 1 _ rfl
  simp [c1b, cells36] at g0 g1
  obtain ⟨is, e0, _⟩ := DataW.trod_bool Try.underlying4 g0
  obtain ⟨a, b, e1, iw⟩ := rd_wide g1
  simp at e0 e1
  obtain ⟨e1, e2⟩ := e1
  subst e0 e1 e2
  exact ⟨is, a, b, rfl, iw⟩
theorem rd_op (h : DataW.trod enc Try.prog w base sp held fuel 40 cs = some x) : ∃ kd nm t is a b, cs = [.int .i64 kd, .string nm, .int .i64 t, .bool is, .int .i64 a, .int .u64 b] ∧ IsW (a, b) ∧ nm.size ≤ maxLen := by
  obtain ⟨xs, n, _, _, hl, hxl, hf⟩ := DataW.trod_struct Try.underlying40 h
  rw [cells40] at hl
  have hxl : xs.length = 4 := by simpa using hxl
  obtain ⟨v0, v1, v2, v3, v4, v5, rfl⟩ := len6 hl
  obtain ⟨y0, y1, y2, y3, rfl⟩ := len4 hxl
  have g0 := hf 0 _ rfl
  have g1 := hf 1 _ rfl
  have g2 := hf 2 _ rfl
  have g3 := hf 3 _ rfl
  simp [c1n, c1s, c1i, cells38] at g0 g1 g2 g3
  obtain ⟨kd, e0, _, _⟩ := DataW.trod_int Try.underlying3 g0
  obtain ⟨nm, e1, _, ws⟩ := DataW.trod_string Try.underlying9 g1
  obtain ⟨t, e2, _, _⟩ := DataW.trod_int Try.underlying2 g2
  obtain ⟨is, a, b, e3, iw⟩ := rd_cell g3
  simp at e0 e1 e2 e3
  obtain ⟨e3, e4, e5⟩ := e3
  subst e0 e1 e2 e3 e4 e5
  exact ⟨kd, nm, t, is, a, b, rfl, iw, ws⟩
theorem rd_rule (h : DataW.trod enc Try.prog w base sp held fuel 53 cs = some x) : ∃ R : Ru, cs = ruL R ∧ RuW R ∧ R.nm.size ≤ maxLen := by
  obtain ⟨xs, n, _, _, hl, hxl, hf⟩ := DataW.trod_struct Try.underlying53 h
  rw [cells53] at hl
  have hxl : xs.length = 8 := by simpa using hxl
  obtain ⟨v0, v1, v2, v3, v4, v5, v6, v7, v8, v9, v10, rfl⟩ := len11 hl
  obtain ⟨y0, y1, y2, y3, y4, y5, y6, y7, rfl⟩ := len8 hxl
  have g0 := hf 0 _ rfl
  have g1 := hf 1 _ rfl
  have g2 := hf 2 _ rfl
  have g3 := hf 3 _ rfl
  have g4 := hf 4 _ rfl
  have g5 := hf 5 _ rfl
  have g6 := hf 6 _ rfl
  have g7 := hf 7 _ rfl
  simp [c1n, c1s, c1i, c1b, cells36] at g0 g1 g2 g3 g4 g5 g6 g7
  obtain ⟨nm, e0, _, ws⟩ := DataW.trod_string Try.underlying9 g0
  obtain ⟨ab, e1, _⟩ := DataW.trod_bool Try.underlying4 g1
  obtain ⟨w1, w0, e2, iw⟩ := rd_wide g2
  obtain ⟨c1, c0, e3, ic⟩ := rd_wide g3
  obtain ⟨s1, s0, e4, is⟩ := rd_wide g4
  obtain ⟨fr, e5, _, _⟩ := DataW.trod_int Try.underlying3 g5
  obtain ⟨an, e6, _, _⟩ := DataW.trod_int Try.underlying3 g6
  obtain ⟨ag, e7, _, _⟩ := DataW.trod_int Try.underlying2 g7
  simp at e0 e1 e2 e3 e4 e5 e6 e7
  obtain ⟨e2, f2⟩ := e2
  obtain ⟨e3, f3⟩ := e3
  obtain ⟨e4, f4⟩ := e4
  subst e0 e1 e2 e3 e4 e5 e6 e7 f2 f3 f4
  exact ⟨⟨nm, ab, w1, w0, c1, c0, s1, s0, fr, an, ag⟩, rfl, ⟨iw, ic, is⟩, ws⟩
end
/-- A call of a script. -/
structure Op6 where
  kd : Int
  nm : ByteArray
  t : Int
  is : Bool
  v1 : Int
  v0 : Int
def opL (o : Op6) : List Value := [.int .i64 o.kd, .string o.nm, .int .i64 o.t, .bool o.is, .int .i64 o.v1, .int .u64 o.v0]
/-- A script as its cells hold it. -/
structure ScAt (w : World) (g o : Nat) (L : List Op6) : Prop where
  lt : g < w.heap.size
  cell : ∀ j (hj : j < L.length) k v, (opL L[j])[k]? = some v → w.cell? ⟨g, o + j * 6 + k, none⟩ = some v
theorem ScAt.later {w w' : World} {g o : Nat} {L : List Op6} (h : ScAt w g o L) (k : Below w.heap.size w w') : ScAt w' g o L :=
  ⟨Nat.lt_of_lt_of_le h.lt k.size, fun j hj i v e => (k.cell (p := ⟨g, o + j * 6 + i, none⟩) h.lt).trans (h.cell j hj i v e)⟩
def IsSc (w : World) (a : Option Addr) (L : List Op6) : Prop := (∀ q ∈ L, IsW (q.v1, q.v0) ∧ q.nm.size ≤ maxLen) ∧ (L = [] ∨ ∃ g o, a = some ⟨g, o, none⟩ ∧ ScAt w g o L)
end Go.Proofs.Ytnlefakicjojdaa
/- Plain numbers: lists of limbs of 16 bits, the lowest first, as whole numbers. No Go in sight. -/
namespace Go.Proofs.Ytnlefakicjojdaa
set_option linter.unusedVariables false
namespace Lb
def val : List Int → Int
  | [] => 0
  | x :: l => x + 65536 * val l
def pw : Nat → Int
  | 0 => 1
  | n + 1 => 65536 * pw n
theorem pw_pos (n : Nat) : 0 < pw n := by induction n with | zero => decide | succ n ih => show 0 < 65536 * pw n; omega
theorem pw_add (m n : Nat) : pw (m + n) = pw m * pw n := by
  induction m with
  | zero => simp [pw]
  | succ m ih => rw [Nat.succ_add]; show 65536 * pw (m + n) = 65536 * pw m * pw n; rw [ih, Int.mul_assoc]
theorem pw_mono {m n : Nat} (h : m ≤ n) : pw m ≤ pw n := by
  obtain ⟨k, rfl⟩ := Nat.exists_eq_add_of_le h
  rw [pw_add]
  have a := pw_pos m; have b := pw_pos k
  have : pw m * 1 ≤ pw m * pw k := Int.mul_le_mul_of_nonneg_left (by omega) (by omega)
  omega
/-- Each limb has 16 bits. -/
def Ok (l : List Int) : Prop := ∀ x ∈ l, 0 ≤ x ∧ x < 65536
/-- No 0 at the top. -/
def Top (l : List Int) : Prop := l = [] ∨ l.getD (l.length - 1) 0 ≠ 0
theorem ok_nil : Ok [] := by intro x h; simp at h
theorem ok_snoc {l : List Int} {x : Int} (h : Ok l) (a : 0 ≤ x) (b : x < 65536) : Ok (l ++ [x]) := by
  intro y hy; rcases List.mem_append.1 hy with h1 | h1
  · exact h y h1
  · rw [List.mem_singleton] at h1; subst h1; exact ⟨a, b⟩
theorem ok_take {l : List Int} (h : Ok l) (k : Nat) : Ok (l.take k) := fun x hx => h x (List.mem_of_mem_take hx)
theorem ok_at {l : List Int} (h : Ok l) (k : Nat) : 0 ≤ l.getD k 0 ∧ l.getD k 0 < 65536 := by
  by_cases hk : k < l.length
  · simp only [List.getD, List.getElem?_eq_getElem hk, Option.getD_some]; exact h _ (List.getElem_mem _)
  · simp [List.getD, List.getElem?_eq_none (Nat.le_of_not_lt hk)]
theorem at_out {l : List Int} {k : Nat} (hk : l.length ≤ k) : l.getD k 0 = 0 := by simp [List.getD, List.getElem?_eq_none hk]
theorem val_append (l m : List Int) : val (l ++ m) = val l + pw l.length * val m := by
  induction l with
  | nil => simp [val, pw]
  | cons x l ih => simp only [List.cons_append, val, ih, List.length_cons, pw]; grind
theorem val_snoc (l : List Int) (x : Int) : val (l ++ [x]) = val l + pw l.length * x := by rw [val_append]; simp [val]
theorem val_zero (l : List Int) (n : Nat) : val (l ++ List.replicate n 0) = val l := by
  have : val (List.replicate n (0 : Int)) = 0 := by induction n with | zero => rfl | succ n ih => simp [List.replicate_succ, val, ih]
  rw [val_append, this]; simp
theorem val_take (l : List Int) (k : Nat) : val (l.take (k + 1)) = val (l.take k) + pw k * l.getD k 0 := by
  by_cases hk : k < l.length
  · rw [List.take_succ_eq_append_getElem hk, val_snoc, List.length_take_of_le (Nat.le_of_lt hk)]
    simp [List.getD, List.getElem?_eq_getElem hk]
  · rw [List.take_of_length_le (by omega), List.take_of_length_le (by omega), at_out (by omega)]; simp
theorem val_nonneg {l : List Int} (h : Ok l) : 0 ≤ val l := by
  induction l with
  | nil => simp [val]
  | cons x l ih =>
    have := ih (fun y hy => h y (List.mem_cons_of_mem _ hy)); have := (h x (List.mem_cons_self ..)).1
    simp only [val]; omega
theorem val_lt {l : List Int} (h : Ok l) : val l < pw l.length := by
  induction l with
  | nil => simp [val, pw]
  | cons x l ih =>
    have := ih (fun y hy => h y (List.mem_cons_of_mem _ hy)); have := (h x (List.mem_cons_self ..)).2
    simp only [val, List.length_cons, pw]; omega
theorem val_lt' {l : List Int} (h : Ok l) {n : Nat} (hn : l.length ≤ n) : val l < pw n := Int.lt_of_lt_of_le (val_lt h) (pw_mono hn)
/-- A list with no 0 at the top is not below the power of its length less one. -/
theorem val_ge {l : List Int} (h : Ok l) (t : Top l) (n : Nat) (hn : l.length = n + 1) : pw n ≤ val l := by
  have e : val l = val (l.take n) + pw n * l.getD n 0 := by
    have := val_take l n; rwa [List.take_of_length_le (by omega)] at this
  have a := val_nonneg (ok_take h n)
  have b := ok_at h n
  have c : l.getD n 0 ≠ 0 := by
    rcases t with rfl | t
    · simp at hn
    · rwa [hn] at t
  have p := pw_pos n
  have : pw n * 1 ≤ pw n * l.getD n 0 := Int.mul_le_mul_of_nonneg_left (by omega) (by omega)
  omega
theorem val_lt_of_length {a b : List Int} (ha : Ok a) (hb : Ok b) (tb : Top b) (h : a.length < b.length) : val a < val b := by
  obtain ⟨n, hn⟩ : ∃ n, b.length = n + 1 := ⟨b.length - 1, by omega⟩
  have := val_ge hb tb n hn
  have := val_lt' ha (show a.length ≤ n by omega)
  omega
theorem length_le_of_val {a b : List Int} (ha : Ok a) (ta : Top a) (hb : Ok b) (h : val a ≤ val b) : a.length ≤ b.length := by
  apply Decidable.byContradiction; intro g
  have := val_lt_of_length hb ha ta (by omega); omega
theorem val_eq_zero {l : List Int} (h : Ok l) (t : Top l) (e : val l = 0) : l = [] := by
  cases l with
  | nil => rfl
  | cons x l => have := val_ge h t l.length (by simp); have := pw_pos l.length; omega
/-- The same number, the same list. -/
theorem val_inj_len {a b : List Int} (ha : Ok a) (hb : Ok b) (h : a.length = b.length) (e : val a = val b) : a = b := by
  induction a generalizing b with
  | nil => cases b with | nil => rfl | cons y b => simp at h
  | cons x a ih =>
    cases b with
    | nil => simp at h
    | cons y b =>
      have h1 := ha x (List.mem_cons_self ..); have h2 := hb y (List.mem_cons_self ..)
      simp only [val] at e
      have e1 : x = y := by omega
      have e2 : val a = val b := by omega
      rw [e1, ih (fun z hz => ha z (List.mem_cons_of_mem _ hz)) (fun z hz => hb z (List.mem_cons_of_mem _ hz)) (by simpa using h) e2]
theorem val_inj {a b : List Int} (ha : Ok a) (ta : Top a) (hb : Ok b) (tb : Top b) (e : val a = val b) : a = b :=
  val_inj_len ha hb (Nat.le_antisymm (length_le_of_val ha ta hb (by omega)) (length_le_of_val hb tb ha (by omega))) e
/-- The list without zeros at the top, by its length. -/
def top : List Int → Nat → Nat
  | _, 0 => 0
  | l, n + 1 => if l.getD n 0 = 0 then top l n else n + 1
theorem top_le (l : List Int) (n : Nat) : top l n ≤ n := by
  induction n with
  | zero => simp [top]
  | succ n ih => simp only [top]; split <;> omega
theorem val_top (l : List Int) (n : Nat) : val (l.take (top l n)) = val (l.take n) := by
  induction n with
  | zero => simp [top]
  | succ n ih =>
    simp only [top]; split
    · next h => rw [ih, val_take, h]; simp
    · rfl
theorem top_top (l : List Int) (n : Nat) (hn : n ≤ l.length) : Top (l.take (top l n)) := by
  induction n with
  | zero => left; simp [top]
  | succ n ih =>
    simp only [top]; split
    · exact ih (by omega)
    · next h =>
      right
      rw [List.length_take_of_le hn]
      simp only [Nat.add_sub_cancel]
      rw [List.getD_eq_getElem?_getD, List.getElem?_take_of_lt (by omega)]
      simpa [List.getD_eq_getElem?_getD] using h
/-- One round of a sum. -/
theorem add_round {o : List Int} {a b : List Int} {i : Nat} {c x y s : Int} (hx : x = a.getD i 0) (hy : y = b.getD i 0) (hs : s = x + y + c) (ho : o.length = i)
    (h : val o + pw i * c = val (a.take i) + val (b.take i)) : val (o ++ [s % 65536]) + pw (i + 1) * (s / 65536) = val (a.take (i + 1)) + val (b.take (i + 1)) := by
  have e : s % 65536 + 65536 * (s / 65536) = s := by omega
  rw [val_snoc, val_take, val_take, ho, ← hx, ← hy]; simp only [pw]
  generalize s % 65536 = r at *; generalize s / 65536 = q at *
  grind
/-- One round of a difference. -/
theorem sub_round {o : List Int} {a b : List Int} {i : Nat} {c x y s : Int} (hx : x = a.getD i 0) (hy : y = b.getD i 0) (hs : s = x + 65536 - y - c) (ho : o.length = i)
    (h : val o + val (b.take i) = val (a.take i) + pw i * c) : val (o ++ [s % 65536]) + val (b.take (i + 1)) = val (a.take (i + 1)) + pw (i + 1) * (1 - s / 65536) := by
  have e : s % 65536 + 65536 * (s / 65536) = s := by omega
  rw [val_snoc, val_take, val_take, ho, ← hx, ← hy]; simp only [pw]
  generalize s % 65536 = r at *; generalize s / 65536 = q at *
  grind
/-- One limb of a list turned into another. -/
theorem val_set (l : List Int) (k : Nat) (hk : k < l.length) (x : Int) : val (l.set k x) = val l + pw k * (x - l.getD k 0) := by
  induction l generalizing k with
  | nil => simp at hk
  | cons y l ih =>
    cases k with
    | zero => simp [val, pw, List.getD]; omega
    | succ k =>
      have := ih k (by simpa using hk)
      simp only [List.set_cons_succ, val, this, pw]
      simp only [List.getD_cons_succ]
      grind
theorem ok_set {l : List Int} (h : Ok l) (k : Nat) {x : Int} (a : 0 ≤ x) (b : x < 65536) : Ok (l.set k x) := by
  intro y hy; rcases List.mem_or_eq_of_mem_set hy with h1 | h1
  · exact h y h1
  · subst h1; exact ⟨a, b⟩
/-- One step of a row of a product. -/
theorem mul_step {o : List Int} {a b : List Int} {i j : Nat} {c x y s P : Int} (hk : i + j < o.length) (hy : y = b.getD j 0) (hs : s = o.getD (i + j) 0 + x * y + c)
    (h : val o + pw (i + j) * c = P + pw i * (x * val (b.take j))) : val (o.set (i + j) (s % 65536)) + pw (i + (j + 1)) * (s / 65536) = P + pw i * (x * val (b.take (j + 1))) := by
  have e : s % 65536 + 65536 * (s / 65536) = s := by omega
  rw [val_set _ _ hk, val_take, ← hy]
  have e2 : pw (i + (j + 1)) = 65536 * pw (i + j) := by rw [← Nat.add_assoc]; rfl
  have e3 : pw (i + j) = pw i * pw j := pw_add i j
  rw [e2]
  generalize o.getD (i + j) 0 = z at *; generalize s % 65536 = r at *; generalize s / 65536 = q at *
  generalize pw (i + j) = p at *
  grind
end Lb
end Go.Proofs.Ytnlefakicjojdaa
/- Plain numbers: limbs as words, bits of a list of limbs, division bit by bit, roots. -/
namespace Go.Proofs.Ytnlefakicjojdaa
set_option linter.unusedVariables false
namespace Lb
def p2 : Nat → Int
  | 0 => 1
  | n + 1 => 2 * p2 n
theorem p2_pos (n : Nat) : 0 < p2 n := by induction n with | zero => decide | succ n ih => show 0 < 2 * p2 n; omega
theorem p2_add (m n : Nat) : p2 (m + n) = p2 m * p2 n := by
  induction m with
  | zero => simp [p2]
  | succ m ih => rw [Nat.succ_add]; show 2 * p2 (m + n) = 2 * p2 m * p2 n; rw [ih, Int.mul_assoc]
theorem p2_pow (n : Nat) : p2 n = 2 ^ n := by
  induction n with
  | zero => rfl
  | succ n ih => show 2 * p2 n = _; rw [ih, Int.pow_succ]; omega
theorem p2_16 : p2 16 = 65536 := by decide
theorem p2_pw (n : Nat) : p2 (16 * n) = pw n := by
  induction n with
  | zero => rfl
  | succ n ih => rw [show 16 * (n + 1) = 16 + 16 * n by omega, p2_add, ih, p2_16]; rfl
/-- A limb of a list, by the number. -/
theorem at_val {l : List Int} (h : Ok l) (k : Nat) : l.getD k 0 = val l / pw k % 65536 := by
  induction l generalizing k with
  | nil => simp [val]
  | cons x l ih =>
    have hx := h x (List.mem_cons_self ..)
    have hl : Ok l := fun y hy => h y (List.mem_cons_of_mem _ hy)
    cases k with
    | zero => simp only [List.getD_cons_zero, val, pw]; omega
    | succ k =>
      rw [List.getD_cons_succ, ih hl k]
      simp only [val, pw]
      have : (x + 65536 * val l) / (65536 * pw k) = val l / pw k := by
        rw [← Int.ediv_ediv_of_nonneg (by omega)]
        congr 1; omega
      rw [this]
theorem bit_val {l : List Int} (h : Ok l) (i : Nat) : l.getD (i / 16) 0 / p2 (i % 16) % 2 = val l / p2 i % 2 := by
  rw [at_val h]
  have e : p2 i = pw (i / 16) * p2 (i % 16) := by rw [← p2_pw, ← p2_add]; congr 1; omega
  rw [e, ← Int.ediv_ediv_of_nonneg (Int.le_of_lt (pw_pos _))]
  generalize val l / pw (i / 16) = y
  have h16 : (65536 : Int) = p2 (i % 16) * p2 (16 - i % 16) := by rw [← p2_add, ← p2_16]; congr 1; omega
  have hp := p2_pos (i % 16)
  obtain ⟨m, hm⟩ : ∃ m, 16 - i % 16 = m + 1 := ⟨15 - i % 16, by omega⟩
  rw [hm] at h16
  have e2 : p2 (m + 1) = 2 * p2 m := rfl
  rw [e2] at h16
  -- y % 65536 / q % 2 = y / q % 2
  have e3 : y % 65536 = y - 65536 * (y / 65536) := by omega
  rw [e3, h16]
  generalize y / (p2 (i % 16) * (2 * p2 m)) = z
  have e4 : y - p2 (i % 16) * (2 * p2 m) * z = y + p2 (i % 16) * (-(2 * (p2 m * z))) := by grind
  rw [e4, Int.add_mul_ediv_left _ _ (by omega)]
  omega
/-- The limbs of a word, eight or four of them. -/
def words : Nat → Int → List Int
  | 0, _ => []
  | n + 1, x => x % 65536 :: words n (x / 65536)
theorem words_len (n : Nat) (x : Int) : (words n x).length = n := by induction n generalizing x with | zero => rfl | succ n ih => simp [words, ih]
theorem words_ok (n : Nat) (x : Int) : Ok (words n x) := by
  induction n generalizing x with
  | zero => exact ok_nil
  | succ n ih =>
    intro y hy; simp only [words, List.mem_cons] at hy
    rcases hy with rfl | hy
    · omega
    · exact ih _ y hy
theorem words_val (n : Nat) (x : Int) (h0 : 0 ≤ x) (h : x < pw n) : val (words n x) = x := by
  induction n generalizing x with
  | zero => simp [words, val]; simp [pw] at h; omega
  | succ n ih =>
    simp only [words, val]
    rw [ih (x / 65536) (by omega) (by simp only [pw] at h; omega)]; omega
theorem words_snoc (n : Nat) (x : Int) : words (n + 1) x = words n x ++ [x / pw n % 65536] := by
  induction n generalizing x with
  | zero => simp [words, pw]
  | succ n ih =>
    rw [words, ih]; simp only [words, List.cons_append, pw]
    rw [← Int.ediv_ediv_of_nonneg (by omega)]
/-- One round of a division by bits: a the number, m + 1 bits were left, m are. -/
theorem div_round {A Q b r r2 : Int} {m : Nat} (h : A / p2 (m + 1) = Q * b + r) (e : r2 = 2 * r + A / p2 m % 2) : A / p2 m = (2 * Q) * b + r2 := by
  have : A / p2 (m + 1) = A / p2 m / 2 := by
    show A / (2 * p2 m) = _
    rw [Int.mul_comm, ← Int.ediv_ediv_of_nonneg (Int.le_of_lt (p2_pos m))]
  rw [this] at h
  generalize A / p2 m = x at *
  have : x = 2 * (x / 2) + x % 2 := by omega
  grind
end Lb
end Go.Proofs.Ytnlefakicjojdaa
/- Slices of limbs as they lie in memory. -/
namespace Go.Proofs.Ytnlefakicjojdaa
set_option linter.unusedVariables false
open Go.RowKit W Lb
theorem shape_new (w : World) (c : Array Value) (t : TypeId) (f : Nat × Nat) : (w.alloc (.cells c t f)).shape? w.heap.size = some (t, c.size) := by
  have : (w.alloc (.cells c t f)).heap[w.heap.size]? = some (.cells c t f) := by show (w.heap.push _)[w.heap.size]? = _; simp
  unfold World.shape?; rw [this]
theorem shape_top (w : World) (c : Array Value) (t : TypeId) (f : Nat × Nat) {n : Nat} (h : n = w.heap.size) : (w.alloc (.cells c t f)).shape? n = some (t, c.size) := by subst h; exact shape_new w c t f
theorem shape_old (w : World) (o : Obj) {b : Nat} (h : b < w.heap.size) : (w.alloc o).shape? b = w.shape? b := by
  unfold World.shape?; rw [Below.heap_alloc w o b h]
theorem shape_set (w : World) (a : Addr) (v : Value) (b : Nat) : (w.setCell a v).shape? b = w.shape? b := by
  unfold World.shape? World.setCell
  simp only [Array.getElem?_modify]
  by_cases h : a.block = b
  · rw [if_pos h]
    rcases w.heap[b]? with _ | o
    · rfl
    · cases o <;> simp only [Option.map_some]
      split <;> simp
  · rw [if_neg h]
theorem shape_later {w w' : World} {B b : Nat} (k : Below B w w') (h : b < B) : w'.shape? b = w.shape? b := by
  unfold World.shape?; rw [k.block b h]
theorem heap_of_shape {w : World} {b : Nat} {t : TypeId} {m : Nat} (h : w.shape? b = some (t, m)) : b < w.heap.size := by
  unfold World.shape? at h
  apply Decidable.byContradiction; intro g
  rw [Array.getElem?_eq_none (by omega)] at h; simp at h
/-- The slice v reads as the limbs l. -/
def Limbs (w : World) (v : Value) (l : List Int) : Prop :=
  (∃ p cap, l = [] ∧ v = .slice p 0 cap) ∨ ∃ b o cap, v = .slice (some ⟨b, o, none⟩) l.length cap ∧ l.length ≤ cap ∧ b < w.heap.size ∧ (∃ m, w.shape? b = some (101, m)) ∧ ∀ k, k < l.length → w.cell? ⟨b, o + k, none⟩ = some (.int .u32 (l.getD k 0))
theorem Limbs.form {w : World} {v : Value} {l : List Int} (h : Limbs w v l) : ∃ p cap, v = .slice p l.length cap := by
  rcases h with ⟨p, cap, rfl, rfl⟩ | ⟨b, o, cap, rfl, _⟩
  · exact ⟨_, _, rfl⟩
  · exact ⟨_, _, rfl⟩
theorem Limbs.later {w w' : World} {v : Value} {l : List Int} (h : Limbs w v l) (k : Below w.heap.size w w') : Limbs w' v l := by
  rcases h with h | ⟨b, o, cap, rfl, hc, hb, ⟨m, hs⟩, h⟩
  · exact .inl h
  · exact .inr ⟨b, o, cap, rfl, hc, Nat.lt_of_lt_of_le hb k.size, ⟨m, (shape_later k hb).trans hs⟩, fun j hj => (k.cell (p := ⟨b, o + j, none⟩) hb).trans (h j hj)⟩
theorem Limbs.nil (w : World) : Limbs w (.slice none 0 0) [] := .inl ⟨_, _, rfl, rfl⟩
theorem Limbs.take {w : World} {p : Option Addr} {n cap : Nat} {l : List Int} (h : Limbs w (.slice p n cap) l) (m : Nat) (hm : m ≤ n) : Limbs w (.slice p m cap) (l.take m) := by
  rcases h with ⟨q, c, rfl, e⟩ | ⟨b, o, c, e, hc, hb, hs, h⟩
  · simp only [Value.slice.injEq] at e
    obtain ⟨rfl, rfl, rfl⟩ := e
    obtain rfl : m = 0 := by omega
    exact .inl ⟨_, _, by simp, rfl⟩
  · simp only [Value.slice.injEq] at e
    obtain ⟨rfl, rfl, rfl⟩ := e
    have hl : (l.take m).length = m := List.length_take_of_le hm
    refine .inr ⟨b, o, cap, by rw [hl], by omega, hb, hs, fun k hk => ?_⟩
    rw [hl] at hk
    rw [h k (by omega)]
    congr 2
    simp [List.getD_eq_getElem?_getD, List.getElem?_take_of_lt hk]
theorem Limbs.of_own {w : World} {base n : Nat} {v : Value} {l : List Int} (h : w.ownsRow base 101 1 v n (l.map (Value.int .u32))) : Limbs w v l ∧ n = l.length := by
  have hn : n = l.length := by have := h.1; simpa using this.symm
  refine ⟨?_, hn⟩
  subst hn
  rcases h.2 with ⟨rfl, h0⟩ | ⟨g, cap, cur, rfl, hb, hg, hc, hm, hs, ht⟩
  · exact .inl ⟨none, 0, by simpa using h0, rfl⟩
  · refine .inr ⟨g, 0, cap, rfl, hc, (h.lt g rfl).2, ⟨cur.size, by unfold World.shape?; rw [hg]⟩, fun k hk => ?_⟩
    rw [Nat.zero_add, h.cellAt k (by omega)]
    simp [List.getElem?_eq_getElem hk, List.getD_eq_getElem?_getD]
theorem Limbs.set {w : World} {v : Value} {l : List Int} (h : Limbs w v l) {r i : Nat} {t : TypeId} {m : Nat} (hr : w.shape? r = some (t, m)) (ht : t ≠ 101) (x : Value) : Limbs (w.setCell ⟨r, i, none⟩ x) v l := by
  rcases h with h | ⟨b, o, cap, rfl, hc, hb, ⟨k, hs⟩, h⟩
  · exact .inl h
  · have ne : b ≠ r := by rintro rfl; rw [hs] at hr; simp only [Option.some.injEq, Prod.mk.injEq] at hr; exact ht hr.1.symm
    refine .inr ⟨b, o, cap, rfl, hc, by simpa [World.setCell] using hb, ⟨k, by rw [shape_set]; exact hs⟩, fun j hj => ?_⟩
    rw [← h j hj]
    exact World.cell?_of_block (w := w) (Below.heap_setCell w _ x b ne)
theorem info_u32 : (Try.prog.info? 101).map (fun i => (i.zero, i.size, i.bytes)) = some (some (.int .u32 0), 1, 4) := by kernel_rfl
theorem one_u32 {x : Int} : ∀ u ∈ [Value.int .u32 x], u.oneCell' = true := by intro u hu; rw [List.mem_singleton] at hu; subst hu; rfl
/-- A contract of a function that only computes. -/
abbrev Same (f : Nat) (args : Array Value) (w : World) (r : Value) : Prop := Calls Try.prog f args w fun e w' => e = .returned r ∧ w = w'
theorem still {f : FuncId} {args : Array Value} {w : World} {n : Nat} {v : Value} (h : Same f args (w.drewN n) v) : Calls Try.prog f args (w.drewN n) fun e u => e = .returned v ∧ ∃ m, u = w.drewN m :=
  h.mono fun e u q => ⟨q.1, ⟨n, q.2.symm⟩⟩
theorem limb_in (b o n cap i : Nat) (x : Int) (w : World) (hn : n ≤ 9223372036854775807) (h : i < n) (hc : w.cell? ⟨b, o + i, none⟩ = some (.int .u32 x)) :
    Same 60 #[.slice (some ⟨b, o, none⟩) n cap, .int .i64 i] w (.int .u32 x) := by
  go_enter Try.func60, Try.ntmps60
  go_wp2
  go_returns
  exact ⟨rfl, rfl⟩
theorem limb_out (p : Option Addr) (n cap i : Nat) (w : World) (hn : n ≤ i) (hi : i ≤ 9223372036854775807) :
    Same 60 #[.slice p n cap, .int .i64 i] w (.int .u32 0) := by
  go_enter Try.func60, Try.ntmps60
  go_wp2
  go_returns
  exact ⟨rfl, rfl⟩
theorem limb_spec (v : Value) (l : List Int) (i : Nat) (w : World) (H : Limbs w v l) (hl : l.length ≤ 9223372036854775807) (hi : i ≤ 9223372036854775807) :
    Same 60 #[v, .int .i64 i] w (.int .u32 (l.getD i 0)) := by
  by_cases h : i < l.length
  · rcases H with ⟨p, cap, rfl, rfl⟩ | ⟨b, o, cap, rfl, hc, hb, hs, hh⟩
    · simp at h
    · exact limb_in b o _ cap i _ w hl h (hh i h)
  · obtain ⟨p, cap, rfl⟩ := H.form
    rw [at_out (by omega)]
    exact limb_out p _ cap i w (by omega) hi
def lenV : Value → Nat | .slice _ n _ => n | _ => 0
theorem top_zero {l : List Int} {m : Nat} (h : l.getD m 0 = 0) : top l (m + 1) = top l m := by simp only [top]; rw [if_pos h]
theorem top_not {l : List Int} {m : Nat} (h : ¬ l.getD m 0 = 0) : top l (m + 1) = m + 1 := by simp only [top]; rw [if_neg h]
set_option maxHeartbeats 1000000 in
theorem trim_some (b o n cap : Nat) (l : List Int) (w : World) (hn : n ≤ 9223372036854775807) (hc : n ≤ cap) (hh : ∀ k, k < n → w.cell? ⟨b, o + k, none⟩ = some (.int .u32 (l.getD k 0))) :
    Same 59 #[.slice (some ⟨b, o, none⟩) n cap] w (.slice (some ⟨b, o, none⟩) (top l n) cap) := by
  have HH : Hid (∀ k, k < n → w.cell? ⟨b, o + k, none⟩ = some (.int .u32 (l.getD k 0))) := hh
  clear hh
  go_enter Try.func59, Try.ntmps59
  go_wp2
  go_loop [0] (fun v => ∃ m : Nat, m ≤ n ∧ v = .slice (some ⟨b, o, none⟩) m cap ∧ Hid (top l n = top l m)) (fun v => lenV v)
  case atStart => exact ⟨n, Nat.le_refl _, rfl, rfl⟩
  case round =>
    obtain ⟨m, hm, rfl, ht⟩ := hrel
    rcases m with _ | m
    · go_wp2
      go_returns
      exact ⟨by rw [ht.out]; rfl, rfl⟩
    · have hx := HH.out m (by omega)
      have h1 : ((m + 1 : Nat) : Int) - 1 = m := by omega
      by_cases hz : l.getD m 0 = 0
      · have HT : Hid (top l n = top l m) := ht.out.trans (top_zero hz)
        rw [hz] at hx
        clear ht hz
        go_wp2
        go_round
        case rel => exact ⟨m, by omega, rfl, HT⟩
        case measure => simp [lenV]
      · have HT : Hid (top l n = m + 1) := ht.out.trans (top_not hz)
        have hz' : (l.getD m 0 == 0) = false := by simpa using hz
        clear ht hz
        generalize l.getD m 0 = x at *
        go_wp2
        go_returns
        exact ⟨by rw [HT.out]; rfl, rfl⟩
theorem trim_none (p : Option Addr) (cap : Nat) (w : World) :
    Same 59 #[.slice p 0 cap] w (.slice p 0 cap) := by
  go_enter Try.func59, Try.ntmps59
  go_wp2
  refine wp_loop_rounds 1 ?_
  rw [rounds_succ]
  go_wp2
  go_returns
  exact ⟨rfl, rfl⟩
/-- trim: the same number without zeros at the top. -/
theorem trim_spec (v : Value) (l : List Int) (w : World) (H : Limbs w v l) (hl : l.length ≤ 9223372036854775807) :
    ∃ v', Same 59 #[v] w v' ∧ Limbs w v' (l.take (top l l.length)) := by
  rcases H with ⟨p, cap, rfl, rfl⟩ | ⟨b, o, cap, rfl, hc, hb, hs, hh⟩
  · exact ⟨_, trim_none p cap w, .inl ⟨p, cap, by simp, rfl⟩⟩
  · exact ⟨_, trim_some b o _ cap l w hl hc hh, Limbs.take (.inr ⟨b, o, cap, rfl, hc, hb, hs, hh⟩) _ (top_le _ _)⟩
theorem trim_at (p : Option Addr) (cap : Nat) (l : List Int) (w : World) (H : Limbs w (.slice p l.length cap) l) (hl : l.length ≤ 9223372036854775807) :
    Same 59 #[.slice p l.length cap] w (.slice p (top l l.length) cap) := by
  rcases H with ⟨q, c, rfl, e⟩ | ⟨b, o, c, e, hc, hb, hs, hh⟩
  · simp only [Value.slice.injEq] at e
    obtain ⟨rfl, _, rfl⟩ := e
    exact trim_none _ _ w
  · simp only [Value.slice.injEq] at e
    obtain ⟨rfl, _, rfl⟩ := e
    exact trim_some b o _ cap l w hl hc hh
/-- The answer's place lies from block B on. -/
def Fresh (B : Nat) (v : Value) : Prop := ∀ a n c, v = .slice (some a) n c → B ≤ a.block
theorem trim_own {w : World} {B n : Nat} {v : Value} {l : List Int} (h : w.ownsRow B 101 1 v n (l.map (Value.int .u32))) (hl : l.length ≤ 9223372036854775807) :
    ∃ v', Same 59 #[v] w v' ∧ Limbs w v' (l.take (top l l.length)) ∧ Fresh B v' := by
  obtain ⟨L, hn⟩ := Limbs.of_own h
  subst hn
  rcases h.2 with ⟨rfl, h0⟩ | ⟨g, cap, cur, rfl, hb, hg, hc, hm, hs, ht⟩
  · have e : l = [] := List.eq_nil_of_length_eq_zero h0
    subst e
    exact ⟨_, trim_none _ _ w, .inl ⟨_, _, by simp, rfl⟩, fun a n c e => by simp at e⟩
  · refine ⟨_, trim_at _ _ l w L hl, L.take _ (top_le _ _), fun a n c e => ?_⟩
    simp only [Value.slice.injEq, Option.some.injEq] at e
    obtain ⟨rfl, _⟩ := e
    exact hb
end Go.Proofs.Ytnlefakicjojdaa
/- Plain numbers: numbers with a sign as limbs; roots; digits of limbs. -/
namespace Go.Proofs.Ytnlefakicjojdaa
set_option linter.unusedVariables false
namespace Lb
/-- The limbs of a number's amount, without a 0 at the top. -/
structure Mag (l : List Int) (m : Int) : Prop where
  ok : Ok l
  top : Top l
  val : val l = m
theorem Mag.nonneg {l : List Int} {m : Int} (h : Mag l m) : 0 ≤ m := by rw [← h.val]; exact val_nonneg h.ok
theorem Mag.eq {a b : List Int} {m : Int} (h : Mag a m) (k : Mag b m) : a = b := val_inj h.ok h.top k.ok k.top (h.val.trans k.val.symm)
theorem Mag.len {l : List Int} {m : Int} (h : Mag l m) {n : Nat} (hm : m < pw n) : l.length ≤ n := by
  apply Decidable.byContradiction; intro g
  obtain ⟨k, hk⟩ : ∃ k, l.length = k + 1 := ⟨l.length - 1, by omega⟩
  have := val_ge h.ok h.top k hk
  have := pw_mono (show n ≤ k by omega)
  have := h.val
  omega
theorem Mag.nil : Mag [] 0 := ⟨ok_nil, .inl rfl, rfl⟩
theorem Mag.zero {l : List Int} (h : Mag l 0) : l = [] := h.eq Mag.nil
theorem Mag.nil_iff {l : List Int} {m : Int} (h : Mag l m) : l = [] ↔ m = 0 := by
  constructor
  · rintro rfl; rw [← h.val]; rfl
  · rintro rfl; exact h.zero
theorem Mag.lt_len {a b : List Int} {m n : Int} (h : Mag a m) (k : Mag b n) (hl : a.length < b.length) : m < n := by
  rw [← h.val, ← k.val]; exact val_lt_of_length h.ok k.ok k.top hl
theorem Mag.of_top {l : List Int} (h : Ok l) : Mag (l.take (Lb.top l l.length)) (Lb.val l) :=
  ⟨ok_take h _, top_top l _ (Nat.le_refl _), by rw [val_top, List.take_length]⟩
/-- A wide number's sign and amount. -/
def ab (v : Int) : Int := if v < 0 then -v else v
theorem ab_nonneg (v : Int) : 0 ≤ ab v := by unfold ab; split <;> omega
theorem ab_zero {v : Int} : ab v = 0 ↔ v = 0 := by unfold ab; split <;> omega
theorem ab_of {n : Bool} {m v : Int} (hm : 0 ≤ m) (h : v = if n then -m else m) : ab v = m ∧ (n && decide (0 < m)) = decide (v < 0) := by
  cases n <;> simp at h <;> subst h <;> unfold ab <;> constructor <;> simp <;> omega
/-- From the highest limb down: the lists from place i on. -/
theorem drop_val (l : List Int) (i : Nat) (h : i < l.length) : val (l.drop i) = l.getD i 0 + 65536 * val (l.drop (i + 1)) := by
  rw [List.drop_eq_getElem_cons h]; simp only [val]
  simp [List.getD_eq_getElem?_getD, List.getElem?_eq_getElem h]
/-- Where two lists part from the top. -/
theorem cmp_step {a b : List Int} {i : Nat} (ha : i < a.length) (hb : i < b.length) (oa : Ok a) (ob : Ok b) (hl : a.length = b.length) (e : val (a.drop (i + 1)) = val (b.drop (i + 1)))
    (h : a.getD i 0 < b.getD i 0) : val a < val b := by
  have t := val_append (a.take i) (a.drop i); rw [List.take_append_drop] at t
  have u := val_append (b.take i) (b.drop i); rw [List.take_append_drop] at u
  rw [t, u, drop_val a i ha, drop_val b i hb, e, List.length_take_of_le (by omega), List.length_take_of_le (by omega)]
  have m1 := val_lt (ok_take oa i)
  rw [List.length_take_of_le (by omega)] at m1
  have m2 := val_nonneg (ok_take ob i)
  have p := pw_pos i
  have : pw i * 1 ≤ pw i * (b.getD i 0 - a.getD i 0) := Int.mul_le_mul_of_nonneg_left (by omega) (by omega)
  grind
/-- One limb of a division by ten. -/
theorem ten_round {L Q r x v : Int} (h : L = 10 * Q + r) (hv : v = r * 65536 + x) : x + 65536 * L = 10 * (v / 10 + 65536 * Q) + v % 10 := by omega
/-- One bit of a root. -/
theorem root_yes {a r p t : Int} (h2 : a < (r + 2 * p) * (r + 2 * p)) (ht : t = r + p) : a < (t + p) * (t + p) := by
  have : t + p = r + 2 * p := by omega
  rw [this]; exact h2
theorem root_uniq {a r s : Int} (r0 : 0 ≤ r) (s0 : 0 ≤ s) (h1 : r * r ≤ a) (h2 : a < (r + 1) * (r + 1)) (h3 : s * s ≤ a) (h4 : a < (s + 1) * (s + 1)) : r = s := by
  rcases Int.lt_trichotomy r s with h | h | h
  · have : (r + 1) * (r + 1) ≤ s * s := Int.mul_le_mul (by omega) (by omega) (by omega) (by omega)
    omega
  · exact h
  · have : (s + 1) * (s + 1) ≤ r * r := Int.mul_le_mul (by omega) (by omega) (by omega) (by omega)
    omega
theorem root_start (l : List Int) (h : Ok l) : val l < (0 + p2 (8 * l.length + 9)) * (0 + p2 (8 * l.length + 9)) := by
  have a := val_lt h
  rw [← p2_pw] at a
  have : p2 (8 * l.length + 9) * p2 (8 * l.length + 9) = p2 (16 * l.length) * p2 18 := by rw [← p2_add, ← p2_add]; congr 1; omega
  rw [Int.zero_add, this]
  have p := p2_pos (16 * l.length)
  have : p2 (16 * l.length) * 1 ≤ p2 (16 * l.length) * p2 18 := Int.mul_le_mul_of_nonneg_left (by decide) (by omega)
  omega
/-- The list of one bit. -/
theorem val_bit (i : Nat) : val (List.replicate (i / 16) 0 ++ [p2 (i % 16)]) = p2 i := by
  have z : val (List.replicate (i / 16) (0 : Int)) = 0 := by have := val_zero [] (i / 16); simpa [val] using this
  rw [val_snoc, z, List.length_replicate, ← p2_pw, ← p2_add, Int.zero_add]; congr 1; omega
end Lb
end Go.Proofs.Ytnlefakicjojdaa
/- The reference of layer 1: addL. -/
namespace Go.Proofs.Ytnlefakicjojdaa
set_option linter.unusedVariables false
open Go.RowKit W Lb
/-- The answer is new limbs of the number m. -/
def MagPost (w : World) (m : Int) (e : Ending) (w' : World) : Prop := ∃ v l, e = .returned v ∧ Limbs w' v l ∧ Mag l m ∧ Below w.heap.size w w' ∧ Fresh w.heap.size v
theorem u32_low (x : Int) (a : 0 ≤ x) (b : x < 4294967296) : bits .and .u32 x 65535 = x % 65536 := by
  rw [u32_and x 65535 a b (by omega) (by omega)]
  obtain ⟨m, rfl⟩ := Int.eq_ofNat_of_zero_le a
  have : ((m : Int).toNat &&& (65535 : Int).toNat) = m % 65536 := by
    show m &&& 65535 = m % 65536
    exact Nat.and_two_pow_sub_one_eq_mod m 16
  rw [this]; omega
structure AddAt (w wr : World) (la lb : List Int) (v : Value) (k : Nat) (cc : Int) (o : List Int) : Prop where
  own : wr.ownsRow w.heap.size 101 1 v k (o.map (Value.int .u32))
  ok : Ok o
  len : o.length = k
  c0 : 0 ≤ cc
  c1 : cc ≤ 1
  eq : val o + pw k * cc = val (la.take k) + val (lb.take k)
  top : k ≤ max la.length lb.length ∨ k = max la.length lb.length + 1 ∧ cc = 0
  below : Below w.heap.size w wr
def AddInv (w wr : World) (la lb : List Int) (v c i : Value) : Prop := ∃ (k : Nat) (cc : Int) (o : List Int), i = .int .i64 k ∧ c = .int .u32 cc ∧ AddAt w wr la lb v k cc o
set_option maxHeartbeats 4000000 in
theorem addL_spec (va vb : Value) (la lb : List Int) (w : World) (Ha : Limbs w va la) (Hb : Limbs w vb lb) (oa : Ok la) (ob : Ok lb) (na : la.length ≤ 1000) (nb : lb.length ≤ 1000) :
    Calls Try.prog 52 #[va, vb] w (MagPost w (val la + val lb)) := by
  obtain ⟨p, ca, rfl⟩ := Ha.form
  obtain ⟨q, cb, rfl⟩ := Hb.form
  have HA := hide Ha
  have HB := hide Hb
  have OA := hide oa
  have OB := hide ob
  clear Ha Hb oa ob
  go_enter Try.func52, Try.ntmps52
  go_wp2
  go_loopw [5, 6, 7] (fun v c i wr => AddInv w wr la lb v c i) (fun _ _ i _ => max la.length lb.length + 1 - (intOf i).toNat)
  case atStart => exact ⟨0, 0, [], rfl, rfl, ⟨World.ownsRow_nil _ _ _ _, ok_nil, rfl, by omega, by omega, by simp [val, pw], .inl (by omega), Below.refl _ _⟩⟩
  case round =>
    obtain ⟨k, cc, o, rfl, rfl, at_⟩ := hrel
    have tp := at_.top
    have cc0 := at_.c0
    have cc1 := at_.c1
    have AT := hide at_
    clear at_
    by_cases hg : k < la.length ∨ k < lb.length ∨ 0 < cc
    · have c1 := limb_spec _ la k wr (HA.out.later AT.out.below) (by omega) (by omega)
      have c2 := limb_spec _ lb k wr (HB.out.later AT.out.below) (by omega) (by omega)
      obtain ⟨x0, x1⟩ := ok_at OA.out k
      obtain ⟨y0, y1⟩ := ok_at OB.out k
      obtain ⟨x, hx⟩ : ∃ x, x = la.getD k 0 := ⟨_, rfl⟩
      obtain ⟨y, hy⟩ : ∃ y, y = lb.getD k 0 := ⟨_, rfl⟩
      obtain ⟨t, ht⟩ : ∃ t, t = (x + y + cc) % 65536 := ⟨_, rfl⟩
      obtain ⟨d, hd⟩ : ∃ d, d = (x + y + cc) / 65536 := ⟨_, rfl⟩
      rw [← hx] at c1 x0 x1
      rw [← hy] at c2 y0 y1
      have e1 : bits .and .u32 (x + y + cc) 65535 = t := by rw [u32_low _ (by omega) (by omega), ht]
      have e2 : (x + y + cc) / 65536 = d := hd.symm
      have ST : Hid (Ok (o ++ [t]) ∧ 0 ≤ d ∧ d ≤ 1 ∧ val (o ++ [t]) + pw (k + 1) * d = val (la.take (k + 1)) + val (lb.take (k + 1)) ∧ (k + 1 ≤ max la.length lb.length ∨ k + 1 = max la.length lb.length + 1 ∧ d = 0)) := by
        refine ⟨ok_snoc AT.out.ok (by omega) (by omega), by omega, by omega, ?_, ?_⟩
        · rw [ht, hd]; exact add_round hx hy rfl AT.out.len AT.out.eq
        · by_cases hk : k < max la.length lb.length
          · exact .inl (by omega)
          · have z1 := at_out (l := la) (k := k) (by omega)
            have z2 := at_out (l := lb) (k := k) (by omega)
            exact .inr ⟨by omega, by omega⟩
      have sz := AT.out.below.size
      obtain ⟨i0, hi0, hz0, hz1, hz2⟩ := info_parts info_u32
      have HI : Hid (Try.prog.info? 101 = some i0 ∧ i0.zero = some (.int .u32 0) ∧ i0.size = 1 ∧ i0.bytes = 4) := ⟨hi0, hz0, hz1, hz2⟩
      have kb : k + 1 ≤ maxLen := by unfold maxLen; omega
      clear hi0 hz0 hz1 hz2 hx hy ht hd
      rcases (by omega : k < la.length ∨ (¬ k < la.length ∧ k < lb.length) ∨ (¬ k < la.length ∧ ¬ k < lb.length ∧ 0 < cc)) with h1 | ⟨h1, h2⟩ | ⟨h1, h2, h3⟩
      all_goals
        go_wp2_with fail
        refine c1.mono ?_
        rintro e w' ⟨rfl, rfl⟩
        go_wp2_with fail
        refine c2.mono ?_
        rintro e w' ⟨rfl, rfl⟩
        go_wp2_with (at_builtin; go_loud (refine wpList_append_own _ rfl _ _ 88 rfl w.heap.size 101 i0 (.int .u32 0) 1 4 Try.underlying88 HI.out.1 HI.out.2.1 HI.out.2.2.1 HI.out.2.2.2 rfl (by decide) u5 k (o.map (Value.int .u32)) rfl (AT.out.own.alloc _) ⟨wr.heap.size, 0, none⟩ 1 1 [.int .u32 t] rfl rfl (cell_one_new _ _ _) one_u32 kb (by omega) (by simp; omega) ?_); intro v' w1 hown' hgrow hnil)
        go_roundw
        case rel =>
          refine ⟨k + 1, d, o ++ [t], by go_num, rfl, ⟨by rw [List.map_append]; exact hown', ST.out.1, by rw [List.length_append, AT.out.len]; rfl, ST.out.2.1, ST.out.2.2.1, ST.out.2.2.2.1, ST.out.2.2.2.2, (AT.out.below.alloc sz _).grown hgrow (by simp; omega) (fun j hj => (AT.out.own.lt j hj).1)⟩⟩
        case measure => simp [intOf]; omega
    · have h1 : ¬ k < la.length := by omega
      have h2 : ¬ k < lb.length := by omega
      obtain rfl : cc = 0 := by omega
      obtain ⟨L, hn⟩ := Limbs.of_own AT.out.own
      obtain ⟨v', c3, L', fr⟩ := trim_own AT.out.own (by have := AT.out.len; omega)
      obtain ⟨pu, cu, hu⟩ := L.form
      have e := AT.out.eq
      rw [List.take_of_length_le (by omega), List.take_of_length_le (by omega)] at e
      have FIN : Hid (MagPost w (val la + val lb) (.returned v') wr) := ⟨v', _, rfl, L', by have := Mag.of_top AT.out.ok; rwa [show Lb.val o = val la + val lb by omega] at this, AT.out.below, fr⟩
      clear L L' hu hn e hg
      go_wp2_with fail
      refine c3.mono ?_
      rintro e w' ⟨rfl, rfl⟩
      go_wp2_with fail
      go_returns
      exact FIN.out
end Go.Proofs.Ytnlefakicjojdaa
/- The reference of layer 1: subL. -/
namespace Go.Proofs.Ytnlefakicjojdaa
set_option linter.unusedVariables false
open Go.RowKit W Lb
structure SubAt (w wr : World) (la lb : List Int) (v : Value) (k : Nat) (cc : Int) (o : List Int) : Prop where
  own : wr.ownsRow w.heap.size 101 1 v k (o.map (Value.int .u32))
  ok : Ok o
  len : o.length = k
  kk : k ≤ la.length
  c0 : 0 ≤ cc
  c1 : cc ≤ 1
  eq : val o + val (lb.take k) = val (la.take k) + pw k * cc
  below : Below w.heap.size w wr
def SubInv (w wr : World) (la lb : List Int) (v c i : Value) : Prop := ∃ (k : Nat) (cc : Int) (o : List Int), i = .int .i64 k ∧ c = .int .u32 cc ∧ SubAt w wr la lb v k cc o
theorem sub_end {la lb o : List Int} {cc : Int} (oa : Ok la) (oo : Ok o) (hl : o.length = la.length) (h : lb.length ≤ la.length) (le : val lb ≤ val la) (c0 : 0 ≤ cc) (c1 : cc ≤ 1)
    (e : val o + val (lb.take la.length) = val (la.take la.length) + pw la.length * cc) : val o = val la - val lb := by
  rw [List.take_of_length_le h, List.take_of_length_le (Nat.le_refl _)] at e
  have := val_lt oo
  rw [hl] at this
  rcases (by omega : cc = 0 ∨ cc = 1) with rfl | rfl
  · omega
  · have := pw_pos la.length; omega
set_option maxHeartbeats 4000000 in
theorem subL_spec (va vb : Value) (la lb : List Int) (w : World) (Ha : Limbs w va la) (Hb : Limbs w vb lb) (oa : Ok la) (ob : Ok lb) (na : la.length ≤ 1000) (nb : lb.length ≤ la.length) (le : val lb ≤ val la) :
    Calls Try.prog 53 #[va, vb] w (MagPost w (val la - val lb)) := by
  obtain ⟨p, ca, rfl⟩ := Ha.form
  obtain ⟨q, cb, rfl⟩ := Hb.form
  have HA := hide Ha
  have HB := hide Hb
  have OA := hide oa
  have OB := hide ob
  have LE := hide le
  clear Ha Hb oa ob le
  go_enter Try.func53, Try.ntmps53
  go_wp2
  go_loopw [5, 6, 7] (fun v c i wr => SubInv w wr la lb v c i) (fun _ _ i _ => la.length - (intOf i).toNat)
  case atStart => exact ⟨0, 0, [], rfl, rfl, ⟨World.ownsRow_nil _ _ _ _, ok_nil, rfl, by omega, by omega, by omega, by simp [val, pw], Below.refl _ _⟩⟩
  case round =>
    obtain ⟨k, cc, o, rfl, rfl, at_⟩ := hrel
    have kk := at_.kk
    have cc0 := at_.c0
    have cc1 := at_.c1
    have AT := hide at_
    clear at_
    by_cases hg : k < la.length
    · have c1 := limb_spec _ la k wr (HA.out.later AT.out.below) (by omega) (by omega)
      have c2 := limb_spec _ lb k wr (HB.out.later AT.out.below) (by omega) (by omega)
      obtain ⟨x0, x1⟩ := ok_at OA.out k
      obtain ⟨y0, y1⟩ := ok_at OB.out k
      obtain ⟨x, hx⟩ : ∃ x, x = la.getD k 0 := ⟨_, rfl⟩
      obtain ⟨y, hy⟩ : ∃ y, y = lb.getD k 0 := ⟨_, rfl⟩
      obtain ⟨t, ht⟩ : ∃ t, t = (x + 65536 - y - cc) % 65536 := ⟨_, rfl⟩
      obtain ⟨d, hd⟩ : ∃ d, d = (x + 65536 - y - cc) / 65536 := ⟨_, rfl⟩
      rw [← hx] at c1 x0 x1
      rw [← hy] at c2 y0 y1
      have e1 : bits .and .u32 (x + 65536 - y - cc) 65535 = t := by rw [u32_low _ (by omega) (by omega), ht]
      have e2 : (x + 65536 - y - cc) / 65536 = d := hd.symm
      have d0 : 0 ≤ d := by omega
      have d1 : d ≤ 1 := by omega
      have ST : Hid (Ok (o ++ [t]) ∧ 0 ≤ 1 - d ∧ 1 - d ≤ 1 ∧ val (o ++ [t]) + val (lb.take (k + 1)) = val (la.take (k + 1)) + pw (k + 1) * (1 - d)) := by
        refine ⟨ok_snoc AT.out.ok (by omega) (by omega), by omega, by omega, ?_⟩
        rw [ht, hd]; exact sub_round hx hy rfl AT.out.len AT.out.eq
      have sz := AT.out.below.size
      obtain ⟨i0, hi0, hz0, hz1, hz2⟩ := info_parts info_u32
      have HI : Hid (Try.prog.info? 101 = some i0 ∧ i0.zero = some (.int .u32 0) ∧ i0.size = 1 ∧ i0.bytes = 4) := ⟨hi0, hz0, hz1, hz2⟩
      have kb : k + 1 ≤ maxLen := by unfold maxLen; omega
      clear hi0 hz0 hz1 hz2 hx hy ht hd
      go_wp2_with fail
      refine c1.mono ?_
      rintro e w' ⟨rfl, rfl⟩
      go_wp2_with fail
      refine c2.mono ?_
      rintro e w' ⟨rfl, rfl⟩
      go_wp2_with (at_builtin; go_loud (refine wpList_append_own _ rfl _ _ 88 rfl w.heap.size 101 i0 (.int .u32 0) 1 4 Try.underlying88 HI.out.1 HI.out.2.1 HI.out.2.2.1 HI.out.2.2.2 rfl (by decide) u5 k (o.map (Value.int .u32)) rfl (AT.out.own.alloc _) ⟨wr.heap.size, 0, none⟩ 1 1 [.int .u32 t] rfl rfl (cell_one_new _ _ _) one_u32 kb (by omega) (by simp; omega) ?_); intro v' w1 hown' hgrow hnil)
      go_roundw
      case rel =>
        refine ⟨k + 1, 1 - d, o ++ [t], by go_num, rfl, ⟨by rw [List.map_append]; exact hown', ST.out.1, by rw [List.length_append, AT.out.len]; rfl, by omega, ST.out.2.1, ST.out.2.2.1, ST.out.2.2.2, (AT.out.below.alloc sz _).grown hgrow (by simp; omega) (fun j hj => (AT.out.own.lt j hj).1)⟩⟩
      case measure => simp [intOf]; omega
    · obtain rfl : k = la.length := by omega
      obtain ⟨L, hn⟩ := Limbs.of_own AT.out.own
      obtain ⟨v', c3, L', fr⟩ := trim_own AT.out.own (by have := AT.out.len; omega)
      obtain ⟨pu, cu, hu⟩ := L.form
      have e := sub_end OA.out AT.out.ok AT.out.len nb LE.out cc0 cc1 AT.out.eq
      have FIN : Hid (MagPost w (val la - val lb) (.returned v') wr) := ⟨v', _, rfl, L', by have := Mag.of_top AT.out.ok; rwa [e] at this, AT.out.below, fr⟩
      clear L L' hu hn e hg
      go_wp2_with fail
      refine c3.mono ?_
      rintro e w' ⟨rfl, rfl⟩
      go_wp2_with fail
      go_returns
      exact FIN.out
end Go.Proofs.Ytnlefakicjojdaa
/- The reference of layer 1: cmpL. -/
namespace Go.Proofs.Ytnlefakicjojdaa
set_option linter.unusedVariables false
open Go.RowKit W Lb
def CmpPost (w : World) (x y : Int) (e : Ending) (w' : World) : Prop := e = .returned (.int .i64 (cmpI x y)) ∧ Below w.heap.size w w'
/-- Two lists of one length that agree from place k on. -/
structure CmpAt (w wr : World) (la lb : List Int) (k : Nat) : Prop where
  kk : k ≤ la.length
  eq : val (la.drop k) = val (lb.drop k)
  at_ : ∃ n, wr = w.drewN n
def CmpInv (w wr : World) (la lb : List Int) (i : Value) : Prop := ∃ k : Nat, i = .int .i64 ((k : Int) - 1) ∧ CmpAt w wr la lb k
set_option maxHeartbeats 4000000 in
theorem cmpL_same (b o cap b' o' cap' n : Nat) (va vb : Value) (la lb : List Int) (w : World) (n1 : n ≤ 1000) (l1 : la.length = n) (l2 : lb.length = n) (oa : Ok la) (ob : Ok lb)
    (ca : Same 59 #[va] w (.slice (some ⟨b, o, none⟩) n cap)) (cb : Same 59 #[vb] w (.slice (some ⟨b', o', none⟩) n cap'))
    (ha : ∀ k, k < n → w.cell? ⟨b, o + k, none⟩ = some (.int .u32 (la.getD k 0))) (hb : ∀ k, k < n → w.cell? ⟨b', o' + k, none⟩ = some (.int .u32 (lb.getD k 0))) :
    Calls Try.prog 51 #[va, vb] w (CmpPost w (val la) (val lb)) := by
  have OA := hide oa
  have OB := hide ob
  have HA := hide ha
  have HB := hide hb
  have L1 := hide l1
  have L2 := hide l2
  clear oa ob ha hb l1 l2
  go_enter Try.func51, Try.ntmps51
  go_wp2_with fail
  refine ca.mono ?_
  rintro e w' ⟨rfl, rfl⟩
  go_wp2_with fail
  refine cb.mono ?_
  rintro e w' ⟨rfl, rfl⟩
  go_wp2_with fail
  clear ca cb
  go_loopw [5] (fun i wr => CmpInv w wr la lb i) (fun i _ => (intOf i + 1).toNat)
  case atStart => exact ⟨n, rfl, by have := L1.out; omega, by have := L1.out; have := L2.out; rw [List.drop_of_length_le (by omega), List.drop_of_length_le (by omega)], 0, rfl⟩
  case round =>
    obtain ⟨k, rfl, kk, eq, m, rfl⟩ := hrel
    rw [L1.out] at kk
    have EQ := hide eq
    clear eq
    rcases k with _ | k
    · have e0 : ((0 : Nat) : Int) - 1 = -1 := by omega
      rw [e0]
      have FIN : Hid (cmpI (val la) (val lb) = 0) := by have := EQ.out; simp only [List.drop_zero] at this; exact cmp_eq this
      go_wp2
      go_returns
      exact ⟨by rw [FIN.out]; rfl, below_drewN (Below.refl _ _) m⟩
    · have ei : ((k + 1 : Nat) : Int) - 1 = k := by omega
      rw [ei]
      clear ei
      have h1 := HA.out k (by omega)
      have h2 := HB.out k (by omega)
      have kn : k < n := by omega
      have LT : Hid (la.getD k 0 < lb.getD k 0 → cmpI (val la) (val lb) = -1) := fun h => cmp_lt (cmp_step (by rw [L1.out]; omega) (by rw [L2.out]; omega) OA.out OB.out (by rw [L1.out, L2.out]) EQ.out h)
      have GT : Hid (lb.getD k 0 < la.getD k 0 → cmpI (val la) (val lb) = 1) := fun h => cmp_gt (cmp_step (by rw [L2.out]; omega) (by rw [L1.out]; omega) OB.out OA.out (by rw [L1.out, L2.out]) EQ.out.symm h)
      have SM : Hid (la.getD k 0 = lb.getD k 0 → val (la.drop k) = val (lb.drop k)) := fun h => by rw [drop_val la k (by rw [L1.out]; omega), drop_val lb k (by rw [L2.out]; omega), EQ.out, h]
      generalize la.getD k 0 = x at *
      generalize lb.getD k 0 = y at *
      clear EQ
      rcases Int.lt_trichotomy x y with h | h | h
      · have F := hide (LT.out h)
        clear LT GT SM
        go_wp2
        go_quiet (fail)
        go_wp2
        go_returns
        exact ⟨by rw [F.out]; rfl, by (try simp only [World.drewN_drewN]); exact below_drewN (Below.refl _ _) _⟩
      · have F := hide (SM.out h)
        clear LT GT SM
        subst h
        go_wp2
        go_quiet (fail)
        go_wp2
        go_quiet (fail)
        go_wp2
        go_roundw
        case rel => exact ⟨k, by go_num, by have := L1.out; omega, F.out, by (try simp only [World.drewN_drewN]); exact ⟨_, rfl⟩⟩
        case measure => simp [intOf]
      · have F := hide (GT.out h)
        clear LT GT SM
        have h' : ¬ x < y := by omega
        go_wp2
        go_quiet (fail)
        go_wp2
        go_quiet (fail)
        go_wp2
        go_returns
        exact ⟨by rw [F.out]; rfl, by (try simp only [World.drewN_drewN]); exact below_drewN (Below.refl _ _) _⟩
theorem cmpL_short (p q : Option Addr) (n m cap cap' : Nat) (va vb : Value) (x y : Int) (w : World) (n1 : n ≤ 1000) (h : n < m) (m1 : m ≤ 1000) (le : x < y)
    (ca : Same 59 #[va] w (.slice p n cap)) (cb : Same 59 #[vb] w (.slice q m cap')) :
    Calls Try.prog 51 #[va, vb] w (CmpPost w x y) := by
  have F := hide (cmp_lt le)
  have nm : ¬ n = m := by omega
  clear le
  go_enter Try.func51, Try.ntmps51
  go_wp2_with fail
  refine ca.mono ?_
  rintro e w' ⟨rfl, rfl⟩
  go_wp2_with fail
  refine cb.mono ?_
  rintro e w' ⟨rfl, rfl⟩
  go_wp2_with fail
  go_returns
  exact ⟨by rw [F.out]; rfl, Below.refl _ _⟩
theorem cmpL_long (p q : Option Addr) (n m cap cap' : Nat) (va vb : Value) (x y : Int) (w : World) (n1 : n ≤ 1000) (h : m < n) (m1 : m ≤ 1000) (le : y < x)
    (ca : Same 59 #[va] w (.slice p n cap)) (cb : Same 59 #[vb] w (.slice q m cap')) :
    Calls Try.prog 51 #[va, vb] w (CmpPost w x y) := by
  have F := hide (cmp_gt le)
  have nm : ¬ n = m := by omega
  have nl : ¬ n < m := by omega
  clear le
  go_enter Try.func51, Try.ntmps51
  go_wp2_with fail
  refine ca.mono ?_
  rintro e w' ⟨rfl, rfl⟩
  go_wp2_with fail
  refine cb.mono ?_
  rintro e w' ⟨rfl, rfl⟩
  go_wp2_with fail
  go_returns
  exact ⟨by rw [F.out]; rfl, Below.refl _ _⟩
theorem cmpL_none (p q : Option Addr) (cap cap' : Nat) (va vb : Value) (w : World)
    (ca : Same 59 #[va] w (.slice p 0 cap)) (cb : Same 59 #[vb] w (.slice q 0 cap')) :
    Calls Try.prog 51 #[va, vb] w (CmpPost w 0 0) := by
  go_enter Try.func51, Try.ntmps51
  go_wp2_with fail
  refine ca.mono ?_
  rintro e w' ⟨rfl, rfl⟩
  go_wp2_with fail
  refine cb.mono ?_
  rintro e w' ⟨rfl, rfl⟩
  go_wp2_with fail
  refine wp_loop_rounds 1 ?_
  rw [rounds_succ]
  go_wp2_with fail
  go_returns
  exact ⟨rfl, Below.refl _ _⟩
/-- cmpL: the order of the numbers. -/
theorem cmpL_spec (va vb : Value) (la lb : List Int) (w : World) (Ha : Limbs w va la) (Hb : Limbs w vb lb) (oa : Ok la) (ob : Ok lb) (na : la.length ≤ 1000) (nb : lb.length ≤ 1000) :
    Calls Try.prog 51 #[va, vb] w (CmpPost w (val la) (val lb)) := by
  obtain ⟨va', ca, Ha'⟩ := trim_spec va la w Ha (by omega)
  obtain ⟨vb', cb, Hb'⟩ := trim_spec vb lb w Hb (by omega)
  have ma := Mag.of_top oa
  have mb := Mag.of_top ob
  have l1 := List.length_take_le (top la la.length) la
  have l2 := List.length_take_le (top lb lb.length) lb
  have t1 := top_le la la.length
  have t2 := top_le lb lb.length
  generalize la.take (top la la.length) = a at *
  generalize lb.take (top lb lb.length) = b at *
  rcases Nat.lt_trichotomy a.length b.length with h | h | h
  · obtain ⟨p, c, rfl⟩ := Ha'.form
    obtain ⟨q, c', rfl⟩ := Hb'.form
    exact cmpL_short p q _ _ c c' va vb _ _ w (by omega) h (by omega) (ma.lt_len mb h) ca cb
  · rcases Ha' with ⟨p, c, rfl, rfl⟩ | ⟨b1, o1, c1, rfl, h1, h2, _, h3⟩
    · have e : b = [] := List.eq_nil_of_length_eq_zero (by simpa using h.symm)
      subst e
      obtain ⟨q, c', rfl⟩ := Hb'.form
      rw [← ma.val, ← mb.val]
      exact cmpL_none p q c c' va vb w ca cb
    · rcases Hb' with ⟨p, c, rfl, rfl⟩ | ⟨b2, o2, c2, rfl, g1, g2, _, g3⟩
      · have e : a = [] := List.eq_nil_of_length_eq_zero (by simpa using h)
        subst e
        rw [← ma.val, ← mb.val]
        exact cmpL_none _ p _ c va vb w ca cb
      · rw [← ma.val, ← mb.val]
        rw [← h] at cb g3
        exact cmpL_same b1 o1 c1 b2 o2 c2 _ va vb a b w (by omega) rfl h.symm ma.ok mb.ok ca cb h3 g3
  · obtain ⟨p, c, rfl⟩ := Ha'.form
    obtain ⟨q, c', rfl⟩ := Hb'.form
    exact cmpL_long p q _ _ c c' va vb _ _ w (by omega) h (by omega) (mb.lt_len ma h) ca cb
end Go.Proofs.Ytnlefakicjojdaa
