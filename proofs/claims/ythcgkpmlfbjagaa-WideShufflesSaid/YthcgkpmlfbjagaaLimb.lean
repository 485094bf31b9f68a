/- Plain numbers: lists of limbs of 16 bits, the lowest first, as whole numbers. No Go in sight. -/
import Init
namespace Go.Proofs.Ythcgkpmlfbjagaa
set_option linter.unusedVariables false
namespace Lb
def val : List Int → Int
  | [] => 0
  | x :: l => x + 65536 * val l
def pw : Nat → Int
  | 0 => 1
  | n + 1 => 65536 * pw n
theorem pw_pos (n : Nat) : 0 < pw n := by induction n with | zero => decide | succ n ih => show 0 < 65536 * pw n; omega
theorem pw_add (m n : Nat) : pw (m + n) = pw m * pw n := by
  induction m with
  | zero => simp [pw]
  | succ m ih => rw [Nat.succ_add]; show 65536 * pw (m + n) = 65536 * pw m * pw n; rw [ih, Int.mul_assoc]
theorem pw_mono {m n : Nat} (h : m ≤ n) : pw m ≤ pw n := by
  obtain ⟨k, rfl⟩ := Nat.exists_eq_add_of_le h
  rw [pw_add]
  have a := pw_pos m; have b := pw_pos k
  have : pw m * 1 ≤ pw m * pw k := Int.mul_le_mul_of_nonneg_left (by omega) (by omega)
  omega
/-- Each limb has 16 bits. -/
def Ok (l : List Int) : Prop := ∀ x ∈ l, 0 ≤ x ∧ x < 65536
/-- No 0 at the top. -/
def Top (l : List Int) : Prop := l = [] ∨ l.getD (l.length - 1) 0 ≠ 0
theorem ok_nil : Ok [] := by intro x h; simp at h
theorem ok_snoc {l : List Int} {x : Int} (h : Ok l) (a : 0 ≤ x) (b : x < 65536) : Ok (l ++ [x]) := by
  intro y hy; rcases List.mem_append.1 hy with h1 | h1
  · exact h y h1
  · rw [List.mem_singleton] at h1; subst h1; exact ⟨a, b⟩
theorem ok_take {l : List Int} (h : Ok l) (k : Nat) : Ok (l.take k) := fun x hx => h x (List.mem_of_mem_take hx)
theorem ok_at {l : List Int} (h : Ok l) (k : Nat) : 0 ≤ l.getD k 0 ∧ l.getD k 0 < 65536 := by
  by_cases hk : k < l.length
  · simp only [List.getD, List.getElem?_eq_getElem hk, Option.getD_some]; exact h _ (List.getElem_mem _)
  · simp [List.getD, List.getElem?_eq_none (Nat.le_of_not_lt hk)]
theorem at_out {l : List Int} {k : Nat} (hk : l.length ≤ k) : l.getD k 0 = 0 := by simp [List.getD, List.getElem?_eq_none hk]
theorem val_append (l m : List Int) : val (l ++ m) = val l + pw l.length * val m := by
  induction l with
  | nil => simp [val, pw]
  | cons x l ih => simp only [List.cons_append, val, ih, List.length_cons, pw]; grind
theorem val_snoc (l : List Int) (x : Int) : val (l ++ [x]) = val l + pw l.length * x := by rw [val_append]; simp [val]
theorem val_zero (l : List Int) (n : Nat) : val (l ++ List.replicate n 0) = val l := by
  have : val (List.replicate n (0 : Int)) = 0 := by induction n with | zero => rfl | succ n ih => simp [List.replicate_succ, val, ih]
  rw [val_append, this]; simp
theorem val_take (l : List Int) (k : Nat) : val (l.take (k + 1)) = val (l.take k) + pw k * l.getD k 0 := by
  by_cases hk : k < l.length
  · rw [List.take_succ_eq_append_getElem hk, val_snoc, List.length_take_of_le (Nat.le_of_lt hk)]
    simp [List.getD, List.getElem?_eq_getElem hk]
  · rw [List.take_of_length_le (by omega), List.take_of_length_le (by omega), at_out (by omega)]; simp
theorem val_nonneg {l : List Int} (h : Ok l) : 0 ≤ val l := by
  induction l with
  | nil => simp [val]
  | cons x l ih =>
    have := ih (fun y hy => h y (List.mem_cons_of_mem _ hy)); have := (h x (List.mem_cons_self ..)).1
    simp only [val]; omega
theorem val_lt {l : List Int} (h : Ok l) : val l < pw l.length := by
  induction l with
  | nil => simp [val, pw]
  | cons x l ih =>
    have := ih (fun y hy => h y (List.mem_cons_of_mem _ hy)); have := (h x (List.mem_cons_self ..)).2
    simp only [val, List.length_cons, pw]; omega
theorem val_lt' {l : List Int} (h : Ok l) {n : Nat} (hn : l.length ≤ n) : val l < pw n := Int.lt_of_lt_of_le (val_lt h) (pw_mono hn)
/-- A list with no 0 at the top is not below the power of its length less one. -/
theorem val_ge {l : List Int} (h : Ok l) (t : Top l) (n : Nat) (hn : l.length = n + 1) : pw n ≤ val l := by
  have e : val l = val (l.take n) + pw n * l.getD n 0 := by
    have := val_take l n; rwa [List.take_of_length_le (by omega)] at this
  have a := val_nonneg (ok_take h n)
  have b := ok_at h n
  have c : l.getD n 0 ≠ 0 := by
    rcases t with rfl | t
    · simp at hn
    · rwa [hn] at t
  have p := pw_pos n
  have : pw n * 1 ≤ pw n * l.getD n 0 := Int.mul_le_mul_of_nonneg_left (by omega) (by omega)
  omega
theorem val_lt_of_length {a b : List Int} (ha : Ok a) (hb : Ok b) (tb : Top b) (h : a.length < b.length) : val a < val b := by
  obtain ⟨n, hn⟩ : ∃ n, b.length = n + 1 := ⟨b.length - 1, by omega⟩
  have := val_ge hb tb n hn
  have := val_lt' ha (show a.length ≤ n by omega)
  omega
theorem length_le_of_val {a b : List Int} (ha : Ok a) (ta : Top a) (hb : Ok b) (h : val a ≤ val b) : a.length ≤ b.length := by
  apply Decidable.byContradiction; intro g
  have := val_lt_of_length hb ha ta (by omega); omega
theorem val_eq_zero {l : List Int} (h : Ok l) (t : Top l) (e : val l = 0) : l = [] := by
  cases l with
  | nil => rfl
  | cons x l => have := val_ge h t l.length (by simp); have := pw_pos l.length; omega
/-- The same number, the same list. -/
theorem val_inj_len {a b : List Int} (ha : Ok a) (hb : Ok b) (h : a.length = b.length) (e : val a = val b) : a = b := by
  induction a generalizing b with
  | nil => cases b with | nil => rfl | cons y b => simp at h
  | cons x a ih =>
    cases b with
    | nil => simp at h
    | cons y b =>
      have h1 := ha x (List.mem_cons_self ..); have h2 := hb y (List.mem_cons_self ..)
      simp only [val] at e
      have e1 : x = y := by omega
      have e2 : val a = val b := by omega
      rw [e1, ih (fun z hz => ha z (List.mem_cons_of_mem _ hz)) (fun z hz => hb z (List.mem_cons_of_mem _ hz)) (by simpa using h) e2]
theorem val_inj {a b : List Int} (ha : Ok a) (ta : Top a) (hb : Ok b) (tb : Top b) (e : val a = val b) : a = b :=
  val_inj_len ha hb (Nat.le_antisymm (length_le_of_val ha ta hb (by omega)) (length_le_of_val hb tb ha (by omega))) e
/-- The list without zeros at the top, by its length. -/
def top : List Int → Nat → Nat
  | _, 0 => 0
  | l, n + 1 => if l.getD n 0 = 0 then top l n else n + 1
theorem top_le (l : List Int) (n : Nat) : top l n ≤ n := by
  induction n with
  | zero => simp [top]
  | succ n ih => simp only [top]; split <;> omega
theorem val_top (l : List Int) (n : Nat) : val (l.take (top l n)) = val (l.take n) := by
  induction n with
  | zero => simp [top]
  | succ n ih =>
    simp only [top]; split
    · next h => rw [ih, val_take, h]; simp
    · rfl
theorem top_top (l : List Int) (n : Nat) (hn : n ≤ l.length) : Top (l.take (top l n)) := by
  induction n with
  | zero => left; simp [top]
  | succ n ih =>
    simp only [top]; split
    · exact ih (by omega)
    · next h =>
      right
      rw [List.length_take_of_le hn]
      simp only [Nat.add_sub_cancel]
      rw [List.getD_eq_getElem?_getD, List.getElem?_take_of_lt (by omega)]
      simpa [List.getD_eq_getElem?_getD] using h
/-- One round of a sum. -/
theorem add_round {o : List Int} {a b : List Int} {i : Nat} {c x y s : Int} (hx : x = a.getD i 0) (hy : y = b.getD i 0) (hs : s = x + y + c) (ho : o.length = i)
    (h : val o + pw i * c = val (a.take i) + val (b.take i)) : val (o ++ [s % 65536]) + pw (i + 1) * (s / 65536) = val (a.take (i + 1)) + val (b.take (i + 1)) := by
  have e : s % 65536 + 65536 * (s / 65536) = s := by omega
  rw [val_snoc, val_take, val_take, ho, ← hx, ← hy]; simp only [pw]
  generalize s % 65536 = r at *; generalize s / 65536 = q at *
  grind
/-- One round of a difference. -/
theorem sub_round {o : List Int} {a b : List Int} {i : Nat} {c x y s : Int} (hx : x = a.getD i 0) (hy : y = b.getD i 0) (hs : s = x + 65536 - y - c) (ho : o.length = i)
    (h : val o + val (b.take i) = val (a.take i) + pw i * c) : val (o ++ [s % 65536]) + val (b.take (i + 1)) = val (a.take (i + 1)) + pw (i + 1) * (1 - s / 65536) := by
  have e : s % 65536 + 65536 * (s / 65536) = s := by omega
  rw [val_snoc, val_take, val_take, ho, ← hx, ← hy]; simp only [pw]
  generalize s % 65536 = r at *; generalize s / 65536 = q at *
  grind
/-- One limb of a list turned into another. -/
theorem val_set (l : List Int) (k : Nat) (hk : k < l.length) (x : Int) : val (l.set k x) = val l + pw k * (x - l.getD k 0) := by
  induction l generalizing k with
  | nil => simp at hk
  | cons y l ih =>
    cases k with
    | zero => simp [val, pw, List.getD]; omega
    | succ k =>
      have := ih k (by simpa using hk)
      simp only [List.set_cons_succ, val, this, pw]
      simp only [List.getD_cons_succ]
      grind
theorem ok_set {l : List Int} (h : Ok l) (k : Nat) {x : Int} (a : 0 ≤ x) (b : x < 65536) : Ok (l.set k x) := by
  intro y hy; rcases List.mem_or_eq_of_mem_set hy with h1 | h1
  · exact h y h1
  · subst h1; exact ⟨a, b⟩
/-- One step of a row of a product. -/
theorem mul_step {o : List Int} {a b : List Int} {i j : Nat} {c x y s P : Int} (hk : i + j < o.length) (hy : y = b.getD j 0) (hs : s = o.getD (i + j) 0 + x * y + c)
    (h : val o + pw (i + j) * c = P + pw i * (x * val (b.take j))) : val (o.set (i + j) (s % 65536)) + pw (i + (j + 1)) * (s / 65536) = P + pw i * (x * val (b.take (j + 1))) := by
  have e : s % 65536 + 65536 * (s / 65536) = s := by omega
  rw [val_set _ _ hk, val_take, ← hy]
  have e2 : pw (i + (j + 1)) = 65536 * pw (i + j) := by rw [← Nat.add_assoc]; rfl
  have e3 : pw (i + j) = pw i * pw j := pw_add i j
  rw [e2]
  generalize o.getD (i + j) 0 = z at *; generalize s % 65536 = r at *; generalize s / 65536 = q at *
  generalize pw (i + j) = p at *
  grind
end Lb
end Go.Proofs.Ythcgkpmlfbjagaa
