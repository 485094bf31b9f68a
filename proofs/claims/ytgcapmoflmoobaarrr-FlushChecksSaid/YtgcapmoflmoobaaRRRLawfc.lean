/- FlushChecks: the law's walk. -/
import Derived.Test.YtgcapmoflmoobaaRRRFref
namespace Go.Proofs.YtgcapmoflmoobaaRRR
set_option linter.unusedVariables false
set_option linter.unusedSimpArgs false
open Go.RowKit W
set_option maxRecDepth 100000 in
set_option maxHeartbeats 8000000 in
theorem fchecks_walk (p : ByteArray) (a b : Option Addr) (n m c d : Nat) (E : Int) (w : World)
    (k1 : ∀ W, Below w.heap.size w W → Calls Try.prog 8 #[flV p a n c b m d] W fun e w' => e = .returned (.int .i64 E) ∧ Below W.heap.size W w')
    (k2 : ∀ W, Below w.heap.size w W → Calls Try.prog 9 #[flV p a n c b m d] W fun e w' => e = .returned (.int .i64 E) ∧ Below W.heap.size W w')
    (k3 : ∀ W, Calls Try.prog 8 #[.agg #[.string ⟨#[46]⟩, .slice none 0 0, .slice none 0 0]] W fun e w' => e = .returned (.int .i64 100) ∧ Below W.heap.size W w') :
    Calls Try.prog 3 #[flV p a n c b m d] w fun e w' => e = .returned (.bool true) ∧ Below w.heap.size w w' := by
  go_enter Try.func3, Try.ntmps3
  go_wp2_with fail
  obtain ⟨W, hW⟩ : ∃ X, X = w.alloc (Obj.cells #[.string p, .slice a n c, .slice b m d] 24) := ⟨_, rfl⟩
  have cW0 : W.cell? ⟨w.heap.size, 0, none⟩ = some (.string p) := by rw [hW]; first | (simp [go_sem]; done)
  have fW0 : W.frozen? ⟨w.heap.size, 0, none⟩ = false := by rw [hW]; first | (simp [go_sem]; done)
  have zW0 : w.heap.size < W.heap.size := by rw [hW]; first | omega | (simp; done) | (simp; omega)
  have cW1 : W.cell? ⟨w.heap.size, 1, none⟩ = some (.slice a n c) := by rw [hW]; first | (simp [go_sem]; done)
  have fW1 : W.frozen? ⟨w.heap.size, 1, none⟩ = false := by rw [hW]; first | (simp [go_sem]; done)
  have zW1 : w.heap.size < W.heap.size := by rw [hW]; first | omega | (simp; done) | (simp; omega)
  have cW2 : W.cell? ⟨w.heap.size, 2, none⟩ = some (.slice b m d) := by rw [hW]; first | (simp [go_sem]; done)
  have fW2 : W.frozen? ⟨w.heap.size, 2, none⟩ = false := by rw [hW]; first | (simp [go_sem]; done)
  have zW2 : w.heap.size < W.heap.size := by rw [hW]; first | omega | (simp; done) | (simp; omega)
  have BW : Below w.heap.size w W := by rw [hW]; go_grown
  rw [← hW]
  clear hW
  have k1' := fun (v : World) (K : Keeps W.heap.size W v) => k1 v (BW.trans (K.below.mono BW.size))
  have k2' := fun (v : World) (K : Keeps W.heap.size W v) => k2 v (BW.trans (K.below.mono BW.size))
  clear k1 k2
  have K0 := Keeps.start (Nat.le_refl W.heap.size)
  have K1 := K0.drew
  go_region_held3 (fun w' => w'.cell? ⟨w.heap.size, 0, none⟩ = some (.string p) ∧ w'.cell? ⟨w.heap.size, 1, none⟩ = some (.slice a n c) ∧ w'.cell? ⟨w.heap.size, 2, none⟩ = some (.slice b m d) ∧ Keeps W.heap.size W w') ((refine (fun K => ⟨Keeps.cell K cW0 zW0, Keeps.cell K cW1 zW1, Keeps.cell K cW2 zW2, K⟩) (?_ : Keeps W.heap.size W _); (repeat (first | assumption | refine Keeps.alloc ?_ _ | refine Keeps.drew ?_))))
    (first
    | (go_at_call 8; ((with_reducible refine (k1' _ ?_).mono ?_); (repeat (first | assumption | refine Keeps.alloc ?_ _ | refine Keeps.drew ?_)); rintro e w1 ⟨rfl, hb⟩; have K2 := Keeps.call (B := W.heap.size) (W := W) (by repeat (first | assumption | refine Keeps.alloc ?_ _ | refine Keeps.drew ?_)) hb))
    | (go_at_call 9; ((with_reducible refine (k2' _ ?_).mono ?_); (repeat (first | assumption | refine Keeps.alloc ?_ _ | refine Keeps.drew ?_)); rintro e w1 ⟨rfl, hb⟩; have K2 := Keeps.call (B := W.heap.size) (W := W) (by repeat (first | assumption | refine Keeps.alloc ?_ _ | refine Keeps.drew ?_)) hb))
    | (go_at_call 8; ((with_reducible refine (k3 _).mono ?_); rintro e w1 ⟨rfl, hb⟩; have K2 := Keeps.call (B := W.heap.size) (W := W) (by repeat (first | assumption | refine Keeps.alloc ?_ _ | refine Keeps.drew ?_)) hb)))
  all_goals
    go_wp2
    go_returns
    refine ⟨rfl, BW.trans (Below.mono (Keeps.below (?_ : Keeps W.heap.size W _)) BW.size)⟩
    repeat (first | assumption | refine Keeps.alloc ?_ _ | refine Keeps.drew ?_)
theorem law_FlushChecks (p : ByteArray) (a : Option Addr) (c : Nat) (xs : List Int) (b : Option Addr) (d : Nat) (ys : List Int) (w : World) (hx : IsInts .i64 w a xs) (hy : IsInts .i64 w b ys) :
    Calls Try.prog 3 #[flV p a xs.length c b ys.length d] w fun e w' => e = .returned (.bool true) ∧ Below w.heap.size w w' := by
  refine fchecks_walk p a b xs.length ys.length c d (flE (lst p) xs ys) w (fun W h => fcheck_any p a b c d xs ys W (hx.later h) (hy.later h)) (fun W h => rfcheck_any p a b c d xs ys W (hx.later h) (hy.later h)) ?_
  intro W
  have := fcheck_any ⟨#[46]⟩ none none 0 0 [] [] W (.inl rfl) (.inl rfl)
  exact this
end Go.Proofs.YtgcapmoflmoobaaRRR
