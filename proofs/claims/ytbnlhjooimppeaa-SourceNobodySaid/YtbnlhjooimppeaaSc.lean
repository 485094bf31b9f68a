/- source: reckon. -/
import Derived.Test.YtbnlhjooimppeaaSb
import Derived.Lib.MinMax
namespace Go.Proofs.Ytbnlhjooimppeaa
set_option linter.unusedVariables false
set_option linter.unusedSimpArgs false
open Go.RowKit W Go.Maps
def rkM (r : List En) (late mark : Int) : Int := match r with | [] => mark | x :: _ => max mark (x.2 - late)
abbrev ibC (b : Tb) (late idle mark : Int) : Array Value := #[.pointer (some ⟨b.q1, 0, none⟩), .map (some b.sb), .pointer (some ⟨b.q2, 0, none⟩), .int .i64 late, .int .i64 idle, .int .i64 mark]
set_option maxRecDepth 100000 in
set_option maxHeartbeats 4000000 in
theorem reckon_spec {B : Nat} {w : World} {b : Tb} {lim : Nat} {late idle mark : Int} {v2 : Value} {r2 : List En} (hi : Bw w b.ib 112 (ibC b late idle mark)) (q2 : QA B w b.q2 b.k2 b.m2 lim v2 r2) (hl : 0 ≤ late ∧ late ≤ 1099511627775)
    (hr : ∀ x ∈ r2, 0 ≤ x.2 ∧ x.2 ≤ 1099511627775) :
    Calls Try.prog 77 #[.pointer (some ⟨b.ib, 0, none⟩)] w fun e w' => e = .returned (.tuple #[]) ∧ Bw w' b.ib 112 (ibC b late idle (rkM r2 late mark)) ∧ Chg (· = b.ib) w w' := by
  have kn := qnext_spec q2
  have HI := hide hi
  have li := hi.lt
  have c2 := hi.cell 2 _ rfl
  cases r2 with
  | nil =>
    simp only [nxtV] at kn
    simp only [rkM]
    clear hi hr q2
    go_enter Try.func77, Try.ntmps77
    go_wp2_with (go_at_call 25; refine kn.mono ?_; rintro e w1 ⟨rfl, b1⟩; have z1 := b1.size)
    go_end0
    have B1 : Below w.heap.size w (w1.alloc (.cells #[.string ByteArray.empty, .int .i64 0] 43)) := b1.alloc z1 _
    exact ⟨rfl, HI.out.later B1, Chg.of_below B1⟩
  | cons x r2 =>
    simp only [nxtV] at kn
    simp only [rkM]
    obtain ⟨x1, x2⟩ := hr x List.mem_cons_self
    obtain ⟨hl1, hl2⟩ := hl
    clear hi hr q2
    go_enter Try.func77, Try.ntmps77
    go_wp2_with (go_at_call 25; refine kn.mono ?_; rintro e w1 ⟨rfl, b1⟩; have z1 := b1.size)
    refine abs_wp (fun V => Hid (Below w.heap.size w V) ∧ V.cell? ⟨w1.heap.size, 1, none⟩ = some (.int .i64 x.2) ∧ w1.heap.size < V.heap.size) ⟨hide (b1.alloc z1 _), by simp [go_sem], by simp⟩ ?_
    rintro V ⟨BV, y1, zV⟩
    have IV := hide (HI.out.later BV.out)
    have d3 := IV.out.cell 3 _ rfl
    have d5 := IV.out.cell 5 _ rfl
    have f5 := IV.out.frz 5
    have lV := IV.out.lt
    clear c2 kn
    go_region
    all_goals
      go_wp2_with fail
      go_end0
      have s1 := (IV.out.set 5 (.int .i64 (max mark (x.2 - late))))
      have ne : ∀ u, Chg (· = b.ib) V (V.setCell ⟨b.ib, 5, none⟩ u) := fun u => Chg.set _ rfl
      refine ⟨rfl, ?_, ?_⟩
      · first | exact s1 | exact s1.later ((Below.refl _ _).drew) | exact s1.later (below_drewN (Below.refl _ _) _)
      · first | exact (Chg.of_below BV.out).trans (ne _) (fun _ _ q => q) | exact (Chg.of_below BV.out).trans ((ne _).drew) (fun _ _ q => q)
end Go.Proofs.Ytbnlhjooimppeaa
