/- window's Book: Open. -/
import Derived.Test.YtpkkcdbmhgmncaaBkr
namespace Go.Proofs.Ytpkkcdbmhgmncaa
set_option linter.unusedVariables false
set_option linter.unusedSimpArgs false
open Go.RowKit W T9 Go.Maps
def OpenPost (w : World) (xs : List Int) (e : Ending) (w' : World) : Prop := ∃ v, e = .returned v ∧ OwnR w.heap.size w' v xs ∧ Below w.heap.size w w'
theorem Col.len {S : List Int} {left : Lit → Bool} {L : List Int} (h : Col S left L) : L.length ≤ S.length := h.nodup.length_le_of_subset fun x hx => ((h.mem x).1 hx).1
def OpenRel (w : World) (mb : Nat) (D : DataW Unit) (S : List Int) (v : Value) (wr : World) (left : Lit → Bool) (cnt : Nat) (L : List Int) : Prop :=
  wr.ranges Try.prog 2 (unitElem (H := Unit)) mb w.heap.size S.length D left cnt ∧ OwnR (w.heap.size + 1) wr v L ∧ Col S left L ∧ Below w.heap.size w wr
theorem OwnR.lt {B : Nat} {w : World} {v : Value} {xs : List Int} (h : OwnR B w v xs) {k : Nat} (e : v.ownBlock = some k) : B ≤ k := (World.ownsRow.lt h k e).1
theorem OwnR.later {B : Nat} {w w' : World} {v : Value} {xs : List Int} (h : OwnR B w v xs) (k : Below w.heap.size w w') : OwnR B w' v xs := own_below h k
theorem OwnR.base {B B' : Nat} {w : World} {v : Value} {xs : List Int} (h : OwnR B w v xs) (k : B' ≤ B) : OwnR B' w v xs := by
  refine ⟨h.1, h.2.imp id ?_⟩
  rintro ⟨b, cap, cur, hv, hb, r⟩
  exact ⟨b, cap, cur, hv, Nat.le_trans k hb, r⟩
theorem SetOf.mem_of {D : DataW Unit} {S : List Int} (h : SetOf D S) {x : Int} {v : Value} {y : DataW Unit × List MemPlace} (hat : ∀ zd, D.atKey (kl x) zd = y.1) (hv : unitElem (H := Unit) v = some y) : x ∈ S := by
  have e := has_true_of_atKey hat
  rw [h.has] at e
  simpa using e
set_option maxRecDepth 100000 in
set_option maxHeartbeats 4000000 in
theorem open_spec {w : World} {bb mb : Nat} {d c : Int} {S : List Int} (h : BookAt w bb mb d c S) (hs : S.length ≤ 4096) (up : S.Pairwise (· < ·)) :
    Calls Try.prog 19 #[.pointer (some ⟨bb, 0, none⟩)] w (OpenPost w S) := by
  have k := made_ok h
  have c2 := h.c2
  obtain ⟨D, o, so⟩ := h.map
  have OW := hide o
  have SO := hide so
  have HS := hide hs
  have UP := hide up
  have ML := hide h.mlt
  clear h o so hs up
  go_enter Try.func19, Try.ntmps19
  go_wp2_with fail
  refine k.mono ?_
  rintro e w' ⟨rfl, rfl⟩
  go_wp2_with (first
    | (at_range; refine wpList_range_own _ rfl _ 79 rfl 2 83 lawK Try.underlying79 _ mb _ D rfl OW.out ?_; intro w0 hrg0 hg0 hs0; have RG := hide hrg0; have GR := hide hg0; have SZ := hide hs0; clear hrg0 hg0 hs0)
    | fail)
  go_frame
  go_loopw [3] (fun v wr => ∃ (left : Lit → Bool) (cnt : Nat) (L : List Int), Hid (OpenRel w mb D S v wr left cnt L)) (fun _ wr => wr.rangeLeft mb w.heap.size)
  case atStart =>
    exact ⟨_, _, [], ⟨RG.out, OwnR.nil _ _, Col.start SO.out, ⟨GR.out.os, GR.out.tape, GR.out.output, GR.out.size, fun k hk => GR.out.block k hk (by simp)⟩⟩⟩
  case round =>
    obtain ⟨left, cnt, L, HR⟩ := hrel
    go_wp2_with (first
      | (at_next; refine wpList_next_ranges (α := Int) (β := Unit) _ rfl _ rfl 2 lawK (unitElem (H := Unit)) (fun x => .int .i64 x) (fun _ => .agg #[]) invKey invUnit mb w.heap.size S.length D left cnt rfl HR.out.1 ?_ ?_)
      | fail)
    · intro _ hl0
      have DN := hide (HR.out.2.2.1.done hl0 UP.out)
      have LE := hide (HR.out.2.2.1.len)
      clear hl0
      go_wp2_with fail
      refine (sortR HR.out.2.1 (by have := LE.out; have := HS.out; omega)).mono ?_
      rintro e w2 ⟨rfl, o2, g2⟩
      go_wp2_with fail
      go_returns
      refine ⟨u3, rfl, ?_, ?_⟩
      · rw [DN.out] at o2; exact o2.base (by omega)
      · exact HR.out.2.2.2.grown g2 HR.out.2.2.2.size (fun k hk => by have := (HR.out.2.1.lt hk); omega)
    · intro x cc z y w1 cnt1 hkey hlx hv hat hrg1 hlt hg1 hs1 hen
      obtain ⟨rfl, wx⟩ := key_is hkey
      have R1 := hide hrg1
      have O1 := hide (HR.out.2.1.kept hg1 (fun k hk => by injection hk with hk; omega))
      have B1 := hide (HR.out.2.2.2.grown hg1 HR.out.2.2.2.size (fun k hk => by injection hk with hk; omega))
      have C1 := hide (HR.out.2.2.1.step hlx (SO.out.mem_of hat hv))
      have LT := hide hlt
      have bl : (L.length + 1) * 8 ≤ 140737488355328 := by have := HR.out.2.2.1.len; have := HS.out; omega
      have HB : w.heap.size + 1 ≤ w1.heap.size := by have := hrg1.lt; omega
      have S1 := hide hs1
      clear hrg1 hlx hv hat hlt hkey hs1 hg1
      go_wp2_with (at_builtin; go_loud (refine wpList_append_r rfl _ _ rfl (w.heap.size + 1) u3 L rfl (O1.out.later ((Below.refl _ _).alloc (Nat.le_refl _) _)) w1.heap.size x rfl (by simp [go_sem]) (by simp; omega) bl ?_); intro v2 w2 O2 g2; have OX := hide O2; have GX := hide g2; clear O2 g2)
      go_roundw
      case rel =>
        refine ⟨_, cnt1, L ++ [x], ⟨?_, OX.out, C1.out, ?_⟩⟩
        · exact (R1.out.alloc _).kept GX.out (fun e => by have := (O1.out.lt e.symm); have := ML.out; omega) (fun e => by have := (O1.out.lt e.symm); omega)
        · exact (B1.out.alloc B1.out.size _).grown GX.out (by have := B1.out.size; simp; omega) (fun k hk => by have := (O1.out.lt hk); omega)
      case measure =>
        have q : w2.rangeLeft mb w.heap.size = cnt1 := (((R1.out.alloc _).kept GX.out (fun e => by have := (O1.out.lt e.symm); have := ML.out; omega) (fun e => by have := (O1.out.lt e.symm); omega))).left_eq
        rw [q, HR.out.1.left_eq]; exact LT.out
end Go.Proofs.Ytpkkcdbmhgmncaa
