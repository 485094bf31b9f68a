/- The reference's Book: Close's walk. -/
import Derived.Test.YtpkkcdbmhgmncaaBkh
namespace Go.Proofs.Ytpkkcdbmhgmncaa
set_option linter.unusedVariables false
set_option linter.unusedSimpArgs false
open Go.RowKit W T9 Go.Maps
set_option maxRecDepth 100000 in
set_option maxHeartbeats 4000000 in
theorem rclose_ok {X : List Nat} {w : World} {rb : Nat} {d c : Int} {S : List Int} (h : RBook X w rb d c S) (hs : S.length ≤ 4096) (t q : Int) (j : IsHi t) (h1 : 1 ≤ d) (h2 : d ≤ 1048576) (hq : q + 1 = t / d) (n : -9223372036854775808 < q + 1) (hc : c < q) :
    Calls Try.prog 18 #[.pointer (some ⟨rb, 0, none⟩), .int .i64 t] w (RClosePost X w rb d q S) := by
  have kt := rthrough_ok t d (q + 1) j h1 h2 hq n
  have c0 := h.c0
  have c2 := h.c2
  have f2 := h.f2
  have lr := h.lt rb h.mem
  have HB := hide (h.closed q)
  have HZ := hide (show (w.setCell ⟨rb, 2, none⟩ (.int .i64 q)).heap.size = w.heap.size by simp)
  have HM := hide ((Mod.refl [rb] w).setCell (p := ⟨rb, 2, none⟩) (by simp) (.int .i64 q))
  obtain ⟨a, cap, c1, i, n0, z1, z2, m⟩ := (h.closed q).c1
  have IA := hide i
  have MA := hide m
  have F1 := hide (h.closed q).f1
  have C1 := hide c1
  obtain ⟨n, hn⟩ : ∃ n, n = S.length := ⟨_, rfl⟩
  rw [← hn] at hs z1
  have NN := hide hn
  rw [show q + 1 - 1 = q by omega] at kt
  have nc : ¬ q ≤ c := by omega
  clear h j h1 h2 hq hc i n0 m hn c1
  go_enter Try.func18, Try.ntmps18
  go_wp2_with fail
  refine (kt _).mono ?_
  rintro e w' ⟨rfl, rfl⟩
  clear kt
  go_wp2_with fail
  clear c0 c2 nc f2
  obtain ⟨w1, hw1⟩ : ∃ Y, Y = w.setCell ⟨rb, 2, none⟩ (.int .i64 q) := ⟨_, rfl⟩
  rw [← hw1] at HB HZ HM IA MA F1 C1
  try rw [← hw1]
  clear hw1
  go_loopw [7, 8, 9] (fun u v i wr => ∃ (k : Nat) (O I : List Int), k ≤ n ∧ i = .int .i64 k ∧ Hid (RClR w.heap.size w1 q S u v wr k O I)) (fun _ _ i _ => n - (intOf i).toNat)
  case atStart => exact ⟨0, [], [], by omega, rfl, ⟨OwnR.nil _ _, OwnR.nil _ _, Apt.none _, (Below.refl _ _), by rw [HZ.out]; exact Nat.le_refl _, rfl, rfl, by simp, by simp⟩⟩
  case round =>
    obtain ⟨k, O, I, hk, rfl, PR⟩ := hrel
    have d1 := (PR.out.below.cell (p := ⟨rb, 1, none⟩) lr).trans C1.out
    rw [← NN.out] at d1
    by_cases hlt : k < n
    · have k1 : k < S.length := by have := NN.out; omega
      have hne : S ≠ [] := fun e => by rw [e] at k1; simp at k1
      obtain ⟨g, o, rfl, la⟩ := IA.out.resolve_left hne
      have LG := hide (show g < w.heap.size from Nat.lt_of_lt_of_eq (MA.out _ rfl).2 HZ.out)
      have e1 := (PR.out.below.cell (p := ⟨g, o + k, none⟩) LG.out).trans (la.cell k k1)
      obtain ⟨x, hx⟩ : ∃ x, x = S[k] := ⟨_, rfl⟩
      rw [← hx] at e1
      have DC : Hid (S.drop k = x :: S.drop (k + 1)) := by rw [hx]; exact drop_cons k1
      have hlt' : (k : Int) < (n : Int) := by omega
      have b1 : (O.length + 1) * 8 ≤ 140737488355328 := by have := PR.out.lo; omega
      have b2 : (I.length + 1) * 8 ≤ 140737488355328 := by have := PR.out.li; omega
      have HWs : w.heap.size ≤ wr.heap.size := PR.out.le
      clear hx k1 hne la
      by_cases lq : x ≤ q
      · go_wp2_with (at_builtin; refine wpList_append_r2 rfl _ _ rfl w.heap.size u7 O rfl (PR.out.oo.later ((Below.refl _ _).alloc (Nat.le_refl _) _)) wr.heap.size x rfl (by simp [go_sem]) (by simp; omega) (by omega) ?_; intro v2 w2 O2 g2 h2; have NX := hide (PR.out.nextO DC.out lq O2 g2 h2); clear O2 g2 h2)
        go_roundw
        case rel => exact ⟨k + 1, O ++ [x], I, by omega, by go_num, NX.out⟩
        case measure => simp [intOf]; omega
      · go_wp2_with (at_builtin; refine wpList_append_r2 rfl _ _ rfl w.heap.size u8 I rfl (PR.out.oi.later ((Below.refl _ _).alloc (Nat.le_refl _) _)) wr.heap.size x rfl (by simp [go_sem]) (by simp; omega) (by omega) ?_; intro v2 w2 O2 g2 h2; have NX := hide (PR.out.nextI DC.out lq O2 g2 h2); clear O2 g2 h2)
        go_roundw
        case rel => exact ⟨k + 1, O, I ++ [x], by omega, by go_num, NX.out⟩
        case measure => simp [intOf]; omega
    · obtain rfl : k = n := by omega
      have DC : S.drop k = [] := by rw [NN.out]; exact List.drop_length
      have EO := PR.out.eo
      have EI := PR.out.ei
      rw [DC, List.filter_nil, List.append_nil] at EO EI
      subst EO EI
      have f1 : wr.frozen? ⟨rb, 1, none⟩ = false := (PR.out.below.frozen (p := ⟨rb, 1, none⟩) lr).trans F1.out
      have bw : Below w1.heap.size w1 wr := by rw [HZ.out]; exact PR.out.below
      have oi := PR.out.oi
      rw [← HZ.out] at oi
      have FIN := hide (HB.out.stored bw oi)
      have OO := hide PR.out.oo
      have BW := hide bw
      have SS := hide PR.out.oi
      obtain ⟨a2, cp2, ev, _⟩ := PR.out.oi.is
      subst ev
      clear bw oi DC
      go_wp2_with fail
      go_returns
      exact ⟨u7, rfl, OO.out.mod ((Mod.refl [rb] wr).setCell (p := ⟨rb, 1, none⟩) (by simp) _) (by intro x hx; rw [List.mem_singleton] at hx; rw [hx]; exact lr), FIN.out.1, HM.out.trans FIN.out.2⟩
end Go.Proofs.Ytpkkcdbmhgmncaa
