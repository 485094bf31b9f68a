/- due: Pop of the heap's list. -/
import Derived.Test.YtdfmfkibafcbcaaQp
namespace Go.Proofs.Ytdfmfkibafcbcaa
set_option linter.unusedVariables false
set_option linter.unusedSimpArgs false
open Go.RowKit W Go.Maps
theorem step_delete {P : Program} {ops : Array Oper} {o : Oper} {a : Act} {w : World} {K : Act → World → Prop} {Q : Exit → Act → World → Prop} {E : Prop} (hgd : o.guard = none) (m x : Operand) (t k : TypeId)
    (ho : o.op = .call { callee := .builtin .delete, args := #[m, x], argTypes := #[t, k] }) (mv kv : Value) (hm : a.eval m = mv) (hx : a.eval x = kv) (w' : World)
    (hrun : ∀ ty, (Builtin.delete_ #[t, k] ty #[mv, kv]).run P w = .ok (.tuple #[]) w') (hK : K (a.put o.dst (.tuple #[])) w') :
    if Region.wanted o (yielded ops a.tmps) = true then Oper.wp P o a w K Q else E := by
  have hw : Region.wanted o (yielded ops a.tmps) = true := by simp [Region.wanted, hgd]
  rw [if_pos hw]
  unfold Oper.wp
  simp [execOp, ho, resolve, invoke, builtin, hm, hx, hrun, Result.andThen]
  exact hK
/-- The list without its last one, which has been cleared. -/
theorem KM.popped {B : Nat} {w : World} {kb mb m g n c : Nat} {l : List En} {M : ByteArray → Option Int} (h : KM B w kb mb (.slice (some ⟨g, 0, none⟩) (n + 1) c) l m M) (hn : l.length = n + 1) :
    KM B (((w.setCell ⟨g, n * 2, none⟩ (.string ByteArray.empty)).setCell ⟨g, n * 2 + 1, none⟩ (.int .i64 0)).setCell ⟨kb, 0, none⟩ (.slice (some ⟨g, 0, none⟩) n c)) kb mb (.slice (some ⟨g, 0, none⟩) n c) (l.take n) m M ∧
    Chg (kS3 kb mb (.slice (some ⟨g, 0, none⟩) (n + 1) c)) w (((w.setCell ⟨g, n * 2, none⟩ (.string ByteArray.empty)).setCell ⟨g, n * 2 + 1, none⟩ (.int .i64 0)).setCell ⟨kb, 0, none⟩ (.slice (some ⟨g, 0, none⟩) n c)) := by
  have r0 := h.row
  rw [hn] at r0
  have r1 := row_put r0 (n * 2) (by omega) (.string ByteArray.empty)
  have r2 := row_put r1 (n * 2 + 1) (by omega) (.int .i64 0)
  have C : Chg (· = g) w ((w.setCell ⟨g, n * 2, none⟩ (.string ByteArray.empty)).setCell ⟨g, n * 2 + 1, none⟩ (.int .i64 0)) := (Chg.set (S := (· = g)) _ rfl).trans (Chg.set (S := (· = g)) _ rfl) (fun _ _ q => q)
  have n1 : ¬ kb = g := fun q => h.nrk (by rw [← q]; rfl)
  have n2 : ¬ mb = g := fun q => h.nrm (by rw [← q]; rfl)
  have k1 := h.k.chg C n1
  have m1 := h.map.chg C n2
  have D : Chg (· = kb) ((w.setCell ⟨g, n * 2, none⟩ (.string ByteArray.empty)).setCell ⟨g, n * 2 + 1, none⟩ (.int .i64 0)) (((w.setCell ⟨g, n * 2, none⟩ (.string ByteArray.empty)).setCell ⟨g, n * 2 + 1, none⟩ (.int .i64 0)).setCell ⟨kb, 0, none⟩ (.slice (some ⟨g, 0, none⟩) n c)) := Chg.set _ rfl
  have lt : (l.take n).length = n := by rw [List.length_take]; omega
  refine ⟨⟨k1.set 0 _, ?_, m1.chg D (fun q => h.nkm q.symm), h.bk, h.bm, fun e he => h.sz e (List.mem_of_mem_take he)⟩, (C.mono (fun k (e : k = g) => .inr (.inr (by rw [e]; rfl)))).trans (D.mono (S' := kS3 kb mb (.slice (some ⟨g, 0, none⟩) (n + 1) c)) (fun k e => .inl e)) (fun _ _ q => q)⟩
  have r3 := chg_row r2 D (fun k e q => n1 (by
    rw [q] at e
    have : g = kb := by simpa [Value.ownBlock] using e
    exact this.symm))
  rw [lt]
  obtain ⟨hl, ho⟩ := r3
  rcases ho with ⟨e, _⟩ | ⟨g', cap, cur, e, hb, hh, hc, hm, hs, ht⟩
  · cases e
  · injection e with e1 _ e3
    injection e1 with e1
    injection e1 with e1
    subst e1 e3
    refine ⟨by rw [dues_len, lt], .inr ⟨g, c, cur, rfl, hb, hh, by omega, hm, hs, ?_⟩⟩
    have := congrArg (List.take (n * 2)) ht
    rw [List.take_take, Nat.min_eq_left (by omega), List.take_set_of_le (by omega), List.take_set_of_le (by omega), ← dues_take] at this
    exact this
set_option maxRecDepth 100000 in
set_option maxHeartbeats 8000000 in
theorem kpop_spec {B : Nat} {w : World} {kb mb n : Nat} {v : Value} {l : List En} (h : KQ B w kb mb v l) (hn : l.length = n + 1) (hB : B ≤ w.heap.size) :
    Calls Try.prog 79 #[.pointer (some ⟨kb, 0, none⟩)] w fun e w' => e = .returned (.iface 43 (enV (l[n]'(by omega)))) ∧ ∃ v', KQ B w' kb mb v' (l.take n) ∧ Chg (kS3 kb mb v) w w' ∧ v'.ownBlock = v.ownBlock := by
  obtain ⟨g, c, rfl, nc, gl, gB, fz⟩ := h.km.form (n + 1) hn.symm (by omega)
  obtain ⟨x0, x1⟩ := h.km.key hn.symm (i := n) (by omega)
  have c0 := h.km.k.cell 0 _ rfl
  have c1 := h.km.k.cell 1 _ rfl
  have kl := h.km.k.lt
  have k0 := h.km.k.frz 0
  have hl := h.len
  obtain ⟨a, ha⟩ : ∃ a, a = l[n]'(by omega) := ⟨_, rfl⟩
  have HA := hide ha
  rw [← ha] at x0 x1 ⊢
  have F0 := fz (n * 2)
  have F1 := fz (n * 2 + 1)
  have nk : ¬ g = kb := fun q => h.km.nrk (by rw [← q]; rfl)
  have H := hide h
  have HN := hide hn
  clear h ha fz
  go_enter Try.func79, Try.ntmps79
  go_wp2_with fail
  refine abs_wp (fun W1 => Hid (KM B W1 kb mb (.slice (some ⟨g, 0, none⟩) n c) (l.take n) l.length (idxI l)) ∧ Hid (Chg (kS3 kb mb (.slice (some ⟨g, 0, none⟩) (n + 1) c)) w W1) ∧ W1.cell? ⟨w.heap.size, 0, none⟩ = some (.string a.1) ∧ W1.cell? ⟨w.heap.size, 1, none⟩ = some (.int .i64 a.2) ∧ w.heap.size < W1.heap.size) ?_ ?_
  · obtain ⟨q1, q2⟩ := H.out.km.popped HN.out
    refine ⟨hide (q1.later ((Below.refl _ _).alloc (Nat.le_refl _) _)), hide (q2.alloc _), by simp [go_sem], by simp [go_sem], by simp⟩
  rintro W1 ⟨K1, C1, y0, y1, zW⟩
  have d1 := K1.out.k.cell 1 _ rfl
  have M1 : MapG elI W1.drew mb l.length (idxI l) := K1.out.map.chg (S := fun _ => False) ((Chg.refl _ _).drew) (fun q => q)
  have sa : a.1.size ≤ maxLen := by rw [HA.out]; exact H.out.km.sz _ (List.getElem_mem _)
  obtain ⟨w2, hz0⟩ : ∃ w2, (∀ ty, (Builtin.delete_ #[53, 9] ty #[.map (some mb), .string a.1]).run Try.prog W1.drew = .ok (.tuple #[]) w2) ∧ MapG elI w2 mb n (updM (idxI l) a.1 none) ∧ W1.drew.mapTurned w2 mb := by
    obtain ⟨w2, hz, mz, tz⟩ := M1.del unMap a.1 sa 0
    have hk : (idxI l a.1).isSome = true := by rw [HA.out, idxI_is H.out.keys (by have := HN.out; omega)]; rfl
    rw [if_pos hk, HN.out] at mz
    refine ⟨w2, fun ty => ?_, mz, tz⟩
    obtain ⟨w3, hz3, _, _⟩ := M1.del unMap a.1 sa ty
    rw [← hz]
    unfold Builtin.delete_
    rfl
  obtain ⟨hz, mz, tz⟩ := hz0
  have HZ := hide hz
  have K2 := hide ((K1.out.later (w' := W1.drew) ((Below.refl _ _).drew)).putM tz mz)
  have C2 := hide (mapTurned_chg tz)
  have nm : w.heap.size ≠ mb := by have := H.out.km.map.lt; omega
  have e0 : w2.cell? ⟨w.heap.size, 0, none⟩ = some (.string a.1) := (C2.out.cell (by simp; omega) nm).trans y0
  have e1 : w2.cell? ⟨w.heap.size, 1, none⟩ = some (.int .i64 a.2) := (C2.out.cell (by simp; omega) nm).trans y1
  clear mz tz hz M1 x0 x1 c0 c1 F0 F1 k0
  go_region_law ((refine step_delete (by rfl) _ _ 53 9 (by rfl) (.map (some mb)) (.string a.1) (by rfl) (by rfl) w2 HZ.out ?_))
  all_goals
    go_wp2_with fail
    go_returns
    refine ⟨rfl, .slice (some ⟨g, 0, none⟩) n c, ⟨?_, H.out.keys.take, by rw [List.length_take]; omega⟩, C1.out.trans ((Chg.refl (kS3 kb mb (.slice (some ⟨g, 0, none⟩) (n + 1) c)) W1).drew.trans (C2.out.mono (fun k (e : k = mb) => .inr (.inl e))) (fun _ _ q => q)) (fun _ _ q => q), rfl⟩
    have q := K2.out
    have e : updM (idxI l) a.1 none = idxI (l.take n) := by rw [HA.out]; exact idx_pop H.out.keys HN.out
    rw [e] at q
    rw [show (l.take n).length = n from by rw [List.length_take, HN.out]; omega]
    exact q
end Go.Proofs.Ytdfmfkibafcbcaa
