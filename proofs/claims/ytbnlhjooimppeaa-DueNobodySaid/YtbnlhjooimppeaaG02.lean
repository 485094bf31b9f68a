/- Texts that belong together: Qq Qu Qd Qh Qz Qy Qt Qc Sa Sb Sc. -/
import Derived.Test.YtbnlhjooimppeaaG01
import Derived.LaidEqlPtr
import Derived.Lib.MinMax
set_option linter.unusedSimpArgs false
set_option linter.unusedVariables false
/- due: Pop of the heap's list. -/
namespace Go.Proofs.Ytbnlhjooimppeaa
set_option linter.unusedVariables false
set_option linter.unusedSimpArgs false
open Go.RowKit W Go.Maps
theorem step_delete {P : Program} {ops : Array Oper} {o : Oper} {a : Act} {w : World} {K : Act → World → Prop} {Q : Exit → Act → World → Prop} {E : Prop} (hgd : o.guard = none) (m x : Operand) (t k : TypeId)
    (ho : o.op = .call { callee := .builtin .delete, args := #[m, x], argTypes := #[t, k] }) (mv kv : Value) (hm : a.eval m = mv) (hx : a.eval x = kv) (w' : World)
    (hrun : ∀ ty, (Builtin.delete_ #[t, k] ty #[mv, kv]).run P w = .ok (.tuple #[]) w') (hK : K (a.put o.dst (.tuple #[])) w') :
    if Region.wanted o (yielded ops a.tmps) = true then Oper.wp P o a w K Q else E := by
  have hw : Region.wanted o (yielded ops a.tmps) = true := by simp [Region.wanted, hgd]
  rw [if_pos hw]
  unfold Oper.wp
  simp [execOp, ho, resolve, invoke, builtin, hm, hx, hrun, Result.andThen]
  exact hK
/-- The list without its last one, which has been cleared. -/
theorem KM.popped {B : Nat} {w : World} {kb mb m g n c : Nat} {l : List En} {M : ByteArray → Option Int} (h : KM B w kb mb (.slice (some ⟨g, 0, none⟩) (n + 1) c) l m M) (hn : l.length = n + 1) :
    KM B (((w.setCell ⟨g, n * 2, none⟩ (.string ByteArray.empty)).setCell ⟨g, n * 2 + 1, none⟩ (.int .i64 0)).setCell ⟨kb, 0, none⟩ (.slice (some ⟨g, 0, none⟩) n c)) kb mb (.slice (some ⟨g, 0, none⟩) n c) (l.take n) m M ∧
    Chg (kS3 kb mb (.slice (some ⟨g, 0, none⟩) (n + 1) c)) w (((w.setCell ⟨g, n * 2, none⟩ (.string ByteArray.empty)).setCell ⟨g, n * 2 + 1, none⟩ (.int .i64 0)).setCell ⟨kb, 0, none⟩ (.slice (some ⟨g, 0, none⟩) n c)) := by
  have r0 := h.row
  rw [hn] at r0
  have r1 := row_put r0 (n * 2) (by omega) (.string ByteArray.empty)
  have r2 := row_put r1 (n * 2 + 1) (by omega) (.int .i64 0)
  have C : Chg (· = g) w ((w.setCell ⟨g, n * 2, none⟩ (.string ByteArray.empty)).setCell ⟨g, n * 2 + 1, none⟩ (.int .i64 0)) := (Chg.set (S := (· = g)) _ rfl).trans (Chg.set (S := (· = g)) _ rfl) (fun _ _ q => q)
  have n1 : ¬ kb = g := fun q => h.nrk (by rw [← q]; rfl)
  have n2 : ¬ mb = g := fun q => h.nrm (by rw [← q]; rfl)
  have k1 := h.k.chg C n1
  have m1 := h.map.chg C n2
  have D : Chg (· = kb) ((w.setCell ⟨g, n * 2, none⟩ (.string ByteArray.empty)).setCell ⟨g, n * 2 + 1, none⟩ (.int .i64 0)) (((w.setCell ⟨g, n * 2, none⟩ (.string ByteArray.empty)).setCell ⟨g, n * 2 + 1, none⟩ (.int .i64 0)).setCell ⟨kb, 0, none⟩ (.slice (some ⟨g, 0, none⟩) n c)) := Chg.set _ rfl
  have lt : (l.take n).length = n := by rw [List.length_take]; omega
  refine ⟨⟨k1.set 0 _, ?_, m1.chg D (fun q => h.nkm q.symm), h.bk, h.bm, fun e he => h.sz e (List.mem_of_mem_take he)⟩, (C.mono (fun k (e : k = g) => .inr (.inr (by rw [e]; rfl)))).trans (D.mono (S' := kS3 kb mb (.slice (some ⟨g, 0, none⟩) (n + 1) c)) (fun k e => .inl e)) (fun _ _ q => q)⟩
  have r3 := chg_row r2 D (fun k e q => n1 (by
    rw [q] at e
    have : g = kb := by simpa [Value.ownBlock] using e
    exact this.symm))
  rw [lt]
  obtain ⟨hl, ho⟩ := r3
  rcases ho with ⟨e, _⟩ | ⟨g', cap, cur, e, hb, hh, hc, hm, hs, ht⟩
  · cases e
  · injection e with e1 _ e3
    injection e1 with e1
    injection e1 with e1
    subst e1 e3
    refine ⟨by rw [dues_len, lt], .inr ⟨g, c, cur, rfl, hb, hh, by omega, hm, hs, ?_⟩⟩
    have := congrArg (List.take (n * 2)) ht
    rw [List.take_take, Nat.min_eq_left (by omega), List.take_set_of_le (by omega), List.take_set_of_le (by omega), ← dues_take] at this
    exact this
set_option maxRecDepth 100000 in
set_option maxHeartbeats 8000000 in
theorem kpop_spec {B : Nat} {w : World} {kb mb n : Nat} {v : Value} {l : List En} (h : KQ B w kb mb v l) (hn : l.length = n + 1) (hB : B ≤ w.heap.size) :
    Calls Try.prog 127 #[.pointer (some ⟨kb, 0, none⟩)] w fun e w' => e = .returned (.iface 43 (enV (l[n]'(by omega)))) ∧ ∃ v', KQ B w' kb mb v' (l.take n) ∧ Chg (kS3 kb mb v) w w' ∧ v'.ownBlock = v.ownBlock := by
  obtain ⟨g, c, rfl, nc, gl, gB, fz⟩ := h.km.form (n + 1) hn.symm (by omega)
  obtain ⟨x0, x1⟩ := h.km.key hn.symm (i := n) (by omega)
  have c0 := h.km.k.cell 0 _ rfl
  have c1 := h.km.k.cell 1 _ rfl
  have kl := h.km.k.lt
  have k0 := h.km.k.frz 0
  have hl := h.len
  obtain ⟨a, ha⟩ : ∃ a, a = l[n]'(by omega) := ⟨_, rfl⟩
  have HA := hide ha
  rw [← ha] at x0 x1 ⊢
  have F0 := fz (n * 2)
  have F1 := fz (n * 2 + 1)
  have nk : ¬ g = kb := fun q => h.km.nrk (by rw [← q]; rfl)
  have H := hide h
  have HN := hide hn
  clear h ha fz
  go_enter Try.func127, Try.ntmps127
  go_wp2_with fail
  refine abs_wp (fun W1 => Hid (KM B W1 kb mb (.slice (some ⟨g, 0, none⟩) n c) (l.take n) l.length (idxI l)) ∧ Hid (Chg (kS3 kb mb (.slice (some ⟨g, 0, none⟩) (n + 1) c)) w W1) ∧ W1.cell? ⟨w.heap.size, 0, none⟩ = some (.string a.1) ∧ W1.cell? ⟨w.heap.size, 1, none⟩ = some (.int .i64 a.2) ∧ w.heap.size < W1.heap.size) ?_ ?_
  · obtain ⟨q1, q2⟩ := H.out.km.popped HN.out
    refine ⟨hide (q1.later ((Below.refl _ _).alloc (Nat.le_refl _) _)), hide (q2.alloc _), by simp [go_sem], by simp [go_sem], by simp⟩
  rintro W1 ⟨K1, C1, y0, y1, zW⟩
  have d1 := K1.out.k.cell 1 _ rfl
  have M1 : MapG elI W1.drew mb l.length (idxI l) := K1.out.map.chg (S := fun _ => False) ((Chg.refl _ _).drew) (fun q => q)
  have sa : a.1.size ≤ maxLen := by rw [HA.out]; exact H.out.km.sz _ (List.getElem_mem _)
  obtain ⟨w2, hz0⟩ : ∃ w2, (∀ ty, (Builtin.delete_ #[95, 9] ty #[.map (some mb), .string a.1]).run Try.prog W1.drew = .ok (.tuple #[]) w2) ∧ MapG elI w2 mb n (updM (idxI l) a.1 none) ∧ W1.drew.mapTurned w2 mb := by
    obtain ⟨w2, hz, mz, tz⟩ := M1.del unMap a.1 sa 0
    have hk : (idxI l a.1).isSome = true := by rw [HA.out, idxI_is H.out.keys (by have := HN.out; omega)]; rfl
    rw [if_pos hk, HN.out] at mz
    refine ⟨w2, fun ty => ?_, mz, tz⟩
    obtain ⟨w3, hz3, _, _⟩ := M1.del unMap a.1 sa ty
    rw [← hz]
    unfold Builtin.delete_
    rfl
  obtain ⟨hz, mz, tz⟩ := hz0
  have HZ := hide hz
  have K2 := hide ((K1.out.later (w' := W1.drew) ((Below.refl _ _).drew)).putM tz mz)
  have C2 := hide (mapTurned_chg tz)
  have nm : w.heap.size ≠ mb := by have := H.out.km.map.lt; omega
  have e0 : w2.cell? ⟨w.heap.size, 0, none⟩ = some (.string a.1) := (C2.out.cell (by simp; omega) nm).trans y0
  have e1 : w2.cell? ⟨w.heap.size, 1, none⟩ = some (.int .i64 a.2) := (C2.out.cell (by simp; omega) nm).trans y1
  clear mz tz hz M1 x0 x1 c0 c1 F0 F1 k0
  go_region_law ((refine step_delete (by rfl) _ _ 95 9 (by rfl) (.map (some mb)) (.string a.1) (by rfl) (by rfl) w2 HZ.out ?_))
  all_goals
    go_wp2_with fail
    go_returns
    refine ⟨rfl, .slice (some ⟨g, 0, none⟩) n c, ⟨?_, H.out.keys.take, by rw [List.length_take]; omega⟩, C1.out.trans ((Chg.refl (kS3 kb mb (.slice (some ⟨g, 0, none⟩) (n + 1) c)) W1).drew.trans (C2.out.mono (fun k (e : k = mb) => .inr (.inl e))) (fun _ _ q => q)) (fun _ _ q => q), rfl⟩
    have q := K2.out
    have e : updM (idxI l) a.1 none = idxI (l.take n) := by rw [HA.out]; exact idx_pop H.out.keys HN.out
    rw [e] at q
    rw [show (l.take n).length = n from by rw [List.length_take, HN.out]; omega]
    exact q
end Go.Proofs.Ytbnlhjooimppeaa
/- due: up. -/
namespace Go.Proofs.Ytbnlhjooimppeaa
set_option linter.unusedVariables false
set_option linter.unusedSimpArgs false
open Go.RowKit W Go.Maps
abbrev kV (kb : Nat) : Value := .iface 57 (.pointer (some ⟨kb, 0, none⟩))
abbrev d0E : En := (ByteArray.empty, 0)
abbrev fE (l : List En) : Nat → En := fn d0E l
abbrev HeapE (l : List En) : Prop := HeapF ltE (fE l) l.length
theorem fE_get {l : List En} {k : Nat} (h : k < l.length) : fE l k = l[k] := fn_get h
/-- While something goes up. -/
structure UpS (B : Nat) (w : World) (kb mb : Nat) (v : Value) (l : List En) (n : Nat) (wr : World) (l' : List En) (j : Nat) : Prop where
  kq : KQ B wr kb mb v l'
  perm : l'.Perm l
  inv : UpInv ltE (fE l') n j
  lt : j < n
  nl : n ≤ l'.length
  tail : ∀ k, n ≤ k → l'[k]? = l[k]?
  chg : Chg (kS3 kb mb v) w wr
def UpP (B : Nat) (w : World) (kb mb : Nat) (v : Value) (l : List En) (n : Nat) (w' : World) : Prop :=
  ∃ l', KQ B w' kb mb v l' ∧ l'.Perm l ∧ HeapF ltE (fE l') n ∧ (∀ k, n ≤ k → l'[k]? = l[k]?) ∧ Chg (kS3 kb mb v) w w'
theorem tdiv2 {k p : Nat} (h : 0 < k) (hp : p = (k - 1) / 2) : Int.tdiv ((k : Int) - 1) 2 = (p : Int) := by
  subst hp
  rw [show ((k : Int) - 1) = ((k - 1 : Nat) : Int) from by omega]
  exact Int.ofNat_tdiv _ _
theorem UpS.step {B : Nat} {w wr w' : World} {kb mb k p n : Nat} {v : Value} {l l' : List En} (h : UpS B w kb mb v l n wr l' k) (hp : p = (k - 1) / 2) (k0 : 0 < k) (kl : k < l'.length) (pl : p < l'.length) (hl : ltE l'[k] l'[p] = true) (q : KQ B w' kb mb v (swapL l' p k)) (c : Chg (kS3 kb mb v) wr w') : UpS B w kb mb v l n w' (swapL l' p k) p := by
  have lt := h.lt
  refine ⟨q, (swapL_perm pl kl).trans h.perm, ?_, by omega, by rw [swapL_len]; exact h.nl, fun i hi => ?_, h.chg.trans c (fun _ _ q => q)⟩
  · subst hp
    rw [fE, fn_swap pl kl]
    exact h.inv.step ordE lt k0 (by rw [fn_get kl, fn_get pl]; exact hl)
  · rw [← h.tail i hi, swapL_eq pl kl, List.getElem?_set_ne (by omega), List.getElem?_set_ne (by omega)]
theorem UpS.fin {B : Nat} {w wr w' : World} {kb mb k n : Nat} {v : Value} {l l' : List En} (h : UpS B w kb mb v l n wr l' k) (c : Below wr.heap.size wr w') (hd : k = 0 ∨ ltE (fE l' k) (fE l' ((k - 1) / 2)) = false) : UpP B w kb mb v l n w' :=
  ⟨l', h.kq.later c, h.perm, h.inv.done hd, h.tail, h.chg.trans (Chg.of_below (S := kS3 kb mb v) c) (fun _ _ q => q)⟩
set_option maxRecDepth 100000 in
set_option maxHeartbeats 8000000 in
theorem up_spec {B : Nat} {w : World} {kb mb j n : Nat} {v : Value} {l : List En} (h : KQ B w kb mb v l) (hn : n ≤ l.length) (hj : j < n) (hi : UpInv ltE (fE l) n j) :
    Calls Try.prog 70 #[kV kb, .int .i64 (j : Int)] w fun e w' => e = .returned (.tuple #[]) ∧ UpP B w kb mb v l n w' := by
  have U0 : Hid (UpS B w kb mb v l n w l j) := ⟨h, List.Perm.refl _, hi, hj, hn, fun _ _ => rfl, Chg.refl _ _⟩
  have hl := h.len
  clear h hi
  go_enter Try.func70, Try.ntmps70
  go_wp2_with fail
  go_loopw [1] (fun s1 wr => ∃ (l' : List En) (k : Nat), s1 = .int .i64 (k : Int) ∧ k < n ∧ Hid (UpS B w kb mb v l n wr l' k)) (fun s1 _ => (intOf s1).toNat)
  case atStart => exact ⟨l, j, rfl, hj, U0⟩
  case round =>
    obtain ⟨l', k, rfl, hk, U⟩ := hrel
    have sl := U.out.kq.len
    have nl := U.out.nl
    have kl : k < l'.length := by omega
    by_cases k0 : k = 0
    · subst k0
      have q0 : Int.tdiv (((0 : Nat) : Int) - 1) 2 = ((0 : Nat) : Int) := rfl
      go_wp2_with fail
      go_end0
      exact ⟨rfl, U.out.fin (by go_grown) (.inl rfl)⟩
    · obtain ⟨p, hp⟩ : ∃ p, p = (k - 1) / 2 := ⟨_, rfl⟩
      have qd := tdiv2 (by omega) hp
      have pk : p < k := by omega
      have pl : p < l'.length := by omega
      have HP := hide hp
      clear hp
      have ne : ((p : Int) == (k : Int)) = false := by rw [beq_eq_false_iff_ne]; omega
      have ks := less_spec U.out.kq.km kl (j := p) pl sl
      have kw := fun (w' : World) (b : Below wr.heap.size wr w') => swap_spec (U.out.kq.later b) (i := p) (j := k) pl kl
      obtain ⟨t, ht⟩ : ∃ t, t = ltE l'[k] l'[p] := ⟨_, rfl⟩
      have HT := hide ht
      rw [← ht] at ks
      clear ht
      cases t
      · go_wp2_with (go_at_call 126; refine ks.mono ?_; rintro e w5 ⟨rfl, b5⟩)
        go_end0
        exact ⟨rfl, U.out.fin (by go_grown) (.inr (by rw [fE_get kl, ← HP.out, fE_get pl]; exact HT.out.symm))⟩
      · go_wp2_with (first
          | (go_at_call 126; refine ks.mono ?_; rintro e w5 ⟨rfl, b5⟩)
          | (go_at_call 129; refine (kw _ (by go_grown)).mono ?_; rintro e w6 ⟨rfl, k6, c6⟩))
        go_roundw
        case rel => exact ⟨_, p, rfl, by omega, hide (U.out.step HP.out (by omega) kl pl HT.out.symm k6 ((Chg.of_below (by go_grown)).trans c6 (fun _ _ q => q)))⟩
        case measure => simp [intOf]; omega
end Go.Proofs.Ytbnlhjooimppeaa
/- due: down. -/
namespace Go.Proofs.Ytbnlhjooimppeaa
set_option linter.unusedVariables false
set_option linter.unusedSimpArgs false
open Go.RowKit W Go.Maps
/-- While something goes down. -/
structure DnS (B : Nat) (w : World) (kb mb : Nat) (v : Value) (l : List En) (n i0 : Nat) (wr : World) (l' : List En) (i : Nat) : Prop where
  kq : KQ B wr kb mb v l'
  perm : l'.Perm l
  inv : DownInv ltE (fE l') n i0 i
  le : i0 ≤ i
  tail : ∀ k, n ≤ k → l'[k]? = l[k]?
  same : i = i0 → l' = l
  chg : Chg (kS3 kb mb v) w wr
/-- What down leaves. -/
def DnP (B : Nat) (w : World) (kb mb : Nat) (v : Value) (l : List En) (n i0 : Nat) (w' : World) (b : Bool) : Prop :=
  ∃ l', KQ B w' kb mb v l' ∧ l'.Perm l ∧ Chg (kS3 kb mb v) w w' ∧ (∀ k, n ≤ k → l'[k]? = l[k]?) ∧ (b = true ∨ i0 = 0 → HeapF ltE (fE l') n) ∧ (b = false → l' = l ∧ UpInv ltE (fE l) n i0)
theorem DnS.fin {B : Nat} {w wr w' : World} {kb mb n i0 i : Nat} {v : Value} {l l' : List En} (h : DnS B w kb mb v l n i0 wr l' i) (c : Below wr.heap.size wr w') (hm : ∀ k, 0 < k → k < n → (k - 1) / 2 = i → ltE (fE l' k) (fE l' i) = false) : DnP B w kb mb v l n i0 w' (decide (i0 < i)) := by
  have le := h.le
  refine ⟨l', h.kq.later c, h.perm, h.chg.trans (Chg.of_below (S := kS3 kb mb v) c) (fun _ _ q => q), h.tail, fun q => h.inv.heap (q.imp (fun q => by simpa using q) id) hm, fun q => ?_⟩
  have e : i = i0 := by simp at q; omega
  have e2 := h.same e
  subst e
  subst e2
  exact ⟨rfl, h.inv.up hm⟩
theorem DnS.step {B : Nat} {w wr w' : World} {kb mb n i0 i j : Nat} {v : Value} {l l' : List En} (h : DnS B w kb mb v l n i0 wr l' i) (hj0 : 0 < j) (hjn : j < n) (jl : j < l'.length) (il : i < l'.length) (hp : (j - 1) / 2 = i)
    (hm : ∀ k, 0 < k → k < n → (k - 1) / 2 = i → ltE (fE l' k) (fE l' j) = false) (hl : ltE l'[j] l'[i] = true) (q : KQ B w' kb mb v (swapL l' i j)) (c : Chg (kS3 kb mb v) wr w') : DnS B w kb mb v l n i0 w' (swapL l' i j) j := by
  have le := h.le
  refine ⟨q, (swapL_perm il jl).trans h.perm, ?_, by omega, fun k hk => ?_, fun e => by omega, h.chg.trans c (fun _ _ q => q)⟩
  · rw [fE, fn_swap il jl]
    exact h.inv.step ordE le hj0 hjn hp hm (by rw [fn_get jl, fn_get il]; exact hl)
  · rw [← h.tail k hk, swapL_eq il jl, List.getElem?_set_ne (by omega), List.getElem?_set_ne (by omega)]
theorem kids {n i k : Nat} (h0 : 0 < k) (hp : (k - 1) / 2 = i) : k = 2 * i + 1 ∨ k = 2 * i + 2 := by omega
set_option maxRecDepth 100000 in
set_option maxHeartbeats 16000000 in
theorem down_spec {B : Nat} {w : World} {kb mb n i0 : Nat} {v : Value} {l : List En} (h : KQ B w kb mb v l) (hn : n ≤ l.length) (hi : i0 ≤ l.length) (inv : DownInv ltE (fE l) n i0 i0) :
    Calls Try.prog 69 #[kV kb, .int .i64 (i0 : Int), .int .i64 (n : Int)] w fun e w' => ∃ b, e = .returned (.bool b) ∧ DnP B w kb mb v l n i0 w' b := by
  have U0 : Hid (DnS B w kb mb v l n i0 w l i0) := ⟨h, List.Perm.refl _, inv, Nat.le_refl _, fun _ _ => rfl, fun _ => rfl, Chg.refl _ _⟩
  have hl := h.len
  clear h inv
  go_enter Try.func69, Try.ntmps69
  go_wp2_with fail
  go_loopw [7] (fun s7 wr => ∃ (l' : List En) (i : Nat), s7 = .int .i64 (i : Int) ∧ i ≤ l.length ∧ Hid (DnS B w kb mb v l n i0 wr l' i)) (fun s7 _ => l.length - (intOf s7).toNat)
  case atStart => exact ⟨l, i0, rfl, hi, U0⟩
  case round =>
    obtain ⟨l', i, rfl, hk, U⟩ := hrel
    have sl := U.out.kq.len
    have ln := U.out.perm.length_eq
    obtain ⟨j1, hj1⟩ : ∃ j1, j1 = 2 * i + 1 := ⟨_, rfl⟩
    have e1 : 2 * (i : Int) + 1 = (j1 : Int) := by omega
    have b1 : j1 ≤ 131073 := by omega
    have ng : decide ((j1 : Int) < 0) = false := by rw [decide_eq_false_iff_not]; omega
    by_cases c1 : n ≤ j1
    · have g1 : decide ((n : Int) ≤ (j1 : Int)) = true := by rw [decide_eq_true_eq]; omega
      have g1' : decide (n ≤ j1) = true := by rw [decide_eq_true_eq]; omega
      have F := hide (fun (w' : World) (b : Below wr.heap.size wr w') => U.out.fin b (fun k k0 kn kp => by have := kids (n := n) k0 kp; omega))
      clear hj1
      go_wp2_with fail
      go_returns
      exact ⟨_, rfl, F.out _ (by go_grown)⟩
    · have g1 : decide ((n : Int) ≤ (j1 : Int)) = false := by rw [decide_eq_false_iff_not]; omega
      have g1' : decide (n ≤ j1) = false := by rw [decide_eq_false_iff_not]; omega
      obtain ⟨j2, hj2⟩ : ∃ j2, j2 = j1 + 1 := ⟨_, rfl⟩
      have e2 : (j1 : Int) + 1 = (j2 : Int) := by omega
      have b2 : j2 ≤ 131074 := by omega
      have il : i < l'.length := by omega
      have j1l : j1 < l'.length := by omega
      by_cases c2 : j2 < n
      · have g2 : decide ((j2 : Int) < (n : Int)) = true := by rw [decide_eq_true_eq]; omega
        have g2' : decide (j2 < n) = true := by rw [decide_eq_true_eq]; omega
        have j2l : j2 < l'.length := by omega
        have kl2 := less_spec U.out.kq.km j2l j1l sl
        obtain ⟨t2, ht2⟩ : ∃ t2, t2 = ltE l'[j2] l'[j1] := ⟨_, rfl⟩
        have HT2 := hide ht2
        rw [← ht2] at kl2
        clear ht2
        cases t2
        · obtain ⟨t, ht⟩ : ∃ t, t = ltE l'[j1] l'[i] := ⟨_, rfl⟩
          have HT := hide ht
          have ki := fun (w' : World) (b : Below wr.heap.size wr w') => less_spec (U.out.kq.later b).km j1l il sl
          rw [← ht] at ki
          have HM : Hid (∀ k, 0 < k → k < n → (k - 1) / 2 = i → ltE (fE l' k) (fE l' j1) = false) := by
            intro k k0 kn kp
            rcases kids (n := n) k0 kp with q | q
            · rw [show k = j1 from by omega]; exact ordE.irr _
            · rw [show k = j2 from by omega, fE_get j2l, fE_get j1l]; exact HT2.out.symm
          have kw := fun (w' : World) (b : Below wr.heap.size wr w') => swap_spec (U.out.kq.later b) (i := i) (j := j1) il j1l
          have JP : Hid (0 < j1 ∧ j1 < n ∧ (j1 - 1) / 2 = i) := ⟨by omega, by omega, by omega⟩
          clear ht hj1 hj2
          cases t
          · clear kw
            go_wp2_with (first
              | (go_at_call 126; (with_reducible refine Calls.mono (ki _ (by first | exact b4 | go_grown)) ?_); rintro e w5 ⟨rfl, b5⟩)
              | (go_at_call 126; (with_reducible refine Calls.mono kl2 ?_); rintro e w4 ⟨rfl, b4⟩))
            go_returns
            exact ⟨_, rfl, U.out.fin (by first | exact b4.trans (b5.mono b4.size) | exact b5 | go_grown) (fun k k0 kn kp => ordE.tr _ _ _ (HM.out k k0 kn kp) (by rw [fE_get j1l, fE_get il]; exact HT.out.symm))⟩
          · go_wp2_with (first
              | (go_at_call 126; (with_reducible refine Calls.mono (ki _ (by first | exact b4 | go_grown)) ?_); rintro e w5 ⟨rfl, b5⟩)
              | (go_at_call 126; (with_reducible refine Calls.mono kl2 ?_); rintro e w4 ⟨rfl, b4⟩)
              | (go_at_call 129; refine (kw _ (by first | exact b4.trans (b5.mono b4.size) | exact b5 | go_grown)).mono ?_; rintro e w6 ⟨rfl, k6, c6⟩))
            go_roundw
            case rel => exact ⟨_, j1, rfl, by omega, hide (U.out.step JP.out.1 JP.out.2.1 j1l il JP.out.2.2 HM.out HT.out.symm k6 ((Chg.of_below (by first | exact b4.trans (b5.mono b4.size) | exact b5 | go_grown)).trans c6 (fun _ _ q => q)))⟩
            case measure => have := JP.out; simp [intOf]; omega
        · obtain ⟨t, ht⟩ : ∃ t, t = ltE l'[j2] l'[i] := ⟨_, rfl⟩
          have HT := hide ht
          have ki := fun (w' : World) (b : Below wr.heap.size wr w') => less_spec (U.out.kq.later b).km j2l il sl
          rw [← ht] at ki
          have HM : Hid (∀ k, 0 < k → k < n → (k - 1) / 2 = i → ltE (fE l' k) (fE l' j2) = false) := by
            intro k k0 kn kp
            rcases kids (n := n) k0 kp with q | q
            · rw [show k = j1 from by omega, fE_get j2l, fE_get j1l]; exact ordE.asym _ _ HT2.out.symm
            · rw [show k = j2 from by omega]; exact ordE.irr _
          have kw := fun (w' : World) (b : Below wr.heap.size wr w') => swap_spec (U.out.kq.later b) (i := i) (j := j2) il j2l
          have JP : Hid (0 < j2 ∧ j2 < n ∧ (j2 - 1) / 2 = i) := ⟨by omega, by omega, by omega⟩
          clear ht hj1 hj2
          cases t
          · clear kw
            go_wp2_with (first
              | (go_at_call 126; (with_reducible refine Calls.mono (ki _ (by first | exact b4 | go_grown)) ?_); rintro e w5 ⟨rfl, b5⟩)
              | (go_at_call 126; (with_reducible refine Calls.mono kl2 ?_); rintro e w4 ⟨rfl, b4⟩))
            go_returns
            exact ⟨_, rfl, U.out.fin (by first | exact b4.trans (b5.mono b4.size) | exact b5 | go_grown) (fun k k0 kn kp => ordE.tr _ _ _ (HM.out k k0 kn kp) (by rw [fE_get j2l, fE_get il]; exact HT.out.symm))⟩
          · go_wp2_with (first
              | (go_at_call 126; (with_reducible refine Calls.mono (ki _ (by first | exact b4 | go_grown)) ?_); rintro e w5 ⟨rfl, b5⟩)
              | (go_at_call 126; (with_reducible refine Calls.mono kl2 ?_); rintro e w4 ⟨rfl, b4⟩)
              | (go_at_call 129; refine (kw _ (by first | exact b4.trans (b5.mono b4.size) | exact b5 | go_grown)).mono ?_; rintro e w6 ⟨rfl, k6, c6⟩))
            go_roundw
            case rel => exact ⟨_, j2, rfl, by omega, hide (U.out.step JP.out.1 JP.out.2.1 j2l il JP.out.2.2 HM.out HT.out.symm k6 ((Chg.of_below (by first | exact b4.trans (b5.mono b4.size) | exact b5 | go_grown)).trans c6 (fun _ _ q => q)))⟩
            case measure => have := JP.out; simp [intOf]; omega
      · have g2 : decide ((j2 : Int) < (n : Int)) = false := by rw [decide_eq_false_iff_not]; omega
        have g2' : decide (j2 < n) = false := by rw [decide_eq_false_iff_not]; omega
        obtain ⟨t, ht⟩ : ∃ t, t = ltE l'[j1] l'[i] := ⟨_, rfl⟩
        have HT := hide ht
        have ki := fun (w' : World) (b : Below wr.heap.size wr w') => less_spec (U.out.kq.later b).km j1l il sl
        rw [← ht] at ki
        have HM : Hid (∀ k, 0 < k → k < n → (k - 1) / 2 = i → ltE (fE l' k) (fE l' j1) = false) := by
          intro k k0 kn kp
          rcases kids (n := n) k0 kp with q | q
          · rw [show k = j1 from by omega]; exact ordE.irr _
          · omega
        have kw := fun (w' : World) (b : Below wr.heap.size wr w') => swap_spec (U.out.kq.later b) (i := i) (j := j1) il j1l
        have JP : Hid (0 < j1 ∧ j1 < n ∧ (j1 - 1) / 2 = i) := ⟨by omega, by omega, by omega⟩
        clear ht hj1 hj2
        cases t
        · clear kw
          go_wp2_with (first
            | (go_at_call 126; (with_reducible refine Calls.mono (ki _ (by first | exact b4 | go_grown)) ?_); rintro e w5 ⟨rfl, b5⟩))
          go_returns
          exact ⟨_, rfl, U.out.fin (by first | exact b4.trans (b5.mono b4.size) | exact b5 | go_grown) (fun k k0 kn kp => ordE.tr _ _ _ (HM.out k k0 kn kp) (by rw [fE_get j1l, fE_get il]; exact HT.out.symm))⟩
        · go_wp2_with (first
            | (go_at_call 126; (with_reducible refine Calls.mono (ki _ (by first | exact b4 | go_grown)) ?_); rintro e w5 ⟨rfl, b5⟩)
            | (go_at_call 129; refine (kw _ (by first | exact b4.trans (b5.mono b4.size) | exact b5 | go_grown)).mono ?_; rintro e w6 ⟨rfl, k6, c6⟩))
          go_roundw
          case rel => exact ⟨_, j1, rfl, by omega, hide (U.out.step JP.out.1 JP.out.2.1 j1l il JP.out.2.2 HM.out HT.out.symm k6 ((Chg.of_below (by first | exact b4.trans (b5.mono b4.size) | exact b5 | go_grown)).trans c6 (fun _ _ q => q)))⟩
          case measure => have := JP.out; simp [intOf]; omega
end Go.Proofs.Ytbnlhjooimppeaa
/- due: the heap's Push, Fix, Remove, Pop. -/
namespace Go.Proofs.Ytbnlhjooimppeaa
set_option linter.unusedVariables false
set_option linter.unusedSimpArgs false
open Go.RowKit W Go.Maps
/-- A heap in memory. -/
structure HQ (B : Nat) (w : World) (kb mb : Nat) (v : Value) (l : List En) : Prop where
  kq : KQ B w kb mb v l
  heap : HeapE l
theorem heapE_len {l : List En} {n : Nat} (h : HeapF ltE (fE l) n) (hn : n = l.length) : HeapE l := by subst hn; exact h
/-- Where the row has gone. -/
def Mvd (w : World) (v v' : Value) : Prop := ∀ k, v'.ownBlock = some k → v.ownBlock = some k ∨ w.heap.size ≤ k
theorem Mvd.refl (w : World) (v : Value) : Mvd w v v := fun _ e => .inl e
theorem Mvd.of_eq (w : World) {v v' : Value} (h : v'.ownBlock = v.ownBlock) : Mvd w v v' := fun k e => .inl (h ▸ e)
theorem Chg.mvd {w w1 w2 : World} {kb mb : Nat} {v v' : Value} (h : Chg (kS3 kb mb v) w w1) (k : Chg (kS3 kb mb v') w1 w2) (m : Mvd w v v') : Chg (kS3 kb mb v) w w2 :=
  h.trans k (fun j hj q => by
    rcases q with q | q | q
    · exact .inl q
    · exact .inr (.inl q)
    · rcases m j q with e | e
      · exact .inr (.inr e)
      · omega)
set_option maxRecDepth 100000 in
set_option maxHeartbeats 4000000 in
theorem hpush_spec {B : Nat} {w : World} {kb mb : Nat} {v : Value} {l : List En} (h : HQ B w kb mb v l) (x : En) (hx : hasK l x.1 = false) (hs : x.1.size ≤ maxLen) (hl : l.length < 65536) (hB : B ≤ w.heap.size) :
    Calls Try.prog 47 #[kV kb, .iface 43 (enV x)] w fun e w' => e = .returned (.tuple #[]) ∧ ∃ v' l', HQ B w' kb mb v' l' ∧ l'.Perm (l ++ [x]) ∧ Chg (kS3 kb mb v) w w' ∧ Mvd w v v' := by
  have kp := push_spec h.kq x hx hs hl hB
  have HP : Hid (UpInv ltE (fE (l ++ [x])) (l.length + 1) l.length) := h.heap.push (fun k hk => by
    rw [fE_get hk, fE_get (by simp; omega)]
    exact List.getElem_append_left hk)
  clear h
  go_enter Try.func47, Try.ntmps47
  go_wp2_with (go_at_call 128; refine kp.mono ?_; rintro e w1 ⟨rfl, v1, k1, c1, m1⟩)
  have kl := klen_spec k1.km
  have ku := up_spec (n := l.length + 1) (j := l.length) k1 (by simp) (by omega) HP.out
  obtain ⟨n, hn⟩ : ∃ n, n = l.length := ⟨_, rfl⟩
  have HN := hide hn
  rw [show (l ++ [x]).length = l.length + 1 from by simp] at kl
  rw [← hn] at ku kl hl
  rw [show ((n + 1 : Nat) : Int) = (n : Int) + 1 from by omega] at kl
  have C1 := hide c1
  have M1 := hide m1
  clear c1 m1 k1 hn
  go_wp2_with (first
    | (go_at_call 45; refine kl.mono ?_; rintro e w' ⟨rfl, rfl⟩)
    | (go_at_call 70; refine ku.mono ?_; rintro e w2 ⟨rfl, l2, k2, p2, h2, _, c2⟩))
  go_end0
  exact ⟨rfl, v1, l2, ⟨k2, heapE_len h2 (by rw [p2.length_eq, HN.out]; simp)⟩, p2, C1.out.mvd c2 M1.out, M1.out⟩
set_option maxRecDepth 100000 in
set_option maxHeartbeats 4000000 in
theorem hfix_spec {B : Nat} {w : World} {kb mb i : Nat} {v : Value} {l : List En} (h : KQ B w kb mb v l) (hi : i < l.length) (inv : DownInv ltE (fE l) l.length i i) :
    Calls Try.prog 46 #[kV kb, .int .i64 (i : Int)] w fun e w' => e = .returned (.tuple #[]) ∧ ∃ l', HQ B w' kb mb v l' ∧ l'.Perm l ∧ Chg (kS3 kb mb v) w w' := by
  have kl := klen_spec h.km
  have kd := down_spec h (Nat.le_refl _) (by omega) inv
  obtain ⟨n, hn⟩ : ∃ n, n = l.length := ⟨_, rfl⟩
  have HN := hide hn
  rw [← hn] at kl kd hi
  clear h inv hn
  go_enter Try.func46, Try.ntmps46
  go_wp2_with (first
    | (go_at_call 45; refine kl.mono ?_; rintro e w' ⟨rfl, rfl⟩)
    | (go_at_call 69; refine kd.mono ?_; rintro e w1 ⟨b, rfl, l1, k1, p1, c1, t1, h1, u1⟩; cases b))
  · obtain ⟨rfl, u1⟩ := u1 (by trivial)
    have ku := up_spec (n := n) (j := i) k1 (by rw [HN.out]; exact Nat.le_refl _) hi u1
    clear u1 h1 t1
    go_wp2_with (go_at_call 70; refine ku.mono ?_; rintro e w2 ⟨rfl, l2, k2, p2, h2, _, c2⟩)
    go_end0
    exact ⟨rfl, l2, ⟨k2, heapE_len h2 (by rw [p2.length_eq]; exact HN.out)⟩, p2, c1.trans c2 (fun _ _ q => q)⟩
  · have h1' := h1 (.inl (by trivial))
    clear h1 u1 t1
    go_wp2_with fail
    go_end0
    exact ⟨rfl, l1, ⟨k1, heapE_len h1' (by rw [p1.length_eq]; exact HN.out)⟩, p1, c1⟩
/-- Pop's work: the one at i has changed places with the last one, and is taken off. -/
theorem swap_take {l : List En} {i n : Nat} (hn : l.length = n + 1) (hi : i < l.length) {l' : List En} (p : l'.Perm (swapL l i n)) (ht : ∀ k, n ≤ k → l'[k]? = (swapL l i n)[k]?) : (l'.take n).Perm (l.eraseIdx i) ∧ l'[n]? = some l[i] := by
  have hnl : n < l.length := by omega
  have e0 : (swapL l i n)[n]? = some l[i] := by
    rw [swapL_eq hi hnl, List.getElem?_set_self (by simp; omega)]
  have e1 : l'[n]? = some l[i] := (ht n (Nat.le_refl _)).trans e0
  refine ⟨?_, e1⟩
  have ll : l'.length = n + 1 := by rw [p.length_eq, swapL_len, hn]
  have s1 : l' = l'.take n ++ [l[i]] := by
    have := List.take_append_drop n l'
    rw [List.drop_eq_getElem_cons (by omega), List.drop_eq_nil_of_le (by omega)] at this
    rw [List.getElem?_eq_getElem (by omega)] at e1
    injection e1 with e1
    rw [e1] at this
    exact this.symm
  have q : (l[i] :: l'.take n).Perm (l[i] :: l.eraseIdx i) := by
    refine List.Perm.trans ?_ (erase_cons_perm hi).symm
    refine List.Perm.trans ?_ (p.trans (swapL_perm hi hnl))
    conv => rhs; rw [s1]
    exact (List.perm_append_comm (l₁ := [l[i]]) (l₂ := l'.take n))
  exact q.cons_inv
theorem heapE_take {l : List En} {n : Nat} (h : HeapF ltE (fE l) n) (hn : n ≤ l.length) : HeapE (l.take n) := by
  have e : (l.take n).length = n := by rw [List.length_take]; omega
  refine heapE_len (n := n) (h.congr fun k hk => ?_) e.symm
  rw [fE_get (by omega), fE_get (by omega), List.getElem_take]
theorem down_swap {l : List En} {i n : Nat} (h : HeapE l) (hn : l.length = n + 1) (hi : i < l.length) : DownInv ltE (fE (swapL l i n)) n i i := by
  have hnl : n < l.length := by omega
  refine HeapF.fix ordE h (by omega) hi fun k hk ki => ?_
  rw [fE, fn_swap hi hnl, swapF_o _ ki (by omega)]
def PopP (B : Nat) (w : World) (kb mb : Nat) (v : Value) (l : List En) (i : Nat) (w' : World) : Prop :=
  ∃ v' l', HQ B w' kb mb v' l' ∧ l'.Perm (l.eraseIdx i) ∧ Chg (kS3 kb mb v) w w' ∧ Mvd w v v'
set_option maxRecDepth 100000 in
set_option maxHeartbeats 4000000 in
theorem hpop_spec {B : Nat} {w : World} {kb mb n : Nat} {v : Value} {l : List En} (h : HQ B w kb mb v l) (hn : l.length = n + 1) (hB : B ≤ w.heap.size) :
    Calls Try.prog 48 #[kV kb] w fun e w' => (∃ r, e = .returned r) ∧ PopP B w kb mb v l 0 w' := by
  have kl := klen_spec h.kq.km
  rw [hn, show ((n + 1 : Nat) : Int) = (n : Int) + 1 from by omega] at kl
  have hl := h.kq.len
  have kw := swap_spec h.kq (i := 0) (j := n) (by omega) (by omega)
  rw [show ((0 : Nat) : Int) = 0 from rfl] at kw
  have DI := hide (down_swap h.heap hn (i := 0) (by omega))
  have HN := hide hn
  have hn1 : n ≤ 65536 := by omega
  clear h hl hn
  go_enter Try.func48, Try.ntmps48
  go_wp2_with (first
    | (go_at_call 45; refine kl.mono ?_; rintro e w' ⟨rfl, rfl⟩)
    | (go_at_call 129; refine kw.mono ?_; rintro e w1 ⟨rfl, k1, c1⟩))
  have kd := down_spec k1 (n := n) (i0 := 0) (by rw [swapL_len, HN.out]; omega) (by omega) DI.out
  rw [show ((0 : Nat) : Int) = 0 from rfl] at kd
  go_wp2_with (go_at_call 69; refine kd.mono ?_; rintro e w2 ⟨b, rfl, l2, k2, p2, c2, t2, h2, u2⟩)
  have hn2 : l2.length = n + 1 := by rw [p2.length_eq, swapL_len, HN.out]
  have sz2 := c1.size
  have sz3 := c2.size
  have kp := kpop_spec k2 hn2 (by omega)
  have h2' := hide (h2 (.inr (by trivial)))
  clear u2 h2
  go_wp2_with (go_at_call 127; refine kp.mono ?_; rintro e w3 ⟨rfl, v3, k3, c3, o3⟩)
  go_returns
  exact ⟨⟨_, rfl⟩, v3, _, ⟨k3, heapE_take h2'.out (by omega)⟩, (swap_take HN.out (by have := HN.out; omega) p2 t2).1, (c1.trans c2 (fun _ _ q => q)).trans c3 (fun _ _ q => q), Mvd.of_eq _ o3⟩
set_option maxRecDepth 100000 in
set_option maxHeartbeats 8000000 in
theorem hremove_spec {B : Nat} {w : World} {kb mb n i : Nat} {v : Value} {l : List En} (h : HQ B w kb mb v l) (hn : l.length = n + 1) (hi : i ≤ n) (hB : B ≤ w.heap.size) :
    Calls Try.prog 55 #[kV kb, .int .i64 (i : Int)] w fun e w' => (∃ r, e = .returned r) ∧ PopP B w kb mb v l i w' := by
  have kl := klen_spec h.kq.km
  rw [hn, show ((n + 1 : Nat) : Int) = (n : Int) + 1 from by omega] at kl
  have hl := h.kq.len
  have hn1 : n ≤ 65536 := by omega
  have HN := hide hn
  by_cases q : n = i
  · subst q
    have ne : ((n : Int) != (n : Int)) = false := by simp
    have kp := kpop_spec h.kq hn hB
    have HH := hide h.heap
    clear h hl
    go_enter Try.func55, Try.ntmps55
    go_wp2_with (first
      | (go_at_call 45; refine kl.mono ?_; rintro e w' ⟨rfl, rfl⟩)
      | (go_at_call 127; refine kp.mono ?_; rintro e w3 ⟨rfl, v3, k3, c3, o3⟩))
    go_returns
    have ee : l.eraseIdx n = l.take n := by rw [List.eraseIdx_eq_take_drop_succ, List.drop_eq_nil_of_le (by have := HN.out; omega), List.append_nil]
    exact ⟨⟨_, rfl⟩, v3, _, ⟨k3, heapE_take (HH.out.less (by have := HN.out; omega)) (by have := HN.out; omega)⟩, by rw [ee], c3, Mvd.of_eq _ o3⟩
  · have ne : ((n : Int) != (i : Int)) = true := by simp; omega
    have ne2 : ((n : Int) == (i : Int)) = false := by rw [beq_eq_false_iff_ne]; omega
    have kw := swap_spec h.kq (i := i) (j := n) (by omega) (by omega)
    have DI := hide (down_swap h.heap hn (i := i) (by omega))
    clear h hl hn
    go_enter Try.func55, Try.ntmps55
    go_wp2_with (first
      | (go_at_call 45; refine kl.mono ?_; rintro e w' ⟨rfl, rfl⟩)
      | (go_at_call 129; refine kw.mono ?_; rintro e w1 ⟨rfl, k1, c1⟩))
    have kd := down_spec k1 (n := n) (i0 := i) (by rw [swapL_len, HN.out]; omega) (by rw [swapL_len, HN.out]; omega) DI.out
    go_wp2_with (go_at_call 69; refine kd.mono ?_; rintro e w2 ⟨b, rfl, l2, k2, p2, c2, t2, h2, u2⟩; have hn2 : l2.length = n + 1 := (by rw [p2.length_eq, swapL_len, HN.out]); have sz2 := c1.size; have sz3 := c2.size; cases b)
    · obtain ⟨rfl, u3⟩ := u2 (by trivial)
      have ku := up_spec (n := n) (j := i) k2 (by omega) (by omega) u3
      clear u2 u3 h2
      go_wp2_with (go_at_call 70; refine ku.mono ?_; rintro e w4 ⟨rfl, l4, k4, p4, h4, t4, c4⟩)
      have hn4 : l4.length = n + 1 := by rw [p4.length_eq, swapL_len, HN.out]
      have sz4 := c4.size
      have kp := kpop_spec k4 hn4 (by omega)
      go_wp2_with (go_at_call 127; refine kp.mono ?_; rintro e w3 ⟨rfl, v3, k3, c3, o3⟩)
      go_returns
      exact ⟨⟨_, rfl⟩, v3, _, ⟨k3, heapE_take h4 (by omega)⟩, (swap_take HN.out (by have := HN.out; omega) p4 t4).1, ((c1.trans c2 (fun _ _ q => q)).trans c4 (fun _ _ q => q)).trans c3 (fun _ _ q => q), Mvd.of_eq _ o3⟩
    · have h2' := hide (h2 (.inl (by trivial)))
      have kp := kpop_spec k2 hn2 (by omega)
      clear u2 h2
      go_wp2_with (go_at_call 127; refine kp.mono ?_; rintro e w3 ⟨rfl, v3, k3, c3, o3⟩)
      go_returns
      exact ⟨⟨_, rfl⟩, v3, _, ⟨k3, heapE_take h2'.out (by omega)⟩, (swap_take HN.out (by have := HN.out; omega) p2 t2).1, (c1.trans c2 (fun _ _ q => q)).trans c3 (fun _ _ q => q), Mvd.of_eq _ o3⟩
end Go.Proofs.Ytbnlhjooimppeaa
/- due: the queue's calls. -/
namespace Go.Proofs.Ytbnlhjooimppeaa
set_option linter.unusedVariables false
set_option linter.unusedSimpArgs false
open Go.RowKit W Go.Maps
/-- A queue that New made. -/
structure QA (B : Nat) (w : World) (qb kb mb : Nat) (lim : Nat) (v : Value) (r : List En) : Prop where
  q : Bw w qb 59 #[.pointer (some ⟨qb, 0, none⟩), .int .i64 (lim : Int), .pointer (some ⟨kb, 0, none⟩)]
  hq : ∃ l, HQ B w kb mb v l ∧ l.Perm r
  srt : Sorted ltE r
  keys : Keys r
  le : r.length ≤ lim
  mx : lim ≤ 65536
  bq : B ≤ qb
theorem QA.chg {B : Nat} {S : Nat → Prop} {w w' : World} {qb kb mb lim : Nat} {v : Value} {r : List En} (h : QA B w qb kb mb lim v r) (c : Chg S w w') (nq : ¬ S qb) (n : ∀ k, kS3 kb mb v k → ¬ S k) : QA B w' qb kb mb lim v r := by
  obtain ⟨l, hl, p⟩ := h.hq
  exact ⟨h.q.chg c nq, ⟨l, ⟨hl.kq.chg c n, hl.heap⟩, p⟩, h.srt, h.keys, h.le, h.mx, h.bq⟩
theorem QA.later {B : Nat} {w w' : World} {qb kb mb lim : Nat} {v : Value} {r : List En} (h : QA B w qb kb mb lim v r) (c : Below w.heap.size w w') : QA B w' qb kb mb lim v r := h.chg (S := fun _ => False) (Chg.of_below c) (fun q => q) (fun _ _ q => q)
theorem QA.nq {B : Nat} {w : World} {qb kb mb lim : Nat} {v : Value} {r : List En} (h : QA B w qb kb mb lim v r) : ¬ kS3 kb mb v qb := by
  obtain ⟨l, hl, p⟩ := h.hq
  rintro (q | q | q)
  · exact h.q.ne hl.kq.km.k (by decide) q
  · exact h.q.ne_map hl.kq.km.map q
  · exact h.q.ne_row hl.kq.km.row (by decide) q
theorem QA.old {B : Nat} {w : World} {qb kb mb lim : Nat} {v : Value} {r : List En} (h : QA B w qb kb mb lim v r) : ∀ k, kS3 kb mb v k → B ≤ k ∧ k < w.heap.size := by
  obtain ⟨l, hl, p⟩ := h.hq
  exact hl.kq.km.old
theorem infoQ : (Try.prog.info? 59).isSome = true := by kernel_rfl
theorem eq_ptrQ (b : Nat) (w : World) : (binOp .eql 23 (.pointer (some ⟨b, 0, none⟩)) (.pointer (some ⟨b, 0, none⟩))).run Try.prog w = .ok (.bool true) w := by
  obtain ⟨j, hj⟩ := Option.isSome_iff_exists.1 infoQ
  exact run_eql_ptr_same w ⟨b, 0, none⟩ Try.underlying23 hj
set_option maxRecDepth 100000 in
theorem qmade {B : Nat} {w : World} {qb kb mb lim : Nat} {v : Value} {r : List En} (h : QA B w qb kb mb lim v r) : CalcN 44 #[.pointer (some ⟨qb, 0, none⟩)] w (.bool true) := by
  have c0 := h.q.cell 0 _ rfl
  have q := eq_ptrQ qb
  clear h
  go_enter Try.func44, Try.ntmps44
  go_wp2
  go_returns
  exact ⟨rfl, rfl⟩
set_option maxRecDepth 100000 in
theorem qlen {B : Nat} {w : World} {qb kb mb lim : Nat} {v : Value} {r : List En} (h : QA B w qb kb mb lim v r) : CalcN 18 #[.pointer (some ⟨qb, 0, none⟩)] w (.int .i64 (r.length : Int)) := by
  have km := qmade h
  obtain ⟨l, hl, p⟩ := h.hq
  have kl := klen_spec hl.kq.km
  rw [p.length_eq] at kl
  have c2 := h.q.cell 2 _ rfl
  clear h hl p
  go_enter Try.func18, Try.ntmps18
  go_wp2_with (first
    | (go_at_call 44; refine km.mono ?_; rintro e w' ⟨rfl, rfl⟩)
    | (go_at_call 45; refine kl.mono ?_; rintro e w' ⟨rfl, rfl⟩))
  go_returns
  exact ⟨rfl, rfl⟩
theorem heapE_nil : HeapE [] := fun k _ hk => by simp at hk
/-- New. -/
def QNew (w : World) (lim : Nat) (e : Ending) (w' : World) : Prop := ∃ qb kb mb, e = .returned (.tuple #[.pointer (some ⟨qb, 0, none⟩), .int .i64 0]) ∧ QA w.heap.size w' qb kb mb lim (.slice none 0 0) [] ∧ Below w.heap.size w w'
theorem QNew.mk {w w' : World} {lim : Nat} (h : lim ≤ 65536) (hw : w' = ((w.alloc (.map #[] 0)).alloc (.cells #[.slice none 0 0, .map (some w.heap.size)] 97)).alloc (.cells #[.pointer (some ⟨w.heap.size + 1 + 1, 0, none⟩), .int .i64 (lim : Int), .pointer (some ⟨w.heap.size + 1, 0, none⟩)] 59)) :
    QNew w lim (.returned (.tuple #[.pointer (some ⟨w.heap.size + 1 + 1, 0, none⟩), .int .i64 0])) w' := by
  have m0 := MapG.new (E := elI) w
  obtain ⟨w1, h1⟩ : ∃ w1, w1 = w.alloc (.map #[] 0) := ⟨_, rfl⟩
  rw [← h1] at m0 hw
  have s1 : w1.heap.size = w.heap.size + 1 := by rw [h1]; simp
  obtain ⟨w2, h2⟩ : ∃ w2, w2 = w1.alloc (.cells #[.slice none 0 0, .map (some w.heap.size)] 97) := ⟨_, rfl⟩
  have k0 := Bw.new w1 97 #[.slice none 0 0, .map (some w.heap.size)]
  rw [← h2, s1] at k0
  rw [← h2] at hw
  have s2 : w2.heap.size = w.heap.size + 1 + 1 := by rw [h2]; simp [s1]
  have q0 := Bw.new w2 59 #[.pointer (some ⟨w.heap.size + 1 + 1, 0, none⟩), .int .i64 (lim : Int), .pointer (some ⟨w.heap.size + 1, 0, none⟩)]
  rw [← hw, s2] at q0
  have C1 : Chg (fun _ => False) w2 w' := by rw [hw]; exact (Chg.refl _ _).alloc _
  have C0 : Chg (fun _ => False) w1 w2 := by rw [h2]; exact (Chg.refl _ _).alloc _
  have Cw : Chg (fun _ => False) w w1 := by rw [h1]; exact (Chg.refl _ _).alloc _
  refine ⟨_, w.heap.size + 1, w.heap.size, rfl, ⟨q0, ⟨[], ⟨⟨⟨k0.chg C1 (fun q => q), World.ownsRow_nil _ _ _ _, ((m0.chg C0 (fun q => q)).chg C1 (fun q => q)).ext (fun k => rfl), by omega, Nat.le_refl _, by simp⟩, List.Pairwise.nil, by simp⟩, heapE_nil⟩, List.Perm.refl _⟩, List.Pairwise.nil, List.Pairwise.nil, by simp, h, by omega⟩, ?_⟩
  exact ((Cw.trans C0 (fun _ _ q => q)).trans C1 (fun _ _ q => q)).below (fun _ q => q.elim) (Nat.le_refl _)
set_option maxRecDepth 100000 in
set_option maxHeartbeats 4000000 in
theorem qnew_ok (lim : Nat) (h1 : 1 ≤ lim) (h2 : lim ≤ 65536) (w : World) : Calls Try.prog 14 #[.int .i64 (lim : Int)] w (QNew w lim) := by
  have hmm := @run_makeMap Try.prog
  go_enter Try.func14, Try.ntmps14
  go_wp2_with fail
  go_returns
  exact QNew.mk h2 rfl
set_option maxRecDepth 100000 in
set_option maxHeartbeats 4000000 in
theorem qnew_bad (lim : Int) (h : ¬ (1 ≤ lim ∧ lim ≤ 65536)) (w : World) : CalcN 14 #[.int .i64 lim] w (.tuple #[.pointer none, .int .i64 1]) := by
  by_cases h1 : lim < 1
  · go_enter Try.func14, Try.ntmps14
    go_wp2_with fail
    go_returns
    exact ⟨rfl, rfl⟩
  · have h2 : 65536 < lim := by omega
    go_enter Try.func14, Try.ntmps14
    go_wp2_with fail
    go_returns
    exact ⟨rfl, rfl⟩
theorem set_self {α : Type} : ∀ {l : List α} {i : Nat} {x : α}, l[i]? = some x → l.set i x = l
  | [], i, x, h => by simp at h
  | a :: l, 0, x, h => by simp at h; simp [h]
  | a :: l, i + 1, x, h => by simp at h ⊢; exact set_self h
theorem KM.put1 {B : Nat} {w : World} {kb mb g n c : Nat} {l : List En} (h : KQ B w kb mb (.slice (some ⟨g, 0, none⟩) n c) l) (hn : n = l.length) {i : Nat} (hi : i < l.length) (a : Int) :
    KQ B (w.setCell ⟨g, i * 2 + 1, none⟩ (.int .i64 a)) kb mb (.slice (some ⟨g, 0, none⟩) n c) (l.set i (l[i].1, a)) ∧ Chg (kS3 kb mb (.slice (some ⟨g, 0, none⟩) n c)) w (w.setCell ⟨g, i * 2 + 1, none⟩ (.int .i64 a)) := by
  subst hn
  have C : Chg (· = g) w (w.setCell ⟨g, i * 2 + 1, none⟩ (.int .i64 a)) := Chg.set _ rfl
  have n1 : ¬ kb = g := fun q => h.km.nrk (by rw [← q]; rfl)
  have n2 : ¬ mb = g := fun q => h.km.nrm (by rw [← q]; rfl)
  have r := row_put h.km.row (i * 2 + 1) (by omega) (.int .i64 a)
  have e : (dues l).set (i * 2 + 1) (.int .i64 a) = dues (l.set i (l[i].1, a)) := by
    rw [dues_set]
    congr 1
    have k := dues_key hi
    rw [set_self k]
  rw [e] at r
  have em : (l.set i (l[i].1, a)).map (·.1) = l.map (·.1) := by
    rw [List.map_set]
    exact set_self (by simp [List.getElem?_eq_getElem hi])
  have ei : idxI (l.set i (l[i].1, a)) = idxI l := by
    funext key
    show (idxK _ key).map _ = (idxK l key).map _
    have f : ∀ m : List En, idxK m key = (m.map (·.1)).findIdx? (fun k => decide (k = key)) := fun m => by unfold idxK; rw [List.findIdx?_map]; rfl
    rw [f, f, em]
  refine ⟨⟨⟨h.km.k.chg C n1, by rw [List.length_set]; exact r, by rw [List.length_set, ei]; exact h.km.map.chg C n2, h.km.bk, h.km.bm, fun e he => ?_⟩, ?_, by rw [List.length_set]; exact h.len⟩, C.mono (fun k (e : k = g) => .inr (.inr (by rw [e]; rfl)))⟩
  · rcases List.mem_or_eq_of_mem_set he with q | q
    · exact h.km.sz e q
    · subst q; exact h.km.sz l[i] (List.getElem_mem hi)
  · have k := h.keys
    unfold Keys at k ⊢
    rw [← List.pairwise_map (f := fun e : En => e.1) (R := fun a b => a ≠ b)] at k ⊢
    rw [em]
    exact k
theorem set_down {l : List En} (h : HeapE l) {i : Nat} (hi : i < l.length) (x : En) : DownInv ltE (fE (l.set i x)) (l.set i x).length i i := by
  refine HeapF.fix ordE h (by simp) hi fun k hk ki => ?_
  rw [List.length_set] at hk
  rw [fE_get (by simpa using hk), fE_get hk, List.getElem_set_ne (Ne.symm ki)]
theorem lookI {w : World} {mb n : Nat} {M : ByteArray → Option Int} (h : MapG elI w mb n M) (key : ByteArray) (hs : key.size ≤ maxLen) :
    (Instr.lookup 95 (.map (some mb)) (.string key) true).run Try.prog w = .ok (.tuple #[.int .i64 ((M key).getD 0), .bool (M key).isSome]) w := h.look unMap (z := 0) (zeroI w) key hs
def SetP (B : Nat) (w : World) (qb kb mb lim : Nat) (v : Value) (r : List En) (c : Int) (e : Ending) (w' : World) : Prop :=
  ∃ v', e = .returned (.int .i64 c) ∧ QA B w' qb kb mb lim v' r ∧ Chg (kS3 kb mb v) w w' ∧ Mvd w v v'
set_option maxRecDepth 100000 in
set_option maxHeartbeats 8000000 in
theorem qset_old {B : Nat} {w : World} {qb kb mb lim : Nat} {v : Value} {r : List En} (h : QA B w qb kb mb lim v r) (key : ByteArray) (hs : key.size ≤ maxLen) (a : Int) (hk : hasK r key = true) :
    Calls Try.prog 21 #[.pointer (some ⟨qb, 0, none⟩), .string key, .int .i64 a] w (SetP B w qb kb mb lim v (setR r key a) 0) := by
  have km := qmade h
  have c2 := h.q.cell 2 _ rfl
  have lq := h.q.lt
  have nq := h.nq
  obtain ⟨l, hl, p⟩ := h.hq
  have HH := hide h
  have hl' := hl.kq
  have hz := lookI hl.kq.km.map key hs
  have d1 := hl.kq.km.k.cell 1 _ rfl
  have d0 := hl.kq.km.k.cell 0 _ rfl
  have lk := hl.kq.km.k.lt
  have hkl : hasK l key = true := by rw [hasK_perm p]; exact hk
  obtain ⟨i, hi0⟩ : ∃ i, idxK l key = some i := by
    cases q : idxK l key with
    | some i => exact ⟨i, rfl⟩
    | none => rw [idxK_none.1 q] at hkl; cases hkl
  obtain ⟨hi, hik⟩ := (idxK_some hl.kq.keys).1 hi0
  have e1 : idxI l key = some (i : Int) := by show (idxK l key).map _ = _; rw [hi0]; rfl
  rw [e1] at hz
  simp only [Option.getD_some, Option.isSome_some] at hz
  obtain ⟨n, hn⟩ : ∃ n, n = l.length := ⟨_, rfl⟩
  obtain ⟨g, c, rfl, nc, gl, gB, fz⟩ := hl.kq.km.form n hn (by omega)
  obtain ⟨x0, x1⟩ := hl.kq.km.key hn hi
  have fx := fz (i * 2 + 1)
  have P1 := hide (KM.put1 hl.kq hn hi a)
  have SD := hide (set_down hl.heap hi (l[i].1, a))
  have SO := hide (set_old p hl.kq.keys hi a)
  have ll := hl.kq.len
  rw [hik] at P1 SD SO
  have HI := hide hi
  have HN := hide hn
  have HK := hide hk
  rw [← hn] at hi ll
  clear h hl hl' hkl hi0 hik e1 hk x0 fz p hn
  go_enter Try.func21, Try.ntmps21
  have kf := hfix_spec P1.out.1 (by rw [List.length_set]; exact HI.out) SD.out
  go_wp2_with (first
    | (go_at_call 44; refine km.mono ?_; rintro e w' ⟨rfl, rfl⟩)
    | (go_at_call 46; refine kf.mono ?_; rintro e w2 ⟨rfl, l2, q2, p2, c2'⟩))
  go_returns
  have C := P1.out.2.trans c2' (fun _ _ q => q)
  have rl := setR_len HH.out.keys key a
  rw [HK.out, if_pos rfl] at rl
  exact ⟨_, rfl, ⟨HH.out.q.chg C nq, ⟨l2, q2, p2.trans SO.out⟩, setR_sorted HH.out.srt key a, setR_keys HH.out.keys key a, by rw [rl]; exact HH.out.le, HH.out.mx, HH.out.bq⟩, C, Mvd.refl _ _⟩
set_option maxRecDepth 100000 in
set_option maxHeartbeats 8000000 in
theorem qset_new {B : Nat} {w : World} {qb kb mb lim : Nat} {v : Value} {r : List En} (h : QA B w qb kb mb lim v r) (hB : B ≤ w.heap.size) (key : ByteArray) (hs : key.size ≤ maxLen) (a : Int) (hk : hasK r key = false) :
    Calls Try.prog 21 #[.pointer (some ⟨qb, 0, none⟩), .string key, .int .i64 a] w (SetP B w qb kb mb lim v (if r.length < lim then setR r key a else r) (if r.length < lim then 0 else 70)) := by
  have km := qmade h
  have c2 := h.q.cell 2 _ rfl
  have c1' := h.q.cell 1 _ rfl
  have lq := h.q.lt
  have nq := h.nq
  have HH := hide h
  have HK := hide hk
  obtain ⟨l, hl, p⟩ := h.hq
  have hz := lookI hl.kq.km.map key hs
  have d1 := hl.kq.km.k.cell 1 _ rfl
  have lk := hl.kq.km.k.lt
  have hkl : hasK l key = false := by rw [hasK_perm p]; exact hk
  have e1 : idxI l key = none := by show (idxK l key).map _ = _; rw [idxK_none.2 hkl]; rfl
  rw [e1] at hz
  simp only [Option.getD_none, Option.isSome_none] at hz
  have mx := h.mx
  have le := h.le
  obtain ⟨m, hm⟩ : ∃ m, m = r.length := ⟨_, rfl⟩
  have HM := hide hm
  have HL := hide hl
  have HP := hide p
  have HKL := hide hkl
  rw [← hm] at le ⊢
  by_cases hlt : m < lim
  · rw [if_pos hlt, if_pos hlt]
    have d : decide ((lim : Int) ≤ (m : Int)) = false := by rw [decide_eq_false_iff_not]; omega
    have dn : decide (lim ≤ m) = false := by rw [decide_eq_false_iff_not]; omega
    clear h hl p hkl hk hm e1
    go_enter Try.func21, Try.ntmps21
    go_wp2_with (go_at_call 44; refine km.mono ?_; rintro e w' ⟨rfl, rfl⟩)
    have kl : ∀ W, Below w.heap.size w W → CalcN 18 #[.pointer (some ⟨qb, 0, none⟩)] W (.int .i64 (m : Int)) := by intro W b; rw [HM.out]; exact qlen (HH.out.later b)
    go_region_with (go_at_call 18; (with_reducible refine Calls.mono (kl _ (by first | exact Below.refl _ _ | exact (Below.refl _ _).drew | exact below_drewN (Below.refl _ _) _)) ?_); rintro e w' ⟨rfl, rfl⟩)
    all_goals
      have kp : ∀ W, Below w.heap.size w W → _ := fun W (b : Below w.heap.size w W) => hpush_spec ⟨HL.out.kq.later b, HL.out.heap⟩ (key, a) HKL.out hs (by have := HP.out.length_eq; have := HM.out; omega) (Nat.le_trans hB b.size)
      go_wp2_with (go_at_call 47; (with_reducible refine Calls.mono (kp _ (by first | exact Below.refl _ _ | exact (Below.refl _ _).drew | exact below_drewN (Below.refl _ _) _)) ?_); rintro e w2 ⟨rfl, v2, l2, q2, p2, c2', m2⟩)
      go_returns
      have C : Chg (kS3 kb mb v) w w2 := (Chg.of_below (by first | exact Below.refl _ _ | exact (Below.refl _ _).drew | exact below_drewN (Below.refl _ _) _)).trans c2' (fun _ _ q => q)
      have rl := setR_len HH.out.keys key a
      rw [HK.out, if_neg (by decide), ← HM.out] at rl
      exact ⟨v2, rfl, ⟨HH.out.q.chg C nq, ⟨l2, q2, p2.trans (set_new HP.out HK.out a)⟩, setR_sorted HH.out.srt key a, setR_keys HH.out.keys key a, by rw [rl]; omega, HH.out.mx, HH.out.bq⟩, C, m2⟩
  · rw [if_neg hlt, if_neg hlt]
    have d : decide ((lim : Int) ≤ (m : Int)) = true := by rw [decide_eq_true_eq]; omega
    have dn : decide (lim ≤ m) = true := by rw [decide_eq_true_eq]; omega
    clear h hl p hkl hk hm e1
    go_enter Try.func21, Try.ntmps21
    go_wp2_with (go_at_call 44; refine km.mono ?_; rintro e w' ⟨rfl, rfl⟩)
    have kl : ∀ W, Below w.heap.size w W → CalcN 18 #[.pointer (some ⟨qb, 0, none⟩)] W (.int .i64 (m : Int)) := by intro W b; rw [HM.out]; exact qlen (HH.out.later b)
    go_region_with (go_at_call 18; (with_reducible refine Calls.mono (kl _ (by first | exact Below.refl _ _ | exact (Below.refl _ _).drew | exact below_drewN (Below.refl _ _) _)) ?_); rintro e w' ⟨rfl, rfl⟩)
    all_goals
      go_wp2_with fail
      go_returns
      refine ⟨v, rfl, HH.out.later ?_, Chg.of_below ?_, Mvd.refl _ _⟩
      all_goals first | exact Below.refl _ _ | exact (Below.refl _ _).drew | exact below_drewN (Below.refl _ _) _
/-- Set, whatever is there. -/
theorem qset_spec {B : Nat} {w : World} {qb kb mb lim : Nat} {v : Value} {r : List En} (h : QA B w qb kb mb lim v r) (hB : B ≤ w.heap.size) (key : ByteArray) (hs : key.size ≤ maxLen) (a : Int) :
    Calls Try.prog 21 #[.pointer (some ⟨qb, 0, none⟩), .string key, .int .i64 a] w (SetP B w qb kb mb lim v (if hasK r key = true ∨ r.length < lim then setR r key a else r) (if hasK r key = true ∨ r.length < lim then 0 else 70)) := by
  by_cases e : hasK r key = true
  · rw [if_pos (.inl e), if_pos (.inl e)]; exact qset_old h key hs a e
  · have e : hasK r key = false := by simpa using e
    have k := qset_new h hB key hs a e
    by_cases q : r.length < lim
    · rw [if_pos (.inr q), if_pos (.inr q)]; rw [if_pos q, if_pos q] at k; exact k
    · have n : ¬ (hasK r key = true ∨ r.length < lim) := by rw [e]; simpa using q
      rw [if_neg n, if_neg n]; rw [if_neg q, if_neg q] at k; exact k
end Go.Proofs.Ytbnlhjooimppeaa
/- due: Drop, At, Next. -/
namespace Go.Proofs.Ytbnlhjooimppeaa
set_option linter.unusedVariables false
set_option linter.unusedSimpArgs false
open Go.RowKit W Go.Maps
def DropP (B : Nat) (w : World) (qb kb mb lim : Nat) (v : Value) (r : List En) (o : Value) (e : Ending) (w' : World) : Prop :=
  ∃ v', e = .returned o ∧ QA B w' qb kb mb lim v' r ∧ Chg (kS3 kb mb v) w w' ∧ Mvd w v v'
set_option maxRecDepth 100000 in
set_option maxHeartbeats 8000000 in
theorem qdrop_spec {B : Nat} {w : World} {qb kb mb lim : Nat} {v : Value} {r : List En} (h : QA B w qb kb mb lim v r) (hB : B ≤ w.heap.size) (key : ByteArray) (hs : key.size ≤ maxLen) :
    Calls Try.prog 28 #[.pointer (some ⟨qb, 0, none⟩), .string key] w (DropP B w qb kb mb lim v (delK r key) (.bool (hasK r key))) := by
  have km := qmade h
  have c2 := h.q.cell 2 _ rfl
  have nq := h.nq
  have HH := hide h
  obtain ⟨l, hl, p⟩ := h.hq
  have hz := lookI hl.kq.km.map key hs
  have d1 := hl.kq.km.k.cell 1 _ rfl
  have HP := hide p
  cases q : idxK l key with
  | none =>
    have hk : hasK r key = false := by rw [← hasK_perm p]; exact idxK_none.1 q
    have e1 : idxI l key = none := by show (idxK l key).map _ = _; rw [q]; rfl
    rw [e1] at hz
    simp only [Option.getD_none, Option.isSome_none] at hz
    rw [delK_none hk, hk]
    clear h hl p q hk e1
    go_enter Try.func28, Try.ntmps28
    go_wp2_with (go_at_call 44; refine km.mono ?_; rintro e w' ⟨rfl, rfl⟩)
    go_returns
    exact ⟨v, rfl, HH.out, Chg.refl _ _, Mvd.refl _ _⟩
  | some i =>
    obtain ⟨hi, hik⟩ := (idxK_some hl.kq.keys).1 q
    have hk : hasK r key = true := by rw [← hasK_perm p]; exact hasK_iff.2 ⟨_, List.getElem_mem hi, hik⟩
    have e1 : idxI l key = some (i : Int) := by show (idxK l key).map _ = _; rw [q]; rfl
    rw [e1] at hz
    simp only [Option.getD_some, Option.isSome_some] at hz
    rw [hk]
    have kr := hremove_spec (n := l.length - 1) (i := i) hl (by omega) (by omega) hB
    have ll := hl.kq.len
    have DE := hide (delK_erase hl.kq.keys hi)
    rw [hik] at DE
    have DP := hide (delK_perm p key)
    have DL := hide (delK_len HH.out.keys hk)
    clear h hl p q hk e1
    go_enter Try.func28, Try.ntmps28
    go_wp2_with (first
      | (go_at_call 44; refine km.mono ?_; rintro e w' ⟨rfl, rfl⟩)
      | (go_at_call 55; refine kr.mono ?_; rintro e w2 ⟨⟨r2, rfl⟩, v2, l2, q2, p2, c2', m2⟩))
    go_returns
    exact ⟨v2, rfl, ⟨HH.out.q.chg c2' nq, ⟨l2, q2, p2.trans (by rw [← DE.out]; exact DP.out)⟩, HH.out.srt.del key, HH.out.keys.del key, by have := HH.out.le; have := DL.out; omega, HH.out.mx, HH.out.bq⟩, c2', m2⟩
set_option maxRecDepth 100000 in
set_option maxHeartbeats 8000000 in
theorem qat_spec {B : Nat} {w : World} {qb kb mb lim : Nat} {v : Value} {r : List En} (h : QA B w qb kb mb lim v r) (key : ByteArray) (hs : key.size ≤ maxLen) :
    CalcN 24 #[.pointer (some ⟨qb, 0, none⟩), .string key] w (.tuple #[.int .i64 ((atK r key).getD 0), .bool (hasK r key)]) := by
  have km := qmade h
  have c2 := h.q.cell 2 _ rfl
  have HH := hide h
  obtain ⟨l, hl, p⟩ := h.hq
  have hz := lookI hl.kq.km.map key hs
  have d1 := hl.kq.km.k.cell 1 _ rfl
  have d0 := hl.kq.km.k.cell 0 _ rfl
  cases q : idxK l key with
  | none =>
    have hk : hasK r key = false := by rw [← hasK_perm p]; exact idxK_none.1 q
    have e1 : idxI l key = none := by show (idxK l key).map _ = _; rw [q]; rfl
    rw [e1] at hz
    simp only [Option.getD_none, Option.isSome_none] at hz
    rw [atK_none.2 hk, hk]
    clear h hl p q hk e1
    go_enter Try.func24, Try.ntmps24
    go_wp2_with (go_at_call 44; refine km.mono ?_; rintro e w' ⟨rfl, rfl⟩)
    go_returns
    exact ⟨rfl, rfl⟩
  | some i =>
    obtain ⟨hi, hik⟩ := (idxK_some hl.kq.keys).1 q
    have hk : hasK r key = true := by rw [← hasK_perm p]; exact hasK_iff.2 ⟨_, List.getElem_mem hi, hik⟩
    have e1 : idxI l key = some (i : Int) := by show (idxK l key).map _ = _; rw [q]; rfl
    rw [e1] at hz
    simp only [Option.getD_some, Option.isSome_some] at hz
    have ha : atK r key = some l[i].2 := (atK_some HH.out.keys).2 (p.subset (by rw [← hik]; exact List.getElem_mem hi))
    rw [hk, ha]
    obtain ⟨n, hn⟩ : ∃ n, n = l.length := ⟨_, rfl⟩
    obtain ⟨g, c, rfl, nc, gl, gB, fz⟩ := hl.kq.km.form n hn (by omega)
    obtain ⟨x0, x1⟩ := hl.kq.km.key hn hi
    have ll := hl.kq.len
    obtain ⟨a, hb⟩ : ∃ a, a = l[i].2 := ⟨_, rfl⟩
    rw [← hb] at x1 ⊢
    rw [← hn] at hi ll
    simp only [Option.getD_some]
    clear h hl p q hk e1 ha hb hn x0 fz hik
    go_enter Try.func24, Try.ntmps24
    go_wp2_with (go_at_call 44; refine km.mono ?_; rintro e w' ⟨rfl, rfl⟩)
    go_returns
    exact ⟨rfl, rfl⟩
/-- What Next tells. -/
def nxtV : List En → Value
  | [] => .tuple #[.agg #[.string ByteArray.empty, .int .i64 0], .bool false]
  | e :: _ => .tuple #[enV e, .bool true]
set_option maxRecDepth 100000 in
set_option maxHeartbeats 8000000 in
theorem qnext_spec {B : Nat} {w : World} {qb kb mb lim : Nat} {v : Value} {r : List En} (h : QA B w qb kb mb lim v r) :
    Calls Try.prog 25 #[.pointer (some ⟨qb, 0, none⟩)] w fun e w' => e = .returned (nxtV r) ∧ Below w.heap.size w w' := by
  have kl : ∀ W, Below w.heap.size w W → CalcN 18 #[.pointer (some ⟨qb, 0, none⟩)] W (.int .i64 (r.length : Int)) := fun W b => qlen (h.later b)
  have HH := hide h
  cases r with
  | nil =>
    simp only [nxtV]
    rw [show ((([] : List En).length : Nat) : Int) = 0 from rfl] at kl
    clear h
    go_enter Try.func25, Try.ntmps25
    go_wp2_with (go_at_call 18; (with_reducible refine Calls.mono (kl _ (by go_grown)) ?_); rintro e w' ⟨rfl, rfl⟩)
    go_returns
    exact ⟨rfl, by go_grown⟩
  | cons x r =>
    simp only [nxtV]
    have c2 := h.q.cell 2 _ rfl
    have lq := h.q.lt
    obtain ⟨l, hl, p⟩ := h.hq
    have ll := p.length_eq
    rw [List.length_cons] at ll
    have lk := hl.kq.km.k.lt
    have l6 := hl.kq.len
    obtain ⟨n, hn⟩ : ∃ n, n = l.length := ⟨_, rfl⟩
    have d0 := hl.kq.km.k.cell 0 _ rfl
    have top : l[0]'(by omega) = x := by
      refine sorted_head ordE HH.out.srt (p.subset (List.getElem_mem _)) fun c hc => ?_
      obtain ⟨k, hk, rfl⟩ := List.getElem_of_mem (p.symm.subset hc)
      have := hl.heap.top ordE k hk
      rw [fE_get hk, fE_get (by omega)] at this
      exact this
    obtain ⟨g, c, rfl, nc, gl, gB, fz⟩ := hl.kq.km.form n hn (by omega)
    obtain ⟨x0, x1⟩ := hl.kq.km.key hn (i := 0) (by omega)
    rw [top] at x0 x1
    rw [show 0 * 2 = 0 from rfl] at x0 x1
    have n0 : 0 < n := by omega
    have ne : (((x :: r).length : Nat) : Int) ≠ 0 := by simp; omega
    obtain ⟨m, hm⟩ : ∃ m, m = (x :: r).length := ⟨_, rfl⟩
    rw [← hm] at kl ne
    have nb : ((m : Int) == 0) = false := by simpa using ne
    have nb2 : (m == 0) = false := by simpa using ne
    clear h hl p top fz hn ll hm ne
    go_enter Try.func25, Try.ntmps25
    go_wp2_with (go_at_call 18; (with_reducible refine Calls.mono (kl _ (by go_grown)) ?_); rintro e w' ⟨rfl, rfl⟩)
    go_returns
    exact ⟨rfl, by go_grown⟩
end Go.Proofs.Ytbnlhjooimppeaa
/- due: Take. -/
namespace Go.Proofs.Ytbnlhjooimppeaa
set_option linter.unusedVariables false
set_option linter.unusedSimpArgs false
open Go.RowKit W Go.Maps
def lenOf : Value → Nat
  | .slice _ n _ => n
  | _ => 0
def tkR (r : List En) (now : Int) : List En := r.takeWhile fun e => decide (e.2 ≤ now)
def drR (r : List En) (now : Int) : List En := r.dropWhile fun e => decide (e.2 ≤ now)
/-- The first one is off. -/
theorem QA.pop {B : Nat} {w w' : World} {qb kb mb lim : Nat} {v : Value} {l r : List En} {x : En} (h : QA B w qb kb mb lim v (x :: r)) (hq : HQ B w kb mb v l) (hp : l.Perm (x :: r)) (p : PopP B w kb mb v l 0 w') :
    ∃ v', QA B w' qb kb mb lim v' r ∧ Chg (kS3 kb mb v) w w' ∧ Mvd w v v' := by
  obtain ⟨v', l', q, pp, c, m⟩ := p
  have ll := hp.length_eq
  rw [List.length_cons] at ll
  have top : l[0]'(by omega) = x := by
    refine sorted_head ordE h.srt (hp.subset (List.getElem_mem _)) fun c hc => ?_
    obtain ⟨k, hk, rfl⟩ := List.getElem_of_mem (hp.symm.subset hc)
    have := hq.heap.top ordE k hk
    rw [fE_get hk, fE_get (by omega)] at this
    exact this
  have pr : (l.eraseIdx 0).Perm r := by
    have := (erase_cons_perm (l := l) (i := 0) (by omega)).trans hp
    rw [top] at this
    exact this.cons_inv
  have le := h.le
  rw [List.length_cons] at le
  exact ⟨v', ⟨h.q.chg c h.nq, ⟨l', q, pp.trans pr⟩, (List.pairwise_cons.1 h.srt).2, (List.pairwise_cons.1 h.keys).2, by omega, h.mx, h.bq⟩, c, m⟩
/-- While Take goes on. -/
structure TkS (B : Nat) (w : World) (qb kb mb lim : Nat) (v : Value) (r : List En) (now : Int) (wr : World) (s : Value) (t rest : List En) (v' : Value) : Prop where
  eq : t ++ rest = r
  all : ∀ e ∈ t, e.2 ≤ now
  row : wr.ownsRow w.heap.size 43 2 s t.length (dues t)
  qa : QA B wr qb kb mb lim v' rest
  chg : Chg (kS3 kb mb v) w wr
  mvd : Mvd w v v'
  apt : Apt s v'
def TakeP (B : Nat) (w : World) (qb kb mb lim : Nat) (v : Value) (r : List En) (now : Int) (e : Ending) (w' : World) : Prop :=
  ∃ v' s, e = .returned s ∧ w'.ownsRow w.heap.size 43 2 s (tkR r now).length (dues (tkR r now)) ∧ QA B w' qb kb mb lim v' (drR r now) ∧ Chg (kS3 kb mb v) w w' ∧ Mvd w v v' ∧ Apt s v'
theorem TkS.fin {B : Nat} {w wr w' : World} {qb kb mb lim : Nat} {v s v' : Value} {r t rest : List En} {now : Int} (h : TkS B w qb kb mb lim v r now wr s t rest v') (b : Below wr.heap.size wr w') (he : ∀ x y, rest = x :: y → now < x.2) : TakeP B w qb kb mb lim v r now (.returned s) w' := by
  have e1 : tkR r now = t := by
    rw [← h.eq, tkR, List.takeWhile_append_of_pos (fun a ha => by simpa using h.all a ha)]
    cases rest with
    | nil => simp
    | cons x y => have := he x y rfl; rw [List.takeWhile_cons_of_neg (by simpa using this)]; simp
  have e2 : drR r now = rest := by
    rw [← h.eq, drR, List.dropWhile_append_of_pos (fun a ha => by simpa using h.all a ha)]
    cases rest with
    | nil => rfl
    | cons x y => have := he x y rfl; rw [List.dropWhile_cons_of_neg (by simpa using this)]
  rw [TakeP, e1, e2]
  exact ⟨v', s, rfl, chg_row h.row (Chg.of_below (S := fun _ => False) b) (fun _ _ q => q), h.qa.later b, h.chg.trans (Chg.of_below (S := kS3 kb mb v) b) (fun _ _ q => q), h.mvd, h.apt⟩
theorem TkS.row2 {B : Nat} {w wr w2 : World} {qb kb mb lim : Nat} {v s v' : Value} {r t rest : List En} {now : Int} (h : TkS B w qb kb mb lim v r now wr s t rest v') (c2 : Chg (kS3 kb mb v') wr w2) : w2.ownsRow w.heap.size 43 2 s t.length (dues t) :=
  chg_row h.row c2 (fun k e q => by
    obtain ⟨l0, hl0, _⟩ := h.qa.hq
    rcases q with q | q | q
    · subst q; exact hl0.kq.km.k.ne_row h.row (by decide) e
    · subst q; exact row_ne_map h.row hl0.kq.km.map e
    · exact h.apt k e q)
/-- One more. -/
theorem TkS.more {B : Nat} {w wr w1 w2 w3 : World} {qb kb mb lim : Nat} {v s v' v2 s' : Value} {r t rest : List En} {x : En} {now : Int} {o : Obj} (h : TkS B w qb kb mb lim v r now wr s t (x :: rest) v') (hx : x.2 ≤ now)
    (q2 : QA B w2 qb kb mb lim v2 rest) (c2 : Chg (kS3 kb mb v') wr w2) (m2 : Mvd wr v' v2) (hB : w.heap.size ≤ wr.heap.size)
    (hg : w1.grownBy w3 s.ownBlock) (hw1 : w1.heap = w2.heap.push o) (ho : w1.os = w2.os) (ht : w1.tape = w2.tape) (hu : w1.output = w2.output) (hr : w3.ownsRow w.heap.size 43 2 s' (t.length + 1) (dues t ++ [.string x.1, .int .i64 x.2])) (hs : s'.ownBlock = s.ownBlock ∨ s'.ownBlock = some w1.heap.size) :
    TkS B w qb kb mb lim v r now w3 s' (t ++ [x]) rest v2 := by
  have A2 : Apt s v2 := fun k e q => by
    have lo := own_old h.row e
    rcases m2 k q with z | z
    · exact h.apt k e z
    · omega
  have C3 : Chg (fun k => s.ownBlock = some k) w2 w3 := Chg.grown2 hg hw1 ho ht hu (fun _ e => e)
  obtain ⟨l2, hl2, p2⟩ := q2.hq
  have row2 : w2.ownsRow w.heap.size 43 2 s t.length (dues t) := chg_row h.row c2 (fun k e q => by
    obtain ⟨l0, hl0, _⟩ := h.qa.hq
    rcases q with q | q | q
    · subst q; exact hl0.kq.km.k.ne_row h.row (by decide) e
    · subst q; exact row_ne_map h.row hl0.kq.km.map e
    · exact h.apt k e q)
  have nk : ∀ k, kS3 kb mb v2 k → ¬ s.ownBlock = some k := fun k q e => by
    rcases q with q | q | q
    · subst q; exact hl2.kq.km.k.ne_row row2 (by decide) e
    · subst q; exact row_ne_map row2 hl2.kq.km.map e
    · exact A2 k e q
  have sz := c2.size
  have sz1 : w1.heap.size = w2.heap.size + 1 := by rw [hw1]; simp
  refine ⟨by rw [← h.eq]; simp, fun e he => ?_, by rw [dues_app, List.length_append]; exact hr, q2.chg C3 (fun q => q2.q.ne_row row2 (by decide) q) nk, ?_, fun k e => ?_, fun k e q => ?_⟩
  · rcases List.mem_append.1 he with z | z
    · exact h.all e z
    · rw [List.mem_singleton] at z; subst z; exact hx
  · refine (h.chg.mvd c2 h.mvd).trans C3 (fun j hj e => ?_)
    have := (own_old h.row e).1
    omega
  · rcases m2 k e with z | z
    · exact h.mvd k z
    · right; omega
  · rcases hs with z | z
    · rw [z] at e; exact A2 k e q
    · rw [z] at e
      injection e with e
      have := (q2.old k (.inr (.inr q))).2
      omega
set_option maxRecDepth 100000 in
set_option maxHeartbeats 8000000 in
theorem qtake_spec {B : Nat} {w : World} {qb kb mb lim : Nat} {v : Value} {r : List En} (h : QA B w qb kb mb lim v r) (hB : B ≤ w.heap.size) (now : Int) :
    Calls Try.prog 22 #[.pointer (some ⟨qb, 0, none⟩), .int .i64 now] w (TakeP B w qb kb mb lim v r now) := by
  obtain ⟨i0, hi0⟩ : ∃ i0, Hid (Try.prog.info? 43 = some i0 ∧ i0.zero = some (.agg #[.string ByteArray.empty, .int .i64 0]) ∧ i0.size = 2 ∧ i0.bytes = 24) := by
    obtain ⟨i0, h1, h2, h3, h4⟩ := info_parts info_due
    exact ⟨i0, h1, h2, h3, h4⟩
  have T0 : Hid (TkS B w qb kb mb lim v r now w (.slice none 0 0) [] r v) := ⟨rfl, by simp, World.ownsRow_nil _ _ _ _, h, Chg.refl _ _, Mvd.refl _ _, Apt.nil _⟩
  have rl : r.length ≤ 65536 := Nat.le_trans h.le h.mx
  clear h
  go_enter Try.func22, Try.ntmps22
  go_wp2_with fail
  go_loopw [5] (fun s5 wr => ∃ (t rest : List En) (v' : Value) (A : Option Addr) (c : Nat), s5 = .slice A t.length c ∧ t.length + rest.length ≤ r.length ∧ Hid (TkS B w qb kb mb lim v r now wr (.slice A t.length c) t rest v')) (fun s5 _ => r.length - lenOf s5)
  case atStart => exact ⟨[], r, v, none, 0, rfl, by simp, T0⟩
  case round =>
    obtain ⟨t, rest, v', A, c, rfl, hl, T⟩ := hrel
    have kn := qnext_spec T.out.qa
    obtain ⟨m, hm⟩ : ∃ m, m = t.length := ⟨_, rfl⟩
    have HM := hide hm
    rw [← hm] at hl T ⊢
    clear hm
    cases rest with
    | nil =>
      simp only [nxtV] at kn
      go_wp2_with (go_at_call 25; refine kn.mono ?_; rintro e w1 ⟨rfl, b1⟩; have z1 := b1.size)
      go_returns
      exact T.out.fin (by go_grown) (fun x y e => by cases e)
    | cons x rest =>
      simp only [nxtV] at kn
      rw [List.length_cons] at hl
      by_cases hx : x.2 ≤ now
      · have d1 : decide (now < x.2) = false := by rw [decide_eq_false_iff_not]; omega
        have ll := T.out.qa.q.lt
        have lB := T.out.chg.size
        have QA' := hide T.out.qa
        obtain ⟨l, hlq, p⟩ := T.out.qa.hq
        have pl := p.length_eq
        rw [List.length_cons] at pl
        have HL := hide hlq
        have HP := hide p
        have hq2 := fun (W : World) (b : Below wr.heap.size wr W) => (QA'.out.later b).q.cell 2 _ rfl
        have kp := fun (W : World) (b : Below wr.heap.size wr W) => hpop_spec (n := rest.length) ⟨HL.out.kq.later b, HL.out.heap⟩ (by omega) (Nat.le_trans (Nat.le_trans hB lB) b.size)
        have lo := QA'.out.old
        clear hlq p
        go_wp2_with (first
          | (go_at_call 25; refine kn.mono ?_; rintro e w1 ⟨rfl, b1⟩; have c2 := hq2 w1 b1; have z1 := b1.size; have l1 : qb < w1.heap.size := Nat.lt_of_lt_of_le ll z1)
          | (go_at_call 48; (with_reducible refine Calls.mono (kp _ (by go_grown)) ?_); rintro e w2 ⟨⟨r2, rfl⟩, pp⟩; have b2 : Below wr.heap.size wr (w1.alloc (.cells #[.string x.1, .int .i64 x.2] 43)) := (b1.alloc z1 _); obtain ⟨v2, q2, c3, m2⟩ := (QA'.out.later b2).pop ⟨HL.out.kq.later b2, HL.out.heap⟩ HP.out pp; have nl : ¬ kS3 kb mb v' w1.heap.size := (fun q => by have := (lo _ q).2; omega); have y0 : w2.cell? ⟨w1.heap.size, 0, none⟩ = some (.string x.1) := ((c3.cell (by simp) nl).trans (by simp [go_sem])); have y1 : w2.cell? ⟨w1.heap.size, 1, none⟩ = some (.int .i64 x.2) := ((c3.cell (by simp) nl).trans (by simp [go_sem])); have C3 := hide ((Chg.of_below (S := kS3 kb mb v') b2).trans c3 (fun _ _ q => q)); have M3 : Hid (Mvd wr v' v2) := (fun k e => (m2 k e).imp id (fun q => by simp at q; omega)); have Q2 := hide q2; have R2 := hide (T.out.row2 C3.out); have z3 := C3.out.size; clear pp q2 c3 m2 c2)
          | (at_builtin
             refine wpList_append_own_at _ rfl _ _ 27 rfl w.heap.size 43 i0 (.agg #[.string ByteArray.empty, .int .i64 0]) 2 24 Try.underlying27 hi0.out.1 hi0.out.2.1 hi0.out.2.2.1 hi0.out.2.2.2 ?a1 ?a2 (.slice A m c) m (dues t) ?a3 ?a4 ⟨w2.heap.size, 0, none⟩ 1 1 [.string x.1, .int .i64 x.2] ?a5 ?a6 ?a7 ?a8 ?a9 ?b1 ?b2 ?_
             case a1 => rfl
             case a2 => decide
             case a3 => rfl
             case a4 => (rw [HM.out]; have := R2.out; rw [HM.out] at this; exact this.alloc _)
             case a5 => rfl
             case a6 => rfl
             case a7 => exact cells_new' _ _ _ _ rfl
             case a8 => exact due_one _ _
             case a9 => (unfold maxLen; omega)
             case b1 => omega
             case b2 => (simp; omega)
             intro v3 w3 hown hgrow _ hat
             obtain ⟨A3, c3', rfl, _, _⟩ := own_form hown
             have hown' : w3.ownsRow w.heap.size 43 2 (.slice A3 (m + 1) c3') (t.length + 1) (dues t ++ [.string x.1, .int .i64 x.2]) := (by rw [← HM.out]; exact hown)
             have N3 := hide (T.out.more (o := .cells #[.string x.1, .int .i64 x.2] 43) hx Q2.out C3.out M3.out lB hgrow rfl rfl rfl rfl hown' hat)
             clear hown hown' hgrow hat y0 y1))
        go_roundw
        case rel => exact ⟨t ++ [x], rest, v2, A3, c3', by rw [List.length_append, ← HM.out]; rfl, by rw [List.length_append, ← HM.out]; simp; omega, by rw [List.length_append, ← HM.out]; exact N3⟩
        case measure => simp [lenOf]; omega
      · have d1 : decide (now < x.2) = true := by rw [decide_eq_true_eq]; omega
        go_wp2_with (go_at_call 25; refine kn.mono ?_; rintro e w1 ⟨rfl, b1⟩; have z1 := b1.size)
        go_returns
        exact T.out.fin (by go_grown) (fun x' y e => by injection e with e _; subst e; omega)
end Go.Proofs.Ytbnlhjooimppeaa
/- due: what a queue is behind a list of Sets, plainly. -/
namespace Go.Proofs.Ytbnlhjooimppeaa
set_option linter.unusedVariables false
set_option linter.unusedSimpArgs false
theorem mem_setR {r : List En} {key : ByteArray} {a : Int} {x : En} : x ∈ setR r key a ↔ x = (key, a) ∨ (x ∈ r ∧ x.1 ≠ key) := by
  unfold setR
  rw [(insE_perm _ _).mem_iff, List.mem_cons]
  unfold delK
  rw [List.mem_filter]
  simp
def stepQ (lim : Nat) (r : List En) (e : En) : List En := if hasK r e.1 = true ∨ r.length < lim then setR r e.1 e.2 else r
def rsQ (lim : Nat) (l : List En) : List En := l.foldl (stepQ lim) []
theorem rsQ_snoc (lim : Nat) (l : List En) (e : En) : rsQ lim (l ++ [e]) = stepQ lim (rsQ lim l) e := by simp [rsQ]
theorem setR_nonempty (r : List En) (key : ByteArray) (a : Int) : 0 < (setR r key a).length := by
  unfold setR
  rw [(insE_perm _ _).length_eq]
  simp
theorem len_pos_has {r : List En} {key : ByteArray} (h : hasK r key = true) : 0 < r.length := by
  obtain ⟨e, he, _⟩ := hasK_iff.1 h
  exact List.length_pos_of_mem he
structure RsI (lim : Nat) (l r : List En) : Prop where
  keys : Keys r
  le : r.length ≤ l.length
  pos : l ≠ [] → 0 < r.length
  last : l.length ≤ lim → ∀ i (h : i < l.length), (∀ k (hk : k < l.length), i < k → l[k].1 ≠ l[i].1) → l[i] ∈ r
theorem RsI.nil (lim : Nat) : RsI lim [] [] := ⟨List.Pairwise.nil, Nat.le_refl _, fun h => absurd rfl h, fun _ i h => absurd h (by simp)⟩
theorem RsI.step {lim : Nat} {l r : List En} (h : RsI lim l r) (hl : 0 < lim) (e : En) : RsI lim (l ++ [e]) (stepQ lim r e) := by
  unfold stepQ
  by_cases c : hasK r e.1 = true ∨ r.length < lim
  · rw [if_pos c]
    have sl := setR_len h.keys e.1 e.2
    have le := h.le
    refine ⟨setR_keys h.keys _ _, by rw [List.length_append, sl]; split <;> simp <;> omega, fun _ => setR_nonempty _ _ _, fun hm i hi hlast => ?_⟩
    rw [List.length_append, List.length_singleton] at hm hi
    by_cases q : i < l.length
    · have hl' := h.last (by omega) i q (fun k hk ik => by
        have := hlast k (by simp; omega) ik
        rw [List.getElem_append_left hk, List.getElem_append_left q] at this
        exact this)
      have ne := hlast l.length (by simp) q
      rw [List.getElem_append_right (Nat.le_refl _), List.getElem_append_left q] at ne
      simp at ne
      rw [List.getElem_append_left q]
      exact mem_setR.2 (.inr ⟨hl', fun z => ne z.symm⟩)
    · obtain rfl : i = l.length := by omega
      rw [List.getElem_append_right (Nat.le_refl _)]
      simp
      exact mem_setR.2 (.inl rfl)
  · rw [if_neg c]
    have le := h.le
    refine ⟨h.keys, by rw [List.length_append]; omega, fun _ => ?_, fun hm i hi hlast => ?_⟩
    · have : ¬ r.length < lim := fun q => c (.inr q)
      omega
    · rw [List.length_append, List.length_singleton] at hm
      have : ¬ r.length < lim := fun q => c (.inr q)
      omega
theorem rsI (lim : Nat) (hl : 0 < lim) (l : List En) : RsI lim l (rsQ lim l) := by
  have : ∀ n, n ≤ l.length → RsI lim (l.take n) (rsQ lim (l.take n)) := by
    intro n
    induction n with
    | zero => intro _; rw [List.take_zero]; exact RsI.nil lim
    | succ n ih =>
      intro hn
      rw [List.take_add_one, List.getElem?_eq_getElem (by omega)]
      simp only [Option.toList_some]
      rw [rsQ_snoc]
      exact (ih (by omega)).step hl _
  have q := this l.length (Nat.le_refl _)
  rwa [List.take_length] at q
theorem tk_dr (r : List En) (now : Int) : tkR r now ++ drR r now = r := List.takeWhile_append_dropWhile
theorem tk_le {r : List En} {now : Int} {x : En} (h : x ∈ tkR r now) : x.2 ≤ now := by
  unfold tkR at h
  induction r with
  | nil => simp at h
  | cons a r ih =>
    by_cases c : a.2 ≤ now
    · rw [List.takeWhile_cons_of_pos (by simpa using c)] at h
      rcases List.mem_cons.1 h with q | q
      · subst q; exact c
      · exact ih q
    · rw [List.takeWhile_cons_of_neg (by simpa using c)] at h
      cases h
theorem dr_gt {r : List En} {now : Int} (hs : Sorted ltE r) {x : En} (h : x ∈ drR r now) : now < x.2 := by
  unfold drR at h
  induction r with
  | nil => simp at h
  | cons a r ih =>
    by_cases c : a.2 ≤ now
    · rw [List.dropWhile_cons_of_pos (by simpa using c)] at h
      exact ih (List.pairwise_cons.1 hs).2 h
    · rw [List.dropWhile_cons_of_neg (by simpa using c)] at h
      rcases List.mem_cons.1 h with q | q
      · subst q; omega
      · have := (ltE_iff _ _).1 ((List.pairwise_cons.1 hs).1 x q)
        rcases this with z | ⟨z, _⟩ <;> omega
theorem mem_dr {r : List En} {now : Int} (hs : Sorted ltE r) {x : En} : x ∈ drR r now ↔ x ∈ r ∧ now < x.2 := by
  constructor
  · intro h
    exact ⟨by rw [← tk_dr r now]; exact List.mem_append_right _ h, dr_gt hs h⟩
  · rintro ⟨h1, h2⟩
    rw [← tk_dr r now] at h1
    rcases List.mem_append.1 h1 with q | q
    · have := tk_le q; omega
    · exact q
theorem tk_not_dr {r : List En} {now : Int} (k : Keys r) {x : En} (h : x ∈ tkR r now) : hasK (drR r now) x.1 = false := by
  cases q : hasK (drR r now) x.1
  · rfl
  · obtain ⟨e, he, hk⟩ := hasK_iff.1 q
    rw [← tk_dr r now] at k
    exact absurd hk.symm ((List.pairwise_append.1 k).2.2 x h e he)
theorem dr_has {r : List En} {now : Int} (hs : Sorted ltE r) (k : Keys r) {x : En} (h : x ∈ r) : hasK (drR r now) x.1 = decide (now < x.2) ∧ (now < x.2 → atK (drR r now) x.1 = some x.2) := by
  have kd : Keys (drR r now) := by rw [← tk_dr r now] at k; exact (List.pairwise_append.1 k).2.1
  by_cases c : now < x.2
  · have m : x ∈ drR r now := (mem_dr hs).2 ⟨h, c⟩
    rw [decide_eq_true c]
    exact ⟨hasK_iff.2 ⟨x, m, rfl⟩, fun _ => (atK_some kd).2 m⟩
  · rw [decide_eq_false c]
    refine ⟨?_, fun q => absurd q c⟩
    have m : x ∈ tkR r now := by
      rw [← tk_dr r now] at h
      rcases List.mem_append.1 h with q | q
      · exact q
      · exact absurd (dr_gt hs q) c
    exact tk_not_dr k m
theorem Sorted.tk {r : List En} (h : Sorted ltE r) (now : Int) : Sorted ltE (tkR r now) := by
  have := h
  rw [← tk_dr r now] at this
  exact (List.pairwise_append.1 this).1
theorem Sorted.dr {r : List En} (h : Sorted ltE r) (now : Int) : Sorted ltE (drR r now) := by
  have := h
  rw [← tk_dr r now] at this
  exact (List.pairwise_append.1 this).2.1
theorem tk_dr_len (r : List En) (now : Int) : (tkR r now).length + (drR r now).length = r.length := by
  have := congrArg List.length (tk_dr r now)
  rwa [List.length_append] at this
end Go.Proofs.Ytbnlhjooimppeaa
/- source: a list of sources by rising names, plainly. -/
namespace Go.Proofs.Ytbnlhjooimppeaa
set_option linter.unusedVariables false
set_option linter.unusedSimpArgs false
/-- A source: its name, its greatest second, when it was last heard. -/
abbrev Sr := ByteArray × Int × Int
def Names (A : List Sr) : Prop := A.Pairwise fun a b => ltB a.1 b.1 = true
def findS (A : List Sr) (key : ByteArray) : Option Sr := A.find? fun s => decide (s.1 = key)
def dropS (A : List Sr) (key : ByteArray) : List Sr := match A.dropWhile (fun s => ltB s.1 key) with | [] => [] | s :: r => if s.1 = key then r else s :: r
def putS (A : List Sr) (s : Sr) : List Sr := A.takeWhile (fun x => ltB x.1 s.1) ++ s :: dropS A s.1
theorem ltB_ne {a b : ByteArray} (h : ltB a b = true) : a ≠ b := by
  rintro rfl
  rw [ltB_irr] at h
  cases h
theorem Names.eq {A : List Sr} (h : Names A) {s t : Sr} (hs : s ∈ A) (ht : t ∈ A) (e : s.1 = t.1) : s = t := by
  induction A with
  | nil => cases hs
  | cons a A ih =>
    have h' := List.pairwise_cons.1 h
    rcases List.mem_cons.1 hs with q | q
    · rcases List.mem_cons.1 ht with z | z
      · rw [q, z]
      · subst q; exact absurd e (ltB_ne (h'.1 t z))
    · rcases List.mem_cons.1 ht with z | z
      · subst z; exact absurd e.symm (ltB_ne (h'.1 s q))
      · exact ih h'.2 q z
theorem findS_some {A : List Sr} (h : Names A) {key : ByteArray} {s : Sr} : findS A key = some s ↔ s ∈ A ∧ s.1 = key := by
  unfold findS
  constructor
  · intro q
    exact ⟨List.mem_of_find?_eq_some q, by simpa using List.find?_some q⟩
  · rintro ⟨h1, h2⟩
    cases e : A.find? fun s => decide (s.1 = key) with
    | none =>
      rw [List.find?_eq_none] at e
      exact absurd h2 (by simpa using e s h1)
    | some t =>
      have t1 := List.mem_of_find?_eq_some e
      have t2 : t.1 = key := by simpa using List.find?_some e
      rw [h.eq t1 h1 (t2.trans h2.symm)]
theorem findS_none {A : List Sr} {key : ByteArray} : findS A key = none ↔ ∀ s ∈ A, s.1 ≠ key := by
  unfold findS
  rw [List.find?_eq_none]
  simp
theorem putS_cons_lt {A : List Sr} {a s : Sr} (h : ltB a.1 s.1 = true) : putS (a :: A) s = a :: putS A s := by
  simp [putS, dropS, h]
theorem putS_cons_eq {A : List Sr} {a s : Sr} (h : a.1 = s.1) : putS (a :: A) s = s :: A := by
  simp [putS, dropS, h, ltB_irr]
theorem putS_cons_gt {A : List Sr} {a s : Sr} (h : ltB a.1 s.1 = false) (n : a.1 ≠ s.1) : putS (a :: A) s = s :: a :: A := by
  simp [putS, dropS, h, n]
theorem mem_putS {A : List Sr} (h : Names A) {s x : Sr} : x ∈ putS A s ↔ x = s ∨ (x ∈ A ∧ x.1 ≠ s.1) := by
  induction A with
  | nil => simp [putS, dropS]
  | cons a A ih =>
    have h' := List.pairwise_cons.1 h
    by_cases c : ltB a.1 s.1 = true
    · rw [putS_cons_lt c, List.mem_cons, ih h'.2, List.mem_cons]
      constructor
      · rintro (q | q | ⟨q1, q2⟩)
        · subst q; exact .inr ⟨.inl rfl, ltB_ne c⟩
        · exact .inl q
        · exact .inr ⟨.inr q1, q2⟩
      · rintro (q | ⟨q | q, z⟩)
        · exact .inr (.inl q)
        · exact .inl q
        · exact .inr (.inr ⟨q, z⟩)
    · have c : ltB a.1 s.1 = false := by simpa using c
      by_cases e : a.1 = s.1
      · rw [putS_cons_eq e, List.mem_cons, List.mem_cons]
        constructor
        · rintro (q | q)
          · exact .inl q
          · exact .inr ⟨.inr q, by rw [← e]; exact (ltB_ne (h'.1 x q)).symm⟩
        · rintro (q | ⟨q | q, z⟩)
          · exact .inl q
          · subst q; exact absurd e z
          · exact .inr q
      · rw [putS_cons_gt c e, List.mem_cons]
        constructor
        · rintro (q | q)
          · exact .inl q
          · refine .inr ⟨q, fun z => ?_⟩
            rcases List.mem_cons.1 q with w | w
            · subst w; exact e z
            · have sa : ltB s.1 a.1 = true := by
                cases k : ltB s.1 a.1
                · exact absurd (ltB_tot c k) e
                · rfl
              have := ltB_trans sa (h'.1 x w)
              rw [z, ltB_irr] at this; cases this
        · rintro (q | ⟨q, z⟩)
          · exact .inl q
          · exact .inr q
theorem Names.put {A : List Sr} (h : Names A) (s : Sr) : Names (putS A s) := by
  induction A with
  | nil => simp [putS, dropS, Names]
  | cons a A ih =>
    have h' := List.pairwise_cons.1 h
    by_cases c : ltB a.1 s.1 = true
    · rw [putS_cons_lt c]
      refine List.pairwise_cons.2 ⟨fun x hx => ?_, ih h'.2⟩
      rcases (mem_putS h'.2).1 hx with q | ⟨q, _⟩
      · subst q; exact c
      · exact h'.1 x q
    · have c : ltB a.1 s.1 = false := by simpa using c
      by_cases e : a.1 = s.1
      · rw [putS_cons_eq e]
        exact List.pairwise_cons.2 ⟨fun x hx => by rw [← e]; exact h'.1 x hx, h'.2⟩
      · rw [putS_cons_gt c e]
        have sa : ltB s.1 a.1 = true := by
          cases k : ltB s.1 a.1
          · exact absurd (ltB_tot c k) e
          · rfl
        refine List.pairwise_cons.2 ⟨fun x hx => ?_, h⟩
        rcases List.mem_cons.1 hx with w | w
        · subst w; exact sa
        · exact ltB_trans sa (h'.1 x w)
theorem putS_len {A : List Sr} (h : Names A) (s : Sr) : (putS A s).length = if (findS A s.1).isSome then A.length else A.length + 1 := by
  induction A with
  | nil => simp [putS, dropS, findS]
  | cons a A ih =>
    have h' := List.pairwise_cons.1 h
    by_cases c : ltB a.1 s.1 = true
    · rw [putS_cons_lt c, List.length_cons, ih h'.2, List.length_cons]
      have : findS (a :: A) s.1 = findS A s.1 := by simp [findS, ltB_ne c]
      rw [this]
      split <;> rfl
    · have c : ltB a.1 s.1 = false := by simpa using c
      by_cases e : a.1 = s.1
      · rw [putS_cons_eq e]
        have : (findS (a :: A) s.1).isSome = true := by simp [findS, e]
        rw [if_pos this]; rfl
      · rw [putS_cons_gt c e]
        have : (findS (a :: A) s.1).isSome = false := by
          have sa : ltB s.1 a.1 = true := by
            cases k : ltB s.1 a.1
            · exact absurd (ltB_tot c k) e
            · rfl
          rw [Option.isSome_eq_false_iff, Option.isNone_iff_eq_none, findS_none]
          intro x hx z
          rcases List.mem_cons.1 hx with w | w
          · subst w; exact e z
          · have := ltB_trans sa (h'.1 x w)
            rw [z, ltB_irr] at this; cases this
        rw [this, if_neg (by decide)]; rfl
theorem find_putS {A : List Sr} (h : Names A) (s : Sr) (key : ByteArray) : findS (putS A s) key = if key = s.1 then some s else findS A key := by
  by_cases e : key = s.1
  · rw [if_pos e]
    exact (findS_some (h.put s)).2 ⟨(mem_putS h).2 (.inl rfl), e.symm⟩
  · rw [if_neg e]
    cases f : findS A key with
    | none =>
      rw [findS_none] at f ⊢
      intro x hx z
      rcases (mem_putS h).1 hx with q | ⟨q, _⟩
      · subst q; exact e z.symm
      · exact f x q z
    | some t =>
      obtain ⟨t1, t2⟩ := (findS_some h).1 f
      exact (findS_some (h.put s)).2 ⟨(mem_putS h).2 (.inr ⟨t1, fun z => e (t2.symm.trans z)⟩), t2⟩
/-! ### queues over a list of sources -/
/-- A rising list with just one entry for each source. -/
structure QS (f : Sr → Int) (A : List Sr) (r : List En) : Prop where
  mem : ∀ x, x ∈ r ↔ ∃ s ∈ A, x = (s.1, f s)
  len : r.length = A.length
theorem QS.has {f : Sr → Int} {A : List Sr} {r : List En} (h : QS f A r) (hA : Names A) (key : ByteArray) : hasK r key = (findS A key).isSome := by
  cases e : findS A key with
  | none =>
    rw [findS_none] at e
    cases q : hasK r key
    · rfl
    · obtain ⟨x, hx, hk⟩ := hasK_iff.1 q
      obtain ⟨s, hs, rfl⟩ := (h.mem x).1 hx
      exact absurd hk (e s hs)
  | some s =>
    obtain ⟨s1, s2⟩ := (findS_some hA).1 e
    exact hasK_iff.2 ⟨(s.1, f s), (h.mem _).2 ⟨s, s1, rfl⟩, s2⟩
theorem QS.put {f : Sr → Int} {A : List Sr} {r : List En} (h : QS f A r) (hA : Names A) (k : Keys r) (s : Sr) : QS f (putS A s) (setR r s.1 (f s)) := by
  refine ⟨fun x => ?_, ?_⟩
  · rw [mem_setR]
    constructor
    · rintro (q | ⟨q1, q2⟩)
      · exact ⟨s, (mem_putS hA).2 (.inl rfl), q⟩
      · obtain ⟨t, ht, rfl⟩ := (h.mem x).1 q1
        exact ⟨t, (mem_putS hA).2 (.inr ⟨ht, q2⟩), rfl⟩
    · rintro ⟨t, ht, rfl⟩
      rcases (mem_putS hA).1 ht with q | ⟨q1, q2⟩
      · subst q; exact .inl rfl
      · exact .inr ⟨(h.mem _).2 ⟨t, q1, rfl⟩, q2⟩
  · rw [setR_len k, putS_len hA, h.has hA, h.len]
/-- The least. -/
def leastS : List Sr → Option Int
  | [] => none
  | s :: r => some (r.foldl (fun m t => min m t.2.1) s.2.1)
def markS (A : List Sr) (late mark : Int) : Int := match leastS A with | none => mark | some m => max mark (m - late)
theorem foldl_min (r : List Sr) (m : Int) : r.foldl (fun m t => min m t.2.1) m ≤ m ∧ (∀ t ∈ r, r.foldl (fun m t => min m t.2.1) m ≤ t.2.1) ∧ (r.foldl (fun m t => min m t.2.1) m = m ∨ ∃ t ∈ r, r.foldl (fun m t => min m t.2.1) m = t.2.1) := by
  induction r generalizing m with
  | nil => exact ⟨Int.le_refl _, by simp, .inl rfl⟩
  | cons a r ih =>
    obtain ⟨h1, h2, h3⟩ := ih (min m a.2.1)
    simp only [List.foldl_cons]
    refine ⟨by omega, fun t ht => ?_, ?_⟩
    · rcases List.mem_cons.1 ht with q | q
      · subst q; omega
      · exact h2 t q
    · rcases h3 with q | ⟨t, ht, q⟩
      · by_cases c : m ≤ a.2.1
        · left; omega
        · right; exact ⟨a, List.mem_cons_self, by omega⟩
      · right; exact ⟨t, List.mem_cons_of_mem _ ht, q⟩
theorem leastS_spec {A : List Sr} {m : Int} (h : leastS A = some m) : (∀ t ∈ A, m ≤ t.2.1) ∧ ∃ t ∈ A, m = t.2.1 := by
  cases A with
  | nil => cases h
  | cons a r =>
    have h : r.foldl (fun m t => min m t.2.1) a.2.1 = m := by simpa [leastS] using h
    obtain ⟨h1, h2, h3⟩ := foldl_min r a.2.1
    rw [h] at h1 h2 h3
    refine ⟨fun t ht => ?_, ?_⟩
    · rcases List.mem_cons.1 ht with q | q
      · subst q; exact h1
      · exact h2 t q
    · rcases h3 with q | ⟨t, ht, q⟩
      · exact ⟨a, List.mem_cons_self, q⟩
      · exact ⟨t, List.mem_cons_of_mem _ ht, q⟩
/-- The first of the fronts is the least. -/
theorem QS.head {A : List Sr} {r : List En} (h : QS (fun s => s.2.1) A r) (hs : Sorted ltE r) : leastS A = (r.head?).map (·.2) := by
  cases e : leastS A with
  | none =>
    have : A = [] := by cases A with | nil => rfl | cons a r => cases e
    subst this
    have := h.len
    cases r with
    | nil => rfl
    | cons x r => simp at this
  | some m =>
    obtain ⟨h1, t, ht, h2⟩ := leastS_spec e
    cases r with
    | nil => have := (h.mem (t.1, t.2.1)).2 ⟨t, ht, rfl⟩; cases this
    | cons x r =>
      simp only [List.head?_cons, Option.map_some]
      obtain ⟨s, hs', rfl⟩ := (h.mem x).1 List.mem_cons_self
      have := (h.mem (t.1, t.2.1)).2 ⟨t, ht, rfl⟩
      have le := h1 s hs'
      rcases List.mem_cons.1 this with q | q
      · have : t.2.1 = s.2.1 := congrArg Prod.snd q
        simp only
        rw [h2, this]
      · have lt := (ltE_iff _ _).1 ((List.pairwise_cons.1 hs).1 _ q)
        simp only at lt ⊢
        congr 1
        omega
end Go.Proofs.Ytbnlhjooimppeaa
/- source: a table in memory; second, made, Mark. -/
namespace Go.Proofs.Ytbnlhjooimppeaa
set_option linter.unusedVariables false
set_option linter.unusedSimpArgs false
open Go.RowKit W Go.Maps
abbrev srV (s : Sr) : Value := .agg #[.string s.1, .int .i64 s.2.1, .int .i64 s.2.2]
def srD (s : Sr) : DataW Unit := .agg [.lit (.string s.1.data.toList), .lit (.int .i64 s.2.1), .lit (.int .i64 s.2.2)]
theorem srD_inj {s t : Sr} (h : srD s = srD t) : s = t := by
  simp only [srD, DataW.agg.injEq, List.cons.injEq, DataW.lit.injEq, Lit.string.injEq, Lit.int.injEq, true_and, and_true] at h
  obtain ⟨h1, h2, h3⟩ := h
  exact Prod.ext (ByteArray.ext (Array.toList_inj.1 h1)) (Prod.ext h2 h3)
theorem srV_inj {s t : Sr} (h : srV s = srV t) : s = t := by
  simp only [srV, Value.agg.injEq, Array.mk.injEq, List.cons.injEq, Value.string.injEq, Value.int.injEq, true_and, and_true] at h
  obtain ⟨h1, h2, h3⟩ := h
  exact Prod.ext h1 (Prod.ext h2 h3)
open Classical in
noncomputable def elS : ElR Sr where
  R v := if h : ∃ s, v = srV s then some (srD (Classical.choose h), []) else none
  enc := srV
  dat := srD
  ok a := by
    have h : ∃ s, srV a = srV s := ⟨a, rfl⟩
    simp only [dif_pos h]
    have := Classical.choose_spec h
    have e : a = Classical.choose h := srV_inj this
    rw [← e]
  inv v a ps h := by
    by_cases q : ∃ s, v = srV s
    · simp only [dif_pos q] at h
      injection h with h
      injection h with h _
      rw [← srD_inj h]
      exact Classical.choose_spec q
    · simp only [dif_neg q] at h
      cases h
theorem elS_enc (s : Sr) : elS.enc s = srV s := rfl
theorem zeroS (w : World) : (zeroValue 82).run Try.prog w = .ok (srV (ByteArray.empty, 0, 0)) w := by kernel_rfl
theorem unMapS : Try.prog.underlying 110 = some (.map 9 82) := Try.underlying110
/-- The blocks of a table. -/
structure Tb where
  tb : Nat
  ib : Nat
  sb : Nat
  q1 : Nat
  k1 : Nat
  m1 : Nat
  q2 : Nat
  k2 : Nat
  m2 : Nat
/-- A table's memory: its queues' rows are v1, v2; the map holds n sources, M's. -/
structure TMem (B : Nat) (w : World) (b : Tb) (lim : Nat) (late idle : Int) (v1 v2 : Value) (r1 r2 : List En) (n : Nat) (M : ByteArray → Option Sr) (mark : Int) : Prop where
  t : Bw w b.tb 93 #[.pointer (some ⟨b.tb, 0, none⟩), .pointer (some ⟨b.ib, 0, none⟩)]
  i : Bw w b.ib 112 #[.pointer (some ⟨b.q1, 0, none⟩), .map (some b.sb), .pointer (some ⟨b.q2, 0, none⟩), .int .i64 late, .int .i64 idle, .int .i64 mark]
  qa1 : QA B w b.q1 b.k1 b.m1 lim v1 r1
  qa2 : QA B w b.q2 b.k2 b.m2 lim v2 r2
  m : MapG elS w b.sb n M
  a12 : ∀ k, kS3 b.k1 b.m1 v1 k → ¬ kS3 b.k2 b.m2 v2 k
  as1 : ¬ kS3 b.k1 b.m1 v1 b.sb
  as2 : ¬ kS3 b.k2 b.m2 v2 b.sb
  aq1 : ¬ kS3 b.k2 b.m2 v2 b.q1
  aq2 : ¬ kS3 b.k1 b.m1 v1 b.q2
  bt : B ≤ b.tb
  bi : B ≤ b.ib
  bs : B ≤ b.sb
/-- What a table's parts have to do with one another. -/
structure TPl (lim : Nat) (late idle : Int) (A : List Sr) (r1 r2 : List En) (mark : Int) : Prop where
  names : Names A
  s1 : QS (fun s => s.2.2 + idle) A r1
  s2 : QS (fun s => s.2.1) A r2
  sec : ∀ s ∈ A, (0 ≤ s.2.1 ∧ s.2.1 ≤ 1099511627775) ∧ (0 ≤ s.2.2 ∧ s.2.2 ≤ 1099511627775) ∧ s.1.size ≤ maxLen
  lt : 0 ≤ late ∧ late ≤ 1099511627775
  id : 1 ≤ idle ∧ idle ≤ 1099511627775
  mkb : 0 ≤ mark ∧ mark ≤ 1099511627775
  lim : lim ≤ 1024
/-- A table that New made; A: who is there. -/
structure TM (B : Nat) (w : World) (b : Tb) (lim : Nat) (late idle : Int) (v1 v2 : Value) (A : List Sr) (r1 r2 : List En) (mark : Int) : Prop where
  mem : TMem B w b lim late idle v1 v2 r1 r2 A.length (findS A) mark
  pl : TPl lim late idle A r1 r2 mark
/-- All blocks that a call may write. -/
abbrev tS (b : Tb) (v1 v2 : Value) : Nat → Prop := fun k => k = b.ib ∨ k = b.sb ∨ kS3 b.k1 b.m1 v1 k ∨ kS3 b.k2 b.m2 v2 k
theorem infoT : (Try.prog.info? 93).isSome = true := by kernel_rfl
theorem eq_ptrT (b : Nat) (w : World) : (binOp .eql 62 (.pointer (some ⟨b, 0, none⟩)) (.pointer (some ⟨b, 0, none⟩))).run Try.prog w = .ok (.bool true) w := by
  obtain ⟨j, hj⟩ := Option.isSome_iff_exists.1 infoT
  exact run_eql_ptr_same w ⟨b, 0, none⟩ Try.underlying62 hj
/-- The blocks of the table's own are in no queue. -/
theorem Bw.nkS {B : Nat} {w : World} {t : TypeId} {cs : Array Value} {g qb kb mb lim' : Nat} {v : Value} {r : List En} (h : Bw w g t cs) (q : QA B w qb kb mb lim' v r) (n1 : t ≠ 97) (n2 : 43 ≠ t) : ¬ kS3 kb mb v g := by
  obtain ⟨l, hl, _⟩ := q.hq
  rintro (z | z | z)
  · exact h.ne hl.kq.km.k n1 z
  · exact h.ne_map hl.kq.km.map z
  · exact h.ne_row hl.kq.km.row n2 z
theorem mvd_not {w w1 : World} {kb mb : Nat} {v v' : Value} {S : Nat → Prop} (m : Mvd w v v') (h : ∀ k, kS3 kb mb v k → ¬ S k) (hS : ∀ k, S k → k < w.heap.size) : ∀ k, kS3 kb mb v' k → ¬ S k := by
  rintro k (q | q | q) z
  · exact h k (.inl q) z
  · exact h k (.inr (.inl q)) z
  · rcases m k q with e | e
    · exact h k (.inr (.inr e)) z
    · have := hS k z; omega
section
variable {B : Nat} {w w' : World} {b : Tb} {lim : Nat} {late idle : Int} {v1 v2 v1' v2' : Value} {A : List Sr} {r1 r2 r1' r2' : List En} {mark mark' : Int} {n n' : Nat} {M M' : ByteArray → Option Sr}
theorem TMem.later (h : TMem B w b lim late idle v1 v2 r1 r2 n M mark) (c : Below w.heap.size w w') : TMem B w' b lim late idle v1 v2 r1 r2 n M mark :=
  ⟨h.t.later c, h.i.later c, h.qa1.later c, h.qa2.later c, h.m.chg (S := fun _ => False) (Chg.of_below c) (fun q => q), h.a12, h.as1, h.as2, h.aq1, h.aq2, h.bt, h.bi, h.bs⟩
theorem TMem.old (h : TMem B w b lim late idle v1 v2 r1 r2 n M mark) : ∀ k, tS b v1 v2 k → B ≤ k ∧ k < w.heap.size := by
  rintro k (rfl | rfl | q | q)
  · exact ⟨h.bi, h.i.lt⟩
  · exact ⟨h.bs, h.m.lt⟩
  · exact h.qa1.old k q
  · exact h.qa2.old k q
theorem TMem.set1 (h : TMem B w b lim late idle v1 v2 r1 r2 n M mark) (q : QA B w' b.q1 b.k1 b.m1 lim v1' r1') (c : Chg (kS3 b.k1 b.m1 v1) w w') (m : Mvd w v1 v1') : TMem B w' b lim late idle v1' v2 r1' r2 n M mark := by
  have s2 := fun k q => (h.qa2.old k q).2
  refine ⟨h.t.chg c (h.t.nkS h.qa1 (by decide) (by decide)), h.i.chg c (h.i.nkS h.qa1 (by decide) (by decide)), q, h.qa2.chg c h.aq2 (fun k z e => h.a12 k e z), h.m.chg c h.as1, mvd_not (w1 := w) m h.a12 s2, ?_, h.as2, h.aq1, ?_, h.bt, h.bi, h.bs⟩
  · exact mvd_not (w1 := w) (S := fun k => k = b.sb) m (fun k z e => h.as1 (e ▸ z)) (fun k e => e ▸ h.m.lt) _ |> fun f => fun z => f z rfl
  · exact mvd_not (w1 := w) (S := fun k => k = b.q2) m (fun k z e => h.aq2 (e ▸ z)) (fun k e => e ▸ h.qa2.q.lt) _ |> fun f => fun z => f z rfl
theorem TMem.set2 (h : TMem B w b lim late idle v1 v2 r1 r2 n M mark) (q : QA B w' b.q2 b.k2 b.m2 lim v2' r2') (c : Chg (kS3 b.k2 b.m2 v2) w w') (m : Mvd w v2 v2') : TMem B w' b lim late idle v1 v2' r1 r2' n M mark := by
  have s1 := fun k q => (h.qa1.old k q).2
  refine ⟨h.t.chg c (h.t.nkS h.qa2 (by decide) (by decide)), h.i.chg c (h.i.nkS h.qa2 (by decide) (by decide)), h.qa1.chg c h.aq1 (fun k z e => h.a12 k z e), q, h.m.chg c h.as2, fun k z e => mvd_not (w1 := w) m (fun k a b => h.a12 k b a) s1 k e z, h.as1, ?_, ?_, h.aq2, h.bt, h.bi, h.bs⟩
  · exact mvd_not (w1 := w) (S := fun k => k = b.sb) m (fun k z e => h.as2 (e ▸ z)) (fun k e => e ▸ h.m.lt) _ |> fun f => fun z => f z rfl
  · exact mvd_not (w1 := w) (S := fun k => k = b.q1) m (fun k z e => h.aq1 (e ▸ z)) (fun k e => e ▸ h.qa1.q.lt) _ |> fun f => fun z => f z rfl
theorem TMem.setM (h : TMem B w b lim late idle v1 v2 r1 r2 n M mark) (q : MapG elS w' b.sb n' M') (c : Chg (· = b.sb) w w') : TMem B w' b lim late idle v1 v2 r1 r2 n' M' mark :=
  ⟨h.t.chg c (h.t.ne_map h.m), h.i.chg c (h.i.ne_map h.m), h.qa1.chg c (h.qa1.q.ne_map h.m) (fun k z e => h.as1 (e ▸ z)), h.qa2.chg c (h.qa2.q.ne_map h.m) (fun k z e => h.as2 (e ▸ z)), q, h.a12, h.as1, h.as2, h.aq1, h.aq2, h.bt, h.bi, h.bs⟩
theorem TMem.setK (h : TMem B w b lim late idle v1 v2 r1 r2 n M mark) (q : Bw w' b.ib 112 #[.pointer (some ⟨b.q1, 0, none⟩), .map (some b.sb), .pointer (some ⟨b.q2, 0, none⟩), .int .i64 late, .int .i64 idle, .int .i64 mark']) (c : Chg (· = b.ib) w w') : TMem B w' b lim late idle v1 v2 r1 r2 n M mark' :=
  ⟨h.t.chg c (h.t.ne h.i (by decide)), q, h.qa1.chg c (h.qa1.q.ne h.i (by decide)) (fun k z e => h.i.nkS h.qa1 (by decide) (by decide) (e ▸ z)), h.qa2.chg c (h.qa2.q.ne h.i (by decide)) (fun k z e => h.i.nkS h.qa2 (by decide) (by decide) (e ▸ z)), h.m.chg c (fun e => h.i.ne_map h.m e.symm), h.a12, h.as1, h.as2, h.aq1, h.aq2, h.bt, h.bi, h.bs⟩
theorem TM.later (h : TM B w b lim late idle v1 v2 A r1 r2 mark) (c : Below w.heap.size w w') : TM B w' b lim late idle v1 v2 A r1 r2 mark := ⟨h.mem.later c, h.pl⟩
theorem TM.old (h : TM B w b lim late idle v1 v2 A r1 r2 mark) : ∀ k, tS b v1 v2 k → B ≤ k ∧ k < w.heap.size := h.mem.old
set_option maxRecDepth 100000 in
theorem tmade (h : TM B w b lim late idle v1 v2 A r1 r2 mark) : CalcN 61 #[.pointer (some ⟨b.tb, 0, none⟩)] w (.bool true) := by
  have c0 := h.mem.t.cell 0 _ rfl
  have q := eq_ptrT b.tb
  clear h
  go_enter Try.func61, Try.ntmps61
  go_wp2
  go_returns
  exact ⟨rfl, rfl⟩
def secB (t : Int) : Bool := decide (0 ≤ t ∧ t ≤ 1099511627775)
set_option maxRecDepth 100000 in
theorem second11 (t : Int) (w : World) : CalcN 56 #[.int .i64 t] w (.bool (secB t)) := by
  unfold secB
  by_cases h1 : 0 ≤ t
  · have d1 := decide_eq_true h1
    by_cases h2 : t ≤ 1099511627775
    · rw [decide_eq_true ⟨h1, h2⟩]
      have d2 := decide_eq_true h2
      go_enter Try.func56, Try.ntmps56
      go_wp2
      go_returns
      exact ⟨rfl, rfl⟩
    · rw [decide_eq_false (fun q => h2 q.2)]
      have d2 := decide_eq_false h2
      go_enter Try.func56, Try.ntmps56
      go_wp2
      go_returns
      exact ⟨rfl, rfl⟩
  · rw [decide_eq_false (fun q => h1 q.1)]
    have d1 := decide_eq_false h1
    go_enter Try.func56, Try.ntmps56
    go_wp2
    go_returns
    exact ⟨rfl, rfl⟩
set_option maxRecDepth 100000 in
theorem tmark (h : TM B w b lim late idle v1 v2 A r1 r2 mark) : CalcN 35 #[.pointer (some ⟨b.tb, 0, none⟩)] w (.int .i64 mark) := by
  have km := tmade h
  have c1 := h.mem.t.cell 1 _ rfl
  have c5 := h.mem.i.cell 5 _ rfl
  clear h
  go_enter Try.func35, Try.ntmps35
  go_wp2_with (go_at_call 61; refine km.mono ?_; rintro e w' ⟨rfl, rfl⟩)
  go_returns
  exact ⟨rfl, rfl⟩
end
end Go.Proofs.Ytbnlhjooimppeaa
/- source: reckon. -/
namespace Go.Proofs.Ytbnlhjooimppeaa
set_option linter.unusedVariables false
set_option linter.unusedSimpArgs false
open Go.RowKit W Go.Maps
def rkM (r : List En) (late mark : Int) : Int := match r with | [] => mark | x :: _ => max mark (x.2 - late)
abbrev ibC (b : Tb) (late idle mark : Int) : Array Value := #[.pointer (some ⟨b.q1, 0, none⟩), .map (some b.sb), .pointer (some ⟨b.q2, 0, none⟩), .int .i64 late, .int .i64 idle, .int .i64 mark]
set_option maxRecDepth 100000 in
set_option maxHeartbeats 4000000 in
theorem reckon_spec {B : Nat} {w : World} {b : Tb} {lim : Nat} {late idle mark : Int} {v2 : Value} {r2 : List En} (hi : Bw w b.ib 112 (ibC b late idle mark)) (q2 : QA B w b.q2 b.k2 b.m2 lim v2 r2) (hl : 0 ≤ late ∧ late ≤ 1099511627775)
    (hr : ∀ x ∈ r2, 0 ≤ x.2 ∧ x.2 ≤ 1099511627775) :
    Calls Try.prog 77 #[.pointer (some ⟨b.ib, 0, none⟩)] w fun e w' => e = .returned (.tuple #[]) ∧ Bw w' b.ib 112 (ibC b late idle (rkM r2 late mark)) ∧ Chg (· = b.ib) w w' := by
  have kn := qnext_spec q2
  have HI := hide hi
  have li := hi.lt
  have c2 := hi.cell 2 _ rfl
  cases r2 with
  | nil =>
    simp only [nxtV] at kn
    simp only [rkM]
    clear hi hr q2
    go_enter Try.func77, Try.ntmps77
    go_wp2_with (go_at_call 25; refine kn.mono ?_; rintro e w1 ⟨rfl, b1⟩; have z1 := b1.size)
    go_end0
    have B1 : Below w.heap.size w (w1.alloc (.cells #[.string ByteArray.empty, .int .i64 0] 43)) := b1.alloc z1 _
    exact ⟨rfl, HI.out.later B1, Chg.of_below B1⟩
  | cons x r2 =>
    simp only [nxtV] at kn
    simp only [rkM]
    obtain ⟨x1, x2⟩ := hr x List.mem_cons_self
    obtain ⟨hl1, hl2⟩ := hl
    clear hi hr q2
    go_enter Try.func77, Try.ntmps77
    go_wp2_with (go_at_call 25; refine kn.mono ?_; rintro e w1 ⟨rfl, b1⟩; have z1 := b1.size)
    refine abs_wp (fun V => Hid (Below w.heap.size w V) ∧ V.cell? ⟨w1.heap.size, 1, none⟩ = some (.int .i64 x.2) ∧ w1.heap.size < V.heap.size) ⟨hide (b1.alloc z1 _), by simp [go_sem], by simp⟩ ?_
    rintro V ⟨BV, y1, zV⟩
    have IV := hide (HI.out.later BV.out)
    have d3 := IV.out.cell 3 _ rfl
    have d5 := IV.out.cell 5 _ rfl
    have f5 := IV.out.frz 5
    have lV := IV.out.lt
    clear c2 kn
    go_region
    all_goals
      go_wp2_with fail
      go_end0
      have s1 := (IV.out.set 5 (.int .i64 (max mark (x.2 - late))))
      have ne : ∀ u, Chg (· = b.ib) V (V.setCell ⟨b.ib, 5, none⟩ u) := fun u => Chg.set _ rfl
      refine ⟨rfl, ?_, ?_⟩
      · first | exact s1 | exact s1.later ((Below.refl _ _).drew) | exact s1.later (below_drewN (Below.refl _ _) _)
      · first | exact (Chg.of_below BV.out).trans (ne _) (fun _ _ q => q) | exact (Chg.of_below BV.out).trans ((ne _).drew) (fun _ _ q => q)
end Go.Proofs.Ytbnlhjooimppeaa
