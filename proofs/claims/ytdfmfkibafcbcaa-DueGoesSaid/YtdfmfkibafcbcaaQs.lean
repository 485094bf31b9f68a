/- due: Swap, Len. -/
import Derived.Test.YtdfmfkibafcbcaaQl
import Derived.BigRegion
namespace Go.Proofs.Ytdfmfkibafcbcaa
set_option linter.unusedVariables false
set_option linter.unusedSimpArgs false
open Go.RowKit W Go.Maps
set_option maxRecDepth 100000 in
theorem klen_spec {B : Nat} {w : World} {kb mb m : Nat} {v : Value} {l : List En} {M : ByteArray → Option Int} (h : KM B w kb mb v l m M) :
    CalcN 25 #[.pointer (some ⟨kb, 0, none⟩)] w (.int .i64 (l.length : Int)) := by
  obtain ⟨A, c, rfl, _, _⟩ := own_form h.row
  have c0 := h.k.cell 0 _ rfl
  clear h
  go_enter Try.func25, Try.ntmps25
  go_wp2_with fail
  go_returns
  exact ⟨rfl, rfl⟩
theorem zeroI (w : World) : (zeroValue 3).run Try.prog w = .ok (.int .i64 0) w := by kernel_rfl
/-- The four stores of a swap. -/
theorem KM.swapped {B : Nat} {w : World} {kb mb m g n c : Nat} {l : List En} {M : ByteArray → Option Int} (h : KM B w kb mb (.slice (some ⟨g, 0, none⟩) n c) l m M) (hn : n = l.length) {i j : Nat} (hi : i < l.length) (hj : j < l.length) {w' : World}
    (hw : w' = (((w.setCell ⟨g, i * 2, none⟩ (.string l[j].1)).setCell ⟨g, i * 2 + 1, none⟩ (.int .i64 l[j].2)).setCell ⟨g, j * 2, none⟩ (.string l[i].1)).setCell ⟨g, j * 2 + 1, none⟩ (.int .i64 l[i].2)) :
    KM B w' kb mb (.slice (some ⟨g, 0, none⟩) n c) (swapL l i j) m M ∧ Chg (· = g) w w' := by
  subst hn hw
  have r0 := h.row
  have r1 := row_put r0 (i * 2) (by omega) (.string l[j].1)
  have r2 := row_put r1 (i * 2 + 1) (by omega) (.int .i64 l[j].2)
  have r3 := row_put r2 (j * 2) (by omega) (.string l[i].1)
  have r4 := row_put r3 (j * 2 + 1) (by omega) (.int .i64 l[i].2)
  have e : ((((dues l).set (i * 2) (.string l[j].1)).set (i * 2 + 1) (.int .i64 l[j].2)).set (j * 2) (.string l[i].1)).set (j * 2 + 1) (.int .i64 l[i].2) = dues (swapL l i j) := by
    rw [swapL_eq hi hj, dues_set, dues_set]
  rw [e] at r4
  have C : Chg (· = g) w ((((w.setCell ⟨g, i * 2, none⟩ (.string l[j].1)).setCell ⟨g, i * 2 + 1, none⟩ (.int .i64 l[j].2)).setCell ⟨g, j * 2, none⟩ (.string l[i].1)).setCell ⟨g, j * 2 + 1, none⟩ (.int .i64 l[i].2)) :=
    (((Chg.set (S := (· = g)) _ rfl).trans (Chg.set (S := (· = g)) _ rfl) (fun _ _ q => q)).trans (Chg.set (S := (· = g)) _ rfl) (fun _ _ q => q)).trans (Chg.set (S := (· = g)) _ rfl) (fun _ _ q => q)
  have n1 : ¬ kb = g := fun q => h.nrk (by rw [← q]; rfl)
  have n2 : ¬ mb = g := fun q => h.nrm (by rw [← q]; rfl)
  refine ⟨⟨h.k.chg C n1, by rw [swapL_len]; exact r4, h.map.chg C n2, h.bk, h.bm, fun e he => h.sz e ((swapL_perm hi hj).subset he)⟩, C⟩
theorem KM.putM {B : Nat} {w w' : World} {kb mb m m' : Nat} {v : Value} {l : List En} {M M' : ByteArray → Option Int} (h : KM B w kb mb v l m M) (tz : w.mapTurned w' mb) (mz : MapG elI w' mb m' M') : KM B w' kb mb v l m' M' :=
  have C := mapTurned_chg tz
  ⟨h.k.chg C h.nkm, chg_row h.row C (fun k e q => h.nrm (by rw [← q]; exact e)), mz, h.bk, h.bm, h.sz⟩
theorem swapL_at {α : Type} {l : List α} {i j : Nat} (hi : i < l.length) (hj : j < l.length) : (swapL l i j)[i]'(by rw [swapL_len]; exact hi) = l[j] ∧ (swapL l i j)[j]'(by rw [swapL_len]; exact hj) = l[i] := by
  constructor
  · simp only [swapL_eq hi hj]
    by_cases q : j = i
    · subst q; simp
    · rw [List.getElem_set_ne q, List.getElem_set_self]
  · simp only [swapL_eq hi hj]
    rw [List.getElem_set_self]
theorem idxI_is {l : List En} (k : Keys l) {i : Nat} (hi : i < l.length) : idxI l l[i].1 = some (i : Int) := by
  show (idxK l l[i].1).map Int.ofNat = _
  rw [(idxK_some k).2 ⟨hi, rfl⟩]; rfl
theorem unMap : Try.prog.underlying 53 = some (.map 9 3) := Try.underlying53
set_option maxRecDepth 100000 in
set_option maxHeartbeats 8000000 in
theorem swap_spec {B : Nat} {w : World} {kb mb : Nat} {v : Value} {l : List En} (h : KQ B w kb mb v l) {i j : Nat} (hi : i < l.length) (hj : j < l.length) :
    Calls Try.prog 81 #[.pointer (some ⟨kb, 0, none⟩), .int .i64 (i : Int), .int .i64 (j : Int)] w fun e w' => e = .returned (.tuple #[]) ∧ KQ B w' kb mb v (swapL l i j) ∧ Chg (kS3 kb mb v) w w' := by
  obtain ⟨n, hn⟩ : ∃ n, n = l.length := ⟨_, rfl⟩
  obtain ⟨g, c, rfl, nc, gl, gB, fz⟩ := h.km.form n hn (by omega)
  obtain ⟨x0, x1⟩ := h.km.key hn hi
  obtain ⟨y0, y1⟩ := h.km.key hn hj
  have c0 := h.km.k.cell 0 _ rfl
  have c1 := h.km.k.cell 1 _ rfl
  have kl := h.km.k.lt
  have SW := hide (fun w' => @KM.swapped B w kb mb l.length g n c l _ h.km hn i j hi hj w')
  have nk : kb ≠ g := fun q => h.km.nrk (by rw [← q]; rfl)
  have H := hide h
  obtain ⟨a, ha⟩ : ∃ a, a = l[i] := ⟨_, rfl⟩
  obtain ⟨b, hb⟩ : ∃ b, b = l[j] := ⟨_, rfl⟩
  have HA := hide ha
  have HB := hide hb
  rw [← ha] at x0 x1 SW
  rw [← hb] at y0 y1 SW
  have hl := h.len
  rw [← hn] at hl
  have HN := hide hn
  have HI := hide hi
  have HJ := hide hj
  rw [← hn] at hi hj
  have F0 := fz (i * 2)
  have F1 := fz (i * 2 + 1)
  have F2 := fz (j * 2)
  have F3 := fz (j * 2 + 1)
  have fz1 := fz 0
  clear h ha hb hn fz
  by_cases ij : i = j
  · subst ij
    obtain rfl : b = a := by rw [HA.out, HB.out]
    go_enter Try.func81, Try.ntmps81
    go_wp2_with fail
    go_region
    go_wp2_with fail
    refine abs_wp (fun W1 => Hid (KM B W1 kb mb (.slice (some ⟨g, 0, none⟩) n c) (swapL l i i) l.length (idxI l)) ∧ Hid (Chg (· = g) w W1)) ?_ ?_
    · exact ⟨hide ((SW.out _ rfl).1.later ((Below.refl _ _).drew)), hide ((SW.out _ rfl).2.drew)⟩
    rintro W1 ⟨H1, C1⟩
    have c0 := H1.out.k.cell 0 _ rfl
    have c1 := H1.out.k.cell 1 _ rfl
    have hn' : n = (swapL l i i).length := by rw [swapL_len]; exact HN.out
    have x0 := (H1.out.key hn' (i := i) (by omega)).1
    have y0 := (H1.out.key hn' (i := i) (by omega)).1
    rw [(swapL_at HI.out HJ.out).1, ← HB.out] at x0
    rw [(swapL_at HI.out HJ.out).2, ← HA.out] at y0
    have hm := hide hn'
    have K1 := H1.out.later (w' := W1.drew) ((Below.refl _ _).drew)
    have ki : (idxI l b.1).isSome = true := by rw [HB.out, idxI_is H.out.keys HJ.out]; rfl
    have kj : (updM (idxI l) b.1 (some (i : Int)) b.1).isSome = true := by
      unfold updM
      by_cases q : b.1 = b.1
      · rw [if_pos q]; rfl
      · rw [if_neg q, HA.out, idxI_is H.out.keys HI.out]; rfl
    have lm : l.length < maxLen := by have := HN.out; unfold maxLen; omega
    have sb : b.1.size ≤ maxLen := by rw [HB.out]; exact H.out.km.sz _ (List.getElem_mem HJ.out)
    have sa : b.1.size ≤ maxLen := by rw [HA.out]; exact H.out.km.sz _ (List.getElem_mem HI.out)
    obtain ⟨w2, hz, mz, tz⟩ := K1.map.put unMap lm b.1 sb (i : Int)
    rw [if_pos ki] at mz
    have K2 := hide (K1.putM tz mz)
    have C2 := hide (mapTurned_chg tz)
    rw [elI_enc] at hz
    have MZ := hide mz
    have KJ := hide kj
    clear hn' K1 tz mz ki kj x1 y1 F0 F1 F2 F3 SW fz1
    go_wp2_with fail
    go_region
    go_wp2_with fail
    clear hz
    have c0 := K2.out.k.cell 0 _ rfl
    have c1 := K2.out.k.cell 1 _ rfl
    have y0 := (K2.out.key hm.out (i := i) (by have := hm.out; omega)).1
    rw [(swapL_at HI.out HJ.out).2, ← HA.out] at y0
    have K3 := K2.out.later (w' := w2.drew) ((Below.refl _ _).drew)
    obtain ⟨w4, hz, mz, tz⟩ := K3.map.put unMap lm b.1 sa (i : Int)
    rw [if_pos KJ.out] at mz
    have K4 := hide (K3.putM tz mz)
    have C4 := hide (mapTurned_chg tz)
    rw [elI_enc] at hz
    clear K3 tz mz
    go_region
    go_end0
    refine ⟨rfl, ⟨?_, H.out.keys.perm (swapL_perm HI.out HJ.out).symm, by rw [swapL_len]; exact H.out.len⟩, ?_⟩
    · have q := K4.out
      rw [HA.out, idx_swap H.out.keys HI.out HJ.out] at q
      rw [swapL_len]
      exact q
    · exact ((C1.out.mono (fun k (e : k = g) => .inr (.inr (by rw [e]; rfl)))).trans ((Chg.refl (kS3 kb mb (.slice (some ⟨g, 0, none⟩) n c)) W1).drew.trans ((C2.out.mono (fun k (e : k = mb) => .inr (.inl e))).trans ((Chg.refl (kS3 kb mb (.slice (some ⟨g, 0, none⟩) n c)) w2).drew.trans (C4.out.mono (fun k (e : k = mb) => .inr (.inl e))) (fun _ _ q => q)) (fun _ _ q => q)) (fun _ _ q => q)) (fun _ _ q => q))

  have n1 : ¬ i * 2 = j * 2 := by omega
  have n2 : ¬ j * 2 = i * 2 := by omega
  have n3 : ¬ i * 2 + 1 = j * 2 := by omega
  have n4 : ¬ j * 2 + 1 = i * 2 := by omega
  have n5 : ¬ i * 2 = j * 2 + 1 := by omega
  have n6 : ¬ j * 2 = i * 2 + 1 := by omega
  go_enter Try.func81, Try.ntmps81
  go_wp2_with fail
  go_region
  go_wp2_with fail
  clear n1 n2 n3 n4 n5 n6
  refine abs_wp (fun W1 => Hid (KM B W1 kb mb (.slice (some ⟨g, 0, none⟩) n c) (swapL l i j) l.length (idxI l)) ∧ Hid (Chg (· = g) w W1)) ?_ ?_
  · exact ⟨hide ((SW.out _ rfl).1.later ((Below.refl _ _).drew)), hide ((SW.out _ rfl).2.drew)⟩
  rintro W1 ⟨H1, C1⟩
  have c0 := H1.out.k.cell 0 _ rfl
  have c1 := H1.out.k.cell 1 _ rfl
  have hn' : n = (swapL l i j).length := by rw [swapL_len]; exact HN.out
  have x0 := (H1.out.key hn' (i := i) (by omega)).1
  have y0 := (H1.out.key hn' (i := j) (by omega)).1
  rw [(swapL_at HI.out HJ.out).1, ← HB.out] at x0
  rw [(swapL_at HI.out HJ.out).2, ← HA.out] at y0
  have hm := hide hn'
  have K1 := H1.out.later (w' := W1.drew) ((Below.refl _ _).drew)
  have ki : (idxI l b.1).isSome = true := by rw [HB.out, idxI_is H.out.keys HJ.out]; rfl
  have kj : (updM (idxI l) b.1 (some (i : Int)) a.1).isSome = true := by
    unfold updM
    by_cases q : a.1 = b.1
    · rw [if_pos q]; rfl
    · rw [if_neg q, HA.out, idxI_is H.out.keys HI.out]; rfl
  have lm : l.length < maxLen := by have := HN.out; unfold maxLen; omega
  have sb : b.1.size ≤ maxLen := by rw [HB.out]; exact H.out.km.sz _ (List.getElem_mem HJ.out)
  have sa : a.1.size ≤ maxLen := by rw [HA.out]; exact H.out.km.sz _ (List.getElem_mem HI.out)
  obtain ⟨w2, hz, mz, tz⟩ := K1.map.put unMap lm b.1 sb (i : Int)
  rw [if_pos ki] at mz
  have K2 := hide (K1.putM tz mz)
  have C2 := hide (mapTurned_chg tz)
  rw [elI_enc] at hz
  have MZ := hide mz
  have KJ := hide kj
  clear hn' K1 tz mz ki kj x1 y1 F0 F1 F2 F3 SW fz1
  go_wp2_with fail
  go_region
  go_wp2_with fail
  clear hz
  have c0 := K2.out.k.cell 0 _ rfl
  have c1 := K2.out.k.cell 1 _ rfl
  have y0 := (K2.out.key hm.out (i := j) (by have := hm.out; omega)).1
  rw [(swapL_at HI.out HJ.out).2, ← HA.out] at y0
  have K3 := K2.out.later (w' := w2.drew) ((Below.refl _ _).drew)
  obtain ⟨w4, hz, mz, tz⟩ := K3.map.put unMap lm a.1 sa (j : Int)
  rw [if_pos KJ.out] at mz
  have K4 := hide (K3.putM tz mz)
  have C4 := hide (mapTurned_chg tz)
  rw [elI_enc] at hz
  clear K3 tz mz
  go_region
  go_end0
  refine ⟨rfl, ⟨?_, H.out.keys.perm (swapL_perm HI.out HJ.out).symm, by rw [swapL_len]; exact H.out.len⟩, ?_⟩
  · have q := K4.out
    rw [HA.out, HB.out, idx_swap H.out.keys HI.out HJ.out] at q
    rw [swapL_len]
    exact q
  · exact ((C1.out.mono (fun k (e : k = g) => .inr (.inr (by rw [e]; rfl)))).trans ((Chg.refl (kS3 kb mb (.slice (some ⟨g, 0, none⟩) n c)) W1).drew.trans ((C2.out.mono (fun k (e : k = mb) => .inr (.inl e))).trans ((Chg.refl (kS3 kb mb (.slice (some ⟨g, 0, none⟩) n c)) w2).drew.trans (C4.out.mono (fun k (e : k = mb) => .inr (.inl e))) (fun _ _ q => q)) (fun _ _ q => q)) (fun _ _ q => q)) (fun _ _ q => q))
end Go.Proofs.Ytdfmfkibafcbcaa
