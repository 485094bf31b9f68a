/- due: Push and Pop of the heap's list. -/
import Derived.Test.YtdfmfkibafcbcaaQs
import Derived.Deep.AppendLies
namespace Go.Proofs.Ytdfmfkibafcbcaa
set_option linter.unusedVariables false
set_option linter.unusedSimpArgs false
open Go.RowKit W Go.Maps
theorem cells_new' (W : World) (l : List Value) (t : TypeId) (n : Nat) (hn : W.heap.size = n) : ∀ j u, l[j]? = some u → (W.alloc (.cells l.toArray t)).cell? (Addr.add ⟨n, 0, none⟩ j) = some u := by
  intro j u h
  subst hn
  rw [Go.WideShapes.add_plain, Nat.zero_add, cell_of_row _ W.heap.size j l.toArray t (0, 0) (heap_alloc_new _ _)]
  simpa using h
theorem info_due : (Try.prog.info? 43).map (fun i => (i.zero, i.size, i.bytes)) = some (some (.agg #[.string ByteArray.empty, .int .i64 0]), 2, 24) := by kernel_rfl
theorem due_one (k : ByteArray) (a : Int) : ∀ u ∈ [Value.string k, .int .i64 a], u.oneCell' = true := by
  intro u hu
  simp only [List.mem_cons, List.not_mem_nil, or_false] at hu
  rcases hu with rfl | rfl <;> rfl
theorem Chg.grown2 {S : Nat → Prop} {w x w' : World} {o : Obj} {row : Option Nat} (hg : x.grownBy w' row) (hx : x.heap = w.heap.push o) (ho : x.os = w.os) (ht : x.tape = w.tape) (hu : x.output = w.output) (f : ∀ k, row = some k → S k) : Chg S w w' :=
  ⟨hg.os.trans ho, hg.tape.trans ht, hg.output.trans hu, Nat.le_trans (by rw [hx]; simp) hg.size, fun k hk e => (hg.block k (by rw [hx]; simp; omega) (fun q => e (f k q.symm))).trans (by rw [hx, Array.getElem?_push, if_neg (Nat.ne_of_lt hk)])⟩
theorem assert_due (x : En) (w : World) : (Instr.typeAssert (.iface 43 (enV x)) 20 43 true).run Try.prog w = .ok (.tuple #[enV x, .bool true]) w := by
  unfold Instr.typeAssert
  simp only [Sem.run_bind, run_underlying Try.underlying43, Result.andThen]
  rfl
theorem pushed {B : Nat} {w w2 w9 : World} {kb mb b9 cap9 n : Nat} {v : Value} {l : List En} {x : En} (keys : Keys l) (hx : hasK l x.1 = false) (hs : x.1.size ≤ maxLen) (hn : n = l.length) (hl : n < 65536) (lt : w.heap.size ≤ w2.heap.size)
    (K2 : KM B w2 kb mb v l (l.length + 1) (updM (idxI l) x.1 (some (n : Int)))) (K9 : Bw w9 kb 55 #[v, .map (some mb)]) (C9 : Chg (fun k => v.ownBlock = some k) w2 w9)
    (O9 : w9.ownsRow B 43 2 (.slice (some ⟨b9, 0, none⟩) (n + 1) cap9) (n + 1) (dues l ++ [.string x.1, .int .i64 x.2])) (A9 : v.ownBlock = some b9 ∨ b9 = w2.heap.size + 1) :
    KQ B (w9.setCell ⟨kb, 0, none⟩ (.slice (some ⟨b9, 0, none⟩) (n + 1) cap9)) kb mb (.slice (some ⟨b9, 0, none⟩) (n + 1) cap9) (l ++ [x]) ∧ Chg (kS3 kb mb v) w2 (w9.setCell ⟨kb, 0, none⟩ (.slice (some ⟨b9, 0, none⟩) (n + 1) cap9)) ∧
      ∀ k, (Value.slice (some ⟨b9, 0, none⟩) (n + 1) cap9).ownBlock = some k → v.ownBlock = some k ∨ w.heap.size ≤ k := by
  subst hn
  have C10 : Chg (· = kb) w9 (w9.setCell ⟨kb, 0, none⟩ (.slice (some ⟨b9, 0, none⟩) (l.length + 1) cap9)) := Chg.set _ rfl
  have bk : b9 ≠ kb := by
    rintro rfl
    rcases A9 with q | q
    · exact K2.nrk q
    · have := K2.k.lt; omega
  have C11 : Chg (kS3 kb mb v) w2 (w9.setCell ⟨kb, 0, none⟩ (.slice (some ⟨b9, 0, none⟩) (l.length + 1) cap9)) :=
    (C9.mono (fun k e => .inr (.inr e))).trans (C10.mono (S' := kS3 kb mb v) (fun k e => .inl e)) (fun _ _ q => q)
  refine ⟨⟨⟨K9.set 0 _, ?_, ?_, K2.bk, K2.bm, ?_⟩, keys.push x hx, by simp; omega⟩, C11, fun k e => ?_⟩
  · rw [dues_app, List.length_append]
    refine chg_row O9 C10 (fun k e q => bk ?_)
    rw [q] at e
    simpa [Value.ownBlock] using e
  · rw [List.length_append, ← idx_push x hx keys]
    exact (K2.map.chg C9 K2.nrm).chg C10 (fun q => K2.nkm q.symm)
  · intro e he
    rcases List.mem_append.1 he with q | q
    · exact K2.sz e q
    · rw [List.mem_singleton] at q; subst q; exact hs
  · have e : b9 = k := by simpa [Value.ownBlock] using e
    subst e
    rcases A9 with q | q
    · exact .inl q
    · right; omega
set_option maxRecDepth 100000 in
set_option maxHeartbeats 8000000 in
theorem push_spec {B : Nat} {w : World} {kb mb : Nat} {v : Value} {l : List En} (h : KQ B w kb mb v l) (x : En) (hx : hasK l x.1 = false) (hs : x.1.size ≤ maxLen) (hl : l.length < 65536) (hB : B ≤ w.heap.size) :
    Calls Try.prog 80 #[.pointer (some ⟨kb, 0, none⟩), .iface 43 (enV x)] w fun e w' => e = .returned (.tuple #[]) ∧ ∃ v', KQ B w' kb mb v' (l ++ [x]) ∧ Chg (kS3 kb mb v) w w' ∧ ∀ k, v'.ownBlock = some k → v.ownBlock = some k ∨ w.heap.size ≤ k := by
  obtain ⟨i0, hi0⟩ : ∃ i0, Hid (Try.prog.info? 43 = some i0 ∧ i0.zero = some (.agg #[.string ByteArray.empty, .int .i64 0]) ∧ i0.size = 2 ∧ i0.bytes = 24) := by
    obtain ⟨i0, h1, h2, h3, h4⟩ := info_parts info_due
    exact ⟨i0, h1, h2, h3, h4⟩
  obtain ⟨A, c, rfl, nc, _⟩ := own_form h.km.row
  obtain ⟨n, hn⟩ : ∃ n, n = l.length := ⟨_, rfl⟩
  have HN := hide hn
  have H := hide h
  have HX := hide hx
  have kl := h.km.k.lt
  have ta := assert_due x
  rw [← hn] at hl nc ⊢
  go_enter Try.func80, Try.ntmps80
  go_wp2_with fail
  refine abs_wp (fun W1 => Hid (KQ B W1 kb mb (.slice A n c) l) ∧ Hid (Below w.heap.size w W1) ∧ W1.cell? ⟨w.heap.size, 0, none⟩ = some (.string x.1) ∧ W1.cell? ⟨w.heap.size, 1, none⟩ = some (.int .i64 x.2) ∧ W1.heap.size = w.heap.size + 1) ?_ ?_
  · have q : KQ B w kb mb (.slice A n c) l := by rw [HN.out]; exact H.out
    exact ⟨hide (q.later (by go_grown)), hide (by go_grown), by simp [go_sem], by simp [go_sem], by simp⟩
  rintro W1 ⟨H1, B1, x0, x1, z1⟩
  clear ta
  have c0 := H1.out.km.k.cell 0 _ rfl
  have c1 := H1.out.km.k.cell 1 _ rfl
  have M1 : MapG elI W1.drew mb l.length (idxI l) := H1.out.km.map.chg (S := fun _ => False) ((Chg.refl _ _).drew) (fun q => q)
  have hk : (idxI l x.1).isSome = false := by
    show ((idxK l x.1).map Int.ofNat).isSome = false
    rw [Option.isSome_map, idxK_has, HX.out]
  obtain ⟨w2, hz, mz, tz⟩ := M1.put unMap (by unfold maxLen; omega) x.1 hs (n : Int)
  rw [hk, if_neg (by decide)] at mz
  rw [elI_enc] at hz
  have K2 := hide ((H1.out.km.later (w' := W1.drew) ((Below.refl _ _).drew)).putM tz mz)
  have C2 := hide (mapTurned_chg tz)
  have nm : w.heap.size ≠ mb := by have := h.km.map.lt; omega
  have y0 : w2.cell? ⟨w.heap.size, 0, none⟩ = some (.string x.1) := (C2.out.cell (by simp; omega) nm).trans x0
  have y1 : w2.cell? ⟨w.heap.size, 1, none⟩ = some (.int .i64 x.2) := (C2.out.cell (by simp; omega) nm).trans x1
  have z2 : w.heap.size + 1 ≤ w2.heap.size := by have := C2.out.size; simp at this; omega
  clear M1 mz tz hk hx h hn
  go_region
  go_wp2_with fail
  have d0 := K2.out.k.cell 0 _ rfl
  have d1 := K2.out.k.cell 1 _ rfl
  have f0 := K2.out.k.frz 0
  have kl2 := K2.out.k.lt
  have OW : Hid (w2.ownsRow B 43 2 (.slice A n c) n (dues l)) := by have := K2.out.row; rw [← HN.out] at this; exact this
  have hB2 : B ≤ w2.heap.size := by omega
  have NK : Hid (∀ k, Value.ownBlock (.slice A n c) = some k → k ≠ kb) := hide (fun k e q => K2.out.nrk (by rw [← q]; exact e))
  have KB2 := hide K2.out.k
  go_region_law ((refine step_append_lies _ (by rfl) _ _ 27 (by rfl) B 43 i0 _ 2 24 Try.underlying27 hi0.out.1 hi0.out.2.1 hi0.out.2.2.1 hi0.out.2.2.2 rfl (by decide) (.slice A n c) n (dues l) (by rfl) (OW.out.alloc _) ⟨w2.heap.size, 0, none⟩ 1 1 [.string x.1, .int .i64 x.2] (by rfl) rfl (cells_new' _ _ _ _ (by simp)) (due_one _ _) (by decide) (by unfold maxLen; omega) (by omega) (by simp; omega) (w2.heap.size + 1) (by simp) ?_; intro b9 cap9 w9 hown9 hgrow9 hat9 hlt9; have C9 : Hid (Chg (fun k => Value.ownBlock (.slice A n c) = some k) w2 w9) := hide (Chg.grown2 (w := w2) hgrow9 rfl rfl rfl rfl (fun _ e => e)); have K9 := hide (KB2.out.chg C9.out (fun e => NK.out _ e rfl)); have e0 := K9.out.cell 0 _ rfl; have g0 := K9.out.frz 0; have O9 := hide hown9; have A9 := hide hat9; have L9 := hide hlt9; clear hown9 hgrow9 hat9 hlt9))
  all_goals
    go_wp2_with fail
    go_end0
    obtain ⟨r1, r2, r3⟩ := pushed (w := w) H.out.keys HX.out hs HN.out hl (by omega) K2.out K9.out C9.out O9.out A9.out
    exact ⟨rfl, _, r1, (Chg.of_below B1.out).trans ((Chg.refl _ W1).drew.trans ((C2.out.mono (fun k (e : k = mb) => .inr (.inl e))).trans r2 (fun _ _ q => q)) (fun _ _ q => q)) (fun _ _ q => q), r3⟩
end Go.Proofs.Ytdfmfkibafcbcaa
