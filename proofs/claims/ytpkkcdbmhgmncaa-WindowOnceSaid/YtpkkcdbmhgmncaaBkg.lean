/- The reference's Book: Put of a new window. -/
import Derived.Test.YtpkkcdbmhgmncaaBkf
namespace Go.Proofs.Ytpkkcdbmhgmncaa
set_option linter.unusedVariables false
set_option linter.unusedSimpArgs false
open Go.RowKit W T9 Go.Maps
theorem RBook.stored {X : List Nat} {w w2 : World} {rb : Nat} {d c : Int} {S S' : List Int} {v : Value} (h : RBook X w rb d c S) (k : Below w.heap.size w w2) (o : OwnR w.heap.size w2 v S') : RBook X (w2.setCell ⟨rb, 1, none⟩ v) rb d c S' ∧ Mod [rb] w (w2.setCell ⟨rb, 1, none⟩ v) := by
  have g := h.later k
  obtain ⟨a, cap, e, _⟩ := g.c1
  have lr := h.lt rb h.mem
  have c0 := g.c0
  have c2 := g.c2
  have f1 := g.f1
  have f2 := g.f2
  obtain ⟨a', cap', rfl, z1, z2, i, z3, m⟩ := o.is
  have ng : ∀ ad, a' = some ad → ad.block ≠ rb := fun ad e => by have := m ad e; omega
  refine ⟨⟨by simp [go_sem, c0], ⟨a', cap', by simp [go_sem, e], ?_, z3, z1, z2, fun ad ea => ⟨fun q => by have := h.lt _ q; have := m ad ea; omega, ?_⟩⟩, by simp [go_sem, c2], by simp [go_sem, f1], by simp [go_sem, f2], fun x hx => by have := g.lt x hx; simpa using this, h.mem⟩, ?_⟩
  · exact i.mod ((Mod.refl [rb] w2).setCell (p := ⟨rb, 1, none⟩) (by simp) _) (fun ad ea => by simpa using ng ad ea)
  · have := o.lt (k := ad.block) (by rw [ea]; rfl)
    have := (World.ownsRow.lt o ad.block (by rw [ea]; rfl)).2
    simpa using this
  · exact (Mod.of_below k).trans ((Mod.refl [rb] w2).setCell (p := ⟨rb, 1, none⟩) (by simp) _)
def PutRel (w : World) (n : Nat) (q : Int) (S : List Int) (v : Value) (wr : World) (k : Nat) (dn : Bool) (L : List Int) : Prop :=
  OwnR w.heap.size wr v L ∧ Below w.heap.size w wr ∧ (dn = true → L ++ S.drop k = insS q S) ∧ (dn = false → L ++ insS q (S.drop k) = insS q S) ∧ L.length ≤ 2 * k
set_option maxRecDepth 100000 in
set_option maxHeartbeats 4000000 in
theorem rput_new {X : List Nat} {w : World} {rb : Nat} {d c : Int} {S : List Int} (h : RBook X w rb d c S) (hs : S.length < 4096) (t q : Int) (j : IsHi t) (h1 : 1 ≤ d) (h2 : d ≤ 1048576) (hq : q = t / d) (hc : c < q) (n : q ∉ S) :
    Calls Try.prog 15 #[.pointer (some ⟨rb, 0, none⟩), .int .i64 t] w (RPutPost X w rb d c (insS q S) q) := by
  have kf := rof_ok t d q j h1 h2 hq
  have kh := has_spec6 h (by omega) q
  rw [decide_eq_false n] at kh
  have c0 := h.c0
  have HB := hide h
  obtain ⟨a, cap, c1, i, n0, z1, z2, m⟩ := h.c1
  have IA := hide i
  have c2 := h.c2
  have nc : ¬ q ≤ c := by omega
  have lr := h.lt rb h.mem
  have MA := hide m
  have F1 := hide h.f1
  obtain ⟨n, hn⟩ : ∃ n, n = S.length := ⟨_, rfl⟩
  have C1 := hide c1
  rw [← hn] at c1 hs z1
  have NN := hide hn
  clear h j h1 h2 hq hc i n0 m hn
  go_enter Try.func15, Try.ntmps15
  go_wp2_with fail
  refine (kf _).mono ?_
  rintro e w' ⟨rfl, rfl⟩
  go_wp2_with fail
  refine kh.mono ?_
  rintro e w' ⟨rfl, rfl⟩
  clear kf kh
  go_wp2_with fail
  clear c0 c2 nc
  go_loopw [9, 10, 11] (fun v b i wr => ∃ (k : Nat) (dn : Bool) (L : List Int), k ≤ n ∧ b = .bool dn ∧ i = .int .i64 k ∧ Hid (PutRel w n q S v wr k dn L)) (fun _ _ i _ => n - (intOf i).toNat)
  case atStart => exact ⟨0, false, [], by omega, rfl, rfl, ⟨OwnR.nil _ _, Below.refl _ _, fun e => (by cases e), fun _ => rfl, by simp⟩⟩
  case round =>
    obtain ⟨k, dn, L, hk, rfl, rfl, PR⟩ := hrel
    have d1 := (PR.out.2.1.cell (p := ⟨rb, 1, none⟩) lr).trans c1
    by_cases hlt : k < n
    · have k1 : k < S.length := by have := NN.out; omega
      have hne : S ≠ [] := fun e => by rw [e] at k1; simp at k1
      obtain ⟨g, o, rfl, la⟩ := IA.out.resolve_left hne
      have LG := hide (MA.out _ rfl).2
      have e1 := (PR.out.2.1.cell (p := ⟨g, o + k, none⟩) LG.out).trans (la.cell k k1)
      have LA := hide la
      obtain ⟨x, hx⟩ : ∃ x, x = S[k] := ⟨_, rfl⟩
      rw [← hx] at e1
      have DC : Hid (S.drop k = x :: S.drop (k + 1)) := by rw [hx]; exact drop_cons k1
      have hlt' : (k : Int) < (n : Int) := by omega
      have EX := hide ((la.cell k k1).trans (by rw [← hx]))
      have bl : (L.length + 2) * 8 ≤ 140737488355328 := by have := PR.out.2.2.2.2; omega
      have HW := hide PR.out.2.1.size
      have HWs : w.heap.size ≤ wr.heap.size := PR.out.2.1.size
      clear hx k1 hne la
      cases dn with
      | true =>
        go_wp2_with (at_builtin; refine wpList_append_r rfl _ _ rfl w.heap.size u9 L rfl (PR.out.1.later ((Below.refl _ _).alloc (Nat.le_refl _) _)) wr.heap.size x rfl (by simp [go_sem]) (by simp; omega) (by omega) ?_; intro v2 w2 O2 g2; have OX := hide O2; have BX := hide ((PR.out.2.1.alloc PR.out.2.1.size (.cells #[.int .i64 x] 2)).grown g2 (by have := PR.out.2.1.size; simp; omega) (fun k hk => by have := (PR.out.1.lt hk); omega)); clear O2 g2)
        go_roundw
        case rel => exact ⟨k + 1, true, L ++ [x], by omega, rfl, by go_num, ⟨OX.out, BX.out, fun _ => by rw [List.append_assoc, List.singleton_append, ← DC.out]; exact PR.out.2.2.1 rfl, fun e => (by cases e), by have := PR.out.2.2.2.2; simp; omega⟩⟩
        case measure => simp [intOf]; omega
      | false =>
        by_cases lq : q < x
        · go_wp2_with (first
            | (at_builtin; refine wpList_append_r rfl _ _ rfl w.heap.size u9 L rfl (PR.out.1.later ((Below.refl _ _).alloc (Nat.le_refl _) _)) wr.heap.size q rfl (by simp [go_sem]) (by simp; omega) (by omega) ?_; intro v2 w2 O2 g2; have OX := hide O2; have BX := hide ((PR.out.2.1.alloc PR.out.2.1.size (.cells #[.int .i64 q] 2)).grown g2 (by have := PR.out.2.1.size; simp; omega) (fun k hk => by have := (PR.out.1.lt hk); omega)); clear O2 g2; have S2 : w.heap.size ≤ w2.heap.size := BX.out.size; have d2 := (BX.out.cell (p := ⟨rb, 1, none⟩) lr).trans c1; have e2 := (BX.out.cell (p := ⟨g, o + k, none⟩) LG.out).trans EX.out)
            | (at_builtin; refine wpList_append_r rfl _ _ rfl w.heap.size v2 (L ++ [q]) rfl (OX.out.later ((Below.refl _ _).alloc (Nat.le_refl _) _)) w2.heap.size x rfl (by simp [go_sem]) (by simp; omega) (by simp; omega) ?_; intro v3 w3 O3 g3; have OY := hide O3; have BY := hide ((BX.out.alloc BX.out.size (.cells #[.int .i64 x] 2)).grown g3 (by have := BX.out.size; simp; omega) (fun k hk => by have := (OX.out.lt hk); omega)); clear O3 g3)
            | go_in)
          go_roundw
          case rel => exact ⟨k + 1, true, L ++ [q] ++ [x], by omega, rfl, by go_num, ⟨OY.out, BY.out, fun _ => by rw [← PR.out.2.2.2.1 rfl, DC.out, insS_lt lq]; simp, fun e => (by cases e), by have := PR.out.2.2.2.2; simp; omega⟩⟩
          case measure => simp [intOf]; omega
        · go_wp2_with ((at_builtin; refine wpList_append_r rfl _ _ rfl w.heap.size u9 L rfl (PR.out.1.later ((Below.refl _ _).alloc (Nat.le_refl _) _)) wr.heap.size x rfl (by simp [go_sem]) (by simp; omega) (by omega) ?_; intro v2 w2 O2 g2; have OX := hide O2; have BX := hide ((PR.out.2.1.alloc PR.out.2.1.size (.cells #[.int .i64 x] 2)).grown g2 (by have := PR.out.2.1.size; simp; omega) (fun k hk => by have := (PR.out.1.lt hk); omega)); clear O2 g2))
          go_roundw
          case rel => exact ⟨k + 1, false, L ++ [x], by omega, rfl, by go_num, ⟨OX.out, BX.out, fun e => (by cases e), fun _ => by rw [← PR.out.2.2.2.1 rfl, DC.out, insS_le lq]; simp, by have := PR.out.2.2.2.2; simp; omega⟩⟩
          case measure => simp [intOf]; omega
    · obtain rfl : k = n := by omega
      have DC : Hid (S.drop k = []) := by show S.drop k = []; rw [NN.out]; exact List.drop_length
      have f1 : wr.frozen? ⟨rb, 1, none⟩ = false := (PR.out.2.1.frozen (p := ⟨rb, 1, none⟩) lr).trans F1.out
      have bl : (L.length + 2) * 8 ≤ 140737488355328 := by have := PR.out.2.2.2.2; omega
      have HWs : w.heap.size ≤ wr.heap.size := PR.out.2.1.size
      cases dn with
      | true =>
        have E := PR.out.2.2.1 rfl
        rw [DC.out, List.append_nil] at E
        subst E
        have FIN := hide (HB.out.stored PR.out.2.1 PR.out.1)
        obtain ⟨a2, cp2, ev, _⟩ := PR.out.1.is
        subst ev
        go_wp2_with fail
        go_returns
        exact ⟨rfl, FIN.out.1, FIN.out.2⟩
      | false =>
        have E := PR.out.2.2.2.1 rfl
        rw [DC.out] at E
        have E2 := hide E
        clear E
        go_wp2_with (at_builtin; refine wpList_append_r rfl _ _ rfl w.heap.size u9 L rfl (PR.out.1.later ((Below.refl _ _).alloc (Nat.le_refl _) _)) wr.heap.size q rfl (by simp [go_sem]) (by simp; omega) (by omega) ?_; intro v2 w2 O2 g2; have OX := hide O2; have BX := hide ((PR.out.2.1.alloc PR.out.2.1.size (.cells #[.int .i64 q] 2)).grown g2 (by have := PR.out.2.1.size; simp; omega) (fun k hk => by have := (PR.out.1.lt hk); omega)); clear O2 g2; have S2 : w.heap.size ≤ w2.heap.size := BX.out.size; have d2 := (BX.out.cell (p := ⟨rb, 1, none⟩) lr).trans c1; have f2 : w2.frozen? ⟨rb, 1, none⟩ = false := (BX.out.frozen (p := ⟨rb, 1, none⟩) lr).trans F1.out; obtain ⟨a2, cp2, ev, _⟩ := OX.out.is; subst ev)
        go_returns
        have FIN := HB.out.stored BX.out OX.out
        have e3 : L.length + 1 = (insS q S).length := by rw [← (show L ++ [q] = insS q S from E2.out)]; simp
        rw [show L ++ [q] = insS q S from E2.out] at FIN
        rw [← e3] at FIN
        exact ⟨rfl, FIN.1, FIN.2⟩
end Go.Proofs.Ytpkkcdbmhgmncaa
