/- WindowOnce. -/
import Derived.Test.YtpkkcdbmhgmncaaBko
import Derived.Test.YtpkkcdbmhgmncaaLawbp
namespace Go.Proofs.Ytpkkcdbmhgmncaa
set_option linter.unusedVariables false
set_option linter.unusedSimpArgs false
open Go.RowKit W T9 Go.Maps
/-- The book has been put to, the list has not yet. -/
structure OnQ (B : Nat) (w0 w : World) (bb mb : Nat) (d c : Int) (S P T : List Int) (u v : Value) (k : Nat) : Prop where
  bk : BookAt w bb mb d c S
  pu : OwnR B w u P
  tv : OwnR B w v T
  ap : Apt u v
  lk : P.length ≤ k
  below : Below w0.heap.size w0 w
  lb : w0.heap.size ≤ bb ∧ w0.heap.size ≤ mb ∧ bb < B ∧ mb < B ∧ w0.heap.size ≤ B
  le : B ≤ w.heap.size
theorem OnQ.mk' {B : Nat} {w0 w w' : World} {bb mb : Nat} {d c c' : Int} {S S' P T : List Int} {u v : Value} {k : Nat} (h : OnR B w0 w bb mb d c S P T u v k) (m : Mod [bb, mb] w w') (k1 : BookAt w' bb mb d c' S') : OnQ B w0 w' bb mb d c' S' P T u v k := by
  have l := h.lb
  refine ⟨k1, h.pu.mod m h.small, h.tv.mod m h.small, h.ap, h.lk, h.below.trans (m.below h.below.size ?_), l, Nat.le_trans h.le m.size⟩
  intro x hx; simp at hx; omega
theorem OnQ.more {B : Nat} {w0 w : World} {bb mb : Nat} {d c : Int} {P T : List Int} {u v : Value} {k : Nat} {x : Int} {S' : List Int} {o : Obj} {u' : Value} {w' : World} (h : OnQ B w0 w bb mb d c S' P T u v k) (n : Onc c S' (P ++ [x]) T) (h1 : OwnR B w' u' (P ++ [x])) (h2 : (w.alloc o).grownBy w' u.ownBlock) (h3 : u'.ownBlock = u.ownBlock ∨ u'.ownBlock = some (w.alloc o).heap.size) : OnR B w0 w' bb mb d c S' (P ++ [x]) T u' v (k + 1) := by
  have tv := h.tv.later ((Below.refl _ _).alloc (Nat.le_refl _) o)
  have l := h.lb
  have z := h.le
  refine ⟨?_, n, h1, tv.kept2 h2 h.ap, h.ap.moved tv h3, by have := h.lk; simp; omega, (h.below.alloc h.below.size o).grown h2 (by have := h.below.size; simp; omega) (fun k hk => by have := h.pu.lt hk; omega), l, ?_⟩
  · have b := h.bk.later ((Below.refl _ _).alloc (Nat.le_refl _) o)
    cases hu : u.ownBlock with
    | none => exact b.mod (l := []) ((Mod.refl [] _).grown h2 (fun k hk => by rw [hu] at hk; cases hk)) (by simp) (by simp)
    | some r =>
      have := h.pu.lt hu
      exact b.mod (l := [r]) ((Mod.refl [r] _).grown h2 (fun k hk => .inl (by rw [hu] at hk; injection hk with hk; simp [hk]))) (by simp; omega) (by simp; omega)
  · have := h2.size; simp at this; omega
theorem OnR.fin {B : Nat} {w0 w w' : World} {bb mb : Nat} {d c : Int} {S P T : List Int} {u v : Value} {k : Nat} (h : OnR B w0 w bb mb d c S P T u v k) (b : Below w.heap.size w w') : OnR B w0 w' bb mb d c S P T u v k :=
  h.call (Mod.of_below (l := [bb, mb]) b) (h.bk.later b) h.on
set_option maxRecDepth 100000 in
set_option maxHeartbeats 4000000 in
theorem once_bad (d : Int) (l : Value) (h1 : d < 1 ∨ 1048576 < d) (w : World) :
    Calls Try.prog 4 #[.int .i64 d, l] w fun e w' => e = .returned (.bool true) ∧ Below w.heap.size w w' := by
  have k1 := new_bad d h1
  go_enter Try.func4, Try.ntmps4
  rcases h1 with h | h
  · go_wp2_with fail
    refine (k1 _).mono ?_
    rintro e w' ⟨rfl, rfl⟩
    go_wp2_with fail
    go_returns
    exact ⟨rfl, by go_grown⟩
  · have h2 : ¬ d < 1 := by omega
    go_wp2_with fail
    refine (k1 _).mono ?_
    rintro e w' ⟨rfl, rfl⟩
    go_wp2_with fail
    go_returns
    exact ⟨rfl, by go_grown⟩
set_option maxRecDepth 100000 in
set_option maxHeartbeats 4000000 in
theorem once_ok (d : Int) (a : Option Addr) (n cap : Nat) (ops : List (Int × Int)) (h1 : 1 ≤ d) (h2 : d ≤ 1048576) (hn : n ≤ 8796093022208) (w : World) (ho : IsOp2 w a n ops) :
    Calls Try.prog 4 #[.int .i64 d, .slice a n cap] w fun e w' => e = .returned (.bool true) ∧ Below w.heap.size w w' := by
  have k1 := new_ok d h1 h2
  have HO := hide ho
  have H1 := hide h1
  have H2 := hide h2
  have x1 : ¬ d < 1 := by omega
  have x2 : ¬ 1048576 < d := by omega
  clear h1 h2 ho
  go_enter Try.func4, Try.ntmps4
  go_wp2_with fail
  refine (k1 _).mono ?_
  rintro e w1 ⟨bb, mb, rfl, B1, lb, lm, b1⟩
  have PB : Hid (OnR w1.heap.size w w1 bb mb d (-9223372036854775808) [] [] [] (.slice none 0 0) (.slice none 0 0) 0) :=
    ⟨B1, Onc.start _, OwnR.nil _ _, OwnR.nil _ _, Apt.none _, by simp, b1, ⟨lb, lm, B1.lt, B1.mlt, b1.size⟩, Nat.le_refl _⟩
  obtain ⟨B, hB⟩ : ∃ Y, Y = w1.heap.size := ⟨_, rfl⟩
  rw [← hB] at PB
  clear B1 lb lm b1 k1 hB
  go_wp2_with fail
  go_loopw [7, 8, 9] (fun u v i wr => ∃ (k : Nat) (c : Int) (S P T : List Int), k ≤ n ∧ i = .int .i64 k ∧ Hid (OnR B w wr bb mb d c S P T u v k)) (fun _ _ i _ => n - (intOf i).toNat)
  case atStart => exact ⟨0, _, [], [], [], by omega, rfl, PB⟩
  case round =>
    obtain ⟨k, c, S, P, T, hk, rfl, PR⟩ := hrel
    by_cases hlt : k < n
    · obtain ⟨b, off, rfl, hb, cells⟩ := HO.out.2.2.resolve_left (by omega)
      have hlt' : (k : Int) < (n : Int) := by omega
      obtain ⟨e1, e2, jt⟩ := cells k hlt
      have HBB := hide hb
      have E2 := hide e2
      have E1 := hide e1
      have e1 := (PR.out.below.cell (p := ⟨b, off + k * 2, none⟩) hb).trans e1
      have e2 := (PR.out.below.cell (p := ⟨b, off + k * 2 + 1, none⟩) hb).trans e2
      generalize (ops.getD k (0, 0)).1 = x at e1 E1
      generalize (ops.getD k (0, 0)).2 = t at e2 jt E2
      have JT := hide jt
      clear cells jt hb
      by_cases x0 : x = 0
      · subst x0
        go_wp2_with fail
        refine (put_anyB PR.out.bk PR.out.on.few t JT.out H1.out).mono ?_
        rintro e w5 ⟨rfl, bk5, m5⟩
        have M5 : Mod [bb, mb] wr w5 := m5.more (by simp)
        have KO := of_ok t d (t / d) JT.out H1.out H2.out rfl
        by_cases e0 : putE d c S t = 0
        · obtain ⟨n1, n2, n3⟩ := PR.out.on.put e0
          have ON : Onc c (putS d c S t) P T → True := fun _ => trivial
          rw [e0, n2]
          rw [n2] at n1
          have Q := hide (OnQ.mk' PR.out M5 bk5)
          have e25 := (Q.out.below.cell (p := ⟨b, off + k * 2 + 1, none⟩) HBB.out).trans E2.out
          obtain ⟨q, hq⟩ : ∃ q, q = t / d := ⟨_, rfl⟩
          rw [← hq] at KO n1 n3
          rw [← hq]
          have hBw : B ≤ w5.heap.size := Q.out.le
          have bl : (P.length + 1) * 8 ≤ 140737488355328 := by have := Q.out.lk; omega
          clear hq n2 e0 ON
          by_cases tz : T = []
          · subst tz
            obtain ⟨a2, cp2, ev, _⟩ := Q.out.tv.is
            subst ev
            go_wp2_with fail
            refine (KO _).mono ?_
            rintro e w6 ⟨rfl, rfl⟩
            go_wp2_with (at_builtin; refine wpList_append_r2 rfl _ _ rfl B u7 P rfl (Q.out.pu.later ((Below.refl _ _).alloc (Nat.le_refl _) _)) w5.heap.size q rfl (by simp [go_sem]) (by simp; omega) bl ?_; intro v2 w2 O2 g2 h2; have NX := hide (Q.out.more n1 O2 g2 h2); have e12 := (NX.out.below.cell (p := ⟨b, off + k * 2, none⟩) HBB.out).trans E1.out; clear O2 g2 h2)
            go_roundw
            case rel => exact ⟨k + 1, _, _, _, _, by omega, by go_num, NX.out⟩
            case measure => simp [intOf]; omega
          · obtain ⟨g2, o2, cp2, y, ev, z1, z2, lc, ly, lg⟩ := last_cell Q.out.tv tz
            have yq : ¬ q ≤ y := by have := PR.out.on.tc y ly; omega
            have tp : 0 < T.length := List.length_pos_iff.2 tz
            obtain ⟨m, hm⟩ : ∃ m, T.length = m + 1 := ⟨T.length - 1, by omega⟩
            rw [hm] at ev lc z1
            rw [show m + 1 - 1 = m by omega] at lc
            subst ev
            clear tz tp hm
            go_wp2_with fail
            refine (KO _).mono ?_
            rintro e w6 ⟨rfl, rfl⟩
            go_wp2_with (at_builtin; refine wpList_append_r2 rfl _ _ rfl B u7 P rfl (Q.out.pu.later ((Below.refl _ _).alloc (Nat.le_refl _) _)) w5.heap.size q rfl (by simp [go_sem]) (by simp; omega) bl ?_; intro v2 w2 O2 g2 h2; have NX := hide (Q.out.more n1 O2 g2 h2); have e12 := (NX.out.below.cell (p := ⟨b, off + k * 2, none⟩) HBB.out).trans E1.out; clear O2 g2 h2)
            go_roundw
            case rel => exact ⟨k + 1, _, _, _, _, by omega, by go_num, NX.out⟩
            case measure => simp [intOf]; omega
        · obtain ⟨n1, n2⟩ := PR.out.on.noput e0
          rw [n1] at bk5
          have NX := hide ((PR.out.call M5 bk5 PR.out.on).next)
          have e25 := (NX.out.below.cell (p := ⟨b, off + k * 2 + 1, none⟩) HBB.out).trans E2.out
          have e12 := (NX.out.below.cell (p := ⟨b, off + k * 2, none⟩) HBB.out).trans E1.out
          clear e0 n1 bk5
          rcases n2 with z | z
          all_goals
            rw [z]
            clear z
            go_wp2_with fail
            refine (KO _).mono ?_
            rintro e w6 ⟨rfl, rfl⟩
            go_wp2_with fail
            go_roundw
            case rel => exact ⟨k + 1, _, _, _, _, by omega, by go_num, NX.out⟩
            case measure => simp [intOf]; omega
      · by_cases x1 : x = 1
        · subst x1
          clear x0
          go_wp2_with fail
          refine (close_any PR.out.bk PR.out.on.few PR.out.on.up t JT.out H1.out H2.out).mono ?_
          rintro e w5 ⟨vC, rfl, oC, kC, mC⟩
          have ONC := PR.out.on.close (d := d) (t := t)
          obtain ⟨O, hO⟩ : ∃ O, O = cloO d c S t := ⟨_, rfl⟩
          rw [← hO] at oC ONC
          have OF : O.length ≤ 4096 := by rw [hO]; exact cloO_few t PR.out.on.few
          have OB : Hid (OwnR B w5 vC O) := oC.base PR.out.le
          have AP : Hid (Apt u8 vC) := fun k e q => by have := (World.ownsRow.lt PR.out.tv k e).2; have := oC.lt q; omega
          have Q0 := OnQ.mk' PR.out mC kC
          have QI : Hid (OnI B w w5 bb mb d (cloC d c t) (cloS d c S t) P T u7 u8 k O 0) := ⟨Q0.bk, ONC, Q0.pu, by simpa using Q0.tv, Q0.ap, Q0.lk, Q0.below, Q0.lb, Q0.le⟩
          have TL : T.length ≤ k := Nat.le_trans PR.out.on.len PR.out.lk
          obtain ⟨aC, cC, ev, z1, z2, iC, _, _⟩ := oC.is
          subst ev
          clear hO oC kC mC Q0 ONC iC
          go_wp2_with fail
          obtain ⟨nO, hnO⟩ : ∃ y, y = O.length := ⟨_, rfl⟩
          rw [← hnO]
          have NO := hide hnO
          rw [← hnO] at OF z1
          clear hnO
          go_loopw [8, 130] (fun v i wr => ∃ (j : Nat), j ≤ nO ∧ i = .int .i64 j ∧ Hid (OnI B w wr bb mb d (cloC d c t) (cloS d c S t) P T u7 v k O j ∧ OwnR B wr (.slice aC O.length cC) O ∧ Apt v (.slice aC O.length cC))) (fun _ i _ => nO - (intOf i).toNat)
          case atStart => exact ⟨0, by omega, rfl, ⟨QI.out, OB.out, AP.out⟩⟩
          case round =>
            obtain ⟨j, hj, rfl, H⟩ := hrel
            by_cases jlt : j < nO
            · obtain ⟨a3, c3, ev3, _, _, i3, _, _⟩ := H.out.2.1.is
              have jO : j < O.length := by have := NO.out; omega
              obtain ⟨g3, o3, ea3, l3⟩ := i3.resolve_left (by intro e; rw [e] at jO; simp at jO)
              simp only [Value.slice.injEq] at ev3
              obtain ⟨ea, -, -⟩ := ev3
              rw [ea3] at ea
              subst ea
              subst ea3
              have f1 := l3.cell j jO
              have tk : O.take (j + 1) = O.take j ++ [O[j]] := by rw [List.take_add_one, List.getElem?_eq_getElem jO]; rfl
              have dk : T ++ O = (T ++ O.take j) ++ O[j] :: O.drop (j + 1) := by rw [List.append_assoc, ← List.drop_eq_getElem_cons jO, List.take_append_drop]
              have above : ∀ y ∈ T ++ O.take j, y < O[j] := by
                have q := H.out.1.on.tu
                rw [dk] at q
                exact fun y hy => (List.pairwise_append.1 q).2.2 y hy _ List.mem_cons_self
              have lenT : (T ++ O.take j).length + 1 ≤ k := by
                have q := H.out.1.on.len
                rw [dk] at q
                have := H.out.1.lk
                simp at q ⊢
                omega
              obtain ⟨x, hx⟩ : ∃ x, x = O[j] := ⟨_, rfl⟩
              rw [← hx] at f1 tk above
              obtain ⟨TL, hTL⟩ : ∃ Y, Y = T ++ O.take j := ⟨_, rfl⟩
              have tvv := H.out.1.tv
              rw [← hTL] at above lenT tvv
              have TV := hide tvv
              have TKK := hide tk
              have bl : (TL.length + 1) * 8 ≤ 140737488355328 := by omega
              have hBw : B ≤ wr.heap.size := H.out.1.le
              have jlt' : (j : Int) < (nO : Int) := by omega
              have HTL := hide hTL
              clear hx l3 i3 tk dk jO lenT tvv hTL
              by_cases tz : TL = []
              · subst tz
                obtain ⟨a2, cp2, ev, _⟩ := TV.out.is
                subst ev
                go_wp2_with (at_builtin; refine wpList_append_r2 rfl _ _ rfl B _ [] rfl (TV.out.later ((Below.refl _ _).alloc (Nat.le_refl _) _)) wr.heap.size x rfl (by simp [go_sem]) (by simp; omega) bl ?_; intro v2 w2 O2 g2 h2; have OM := hide (H.out.1.more TKK.out (by rw [← HTL.out]; exact O2) g2 h2); have OC := hide ((H.out.2.1.later ((Below.refl _ _).alloc (Nat.le_refl _) _)).kept2 g2 H.out.2.2); have AC := hide (H.out.2.2.moved (H.out.2.1.later ((Below.refl _ _).alloc (Nat.le_refl _) _)) h2); clear O2 g2 h2)
                go_roundw
                case rel => exact ⟨j + 1, by omega, by go_num, ⟨OM.out, OC.out, AC.out⟩⟩
                case measure => simp [intOf]; omega
              · obtain ⟨g2, o2, cp2, y, ev, z1, z2, lc, ly, lg⟩ := last_cell TV.out tz
                have yq : ¬ x ≤ y := by have := above y ly; omega
                have tp : 0 < TL.length := List.length_pos_iff.2 tz
                obtain ⟨m, hm⟩ : ∃ m, TL.length = m + 1 := ⟨TL.length - 1, by omega⟩
                rw [hm] at ev lc z1
                rw [show m + 1 - 1 = m by omega] at lc
                subst ev
                clear tz tp hm above ly
                go_wp2_with (at_builtin; refine wpList_append_r2 rfl _ _ rfl B _ TL rfl (TV.out.later ((Below.refl _ _).alloc (Nat.le_refl _) _)) wr.heap.size x rfl (by simp [go_sem]) (by simp; omega) bl ?_; intro v2 w2 O2 g2 h2; have OM := hide (H.out.1.more TKK.out (by rw [← HTL.out]; exact O2) g2 h2); have OC := hide ((H.out.2.1.later ((Below.refl _ _).alloc (Nat.le_refl _) _)).kept2 g2 H.out.2.2); have AC := hide (H.out.2.2.moved (H.out.2.1.later ((Below.refl _ _).alloc (Nat.le_refl _) _)) h2); clear O2 g2 h2)
                go_roundw
                case rel => exact ⟨j + 1, by omega, by go_num, ⟨OM.out, OC.out, AC.out⟩⟩
                case measure => simp [intOf]; omega
            · obtain rfl : j = nO := by omega
              have NX : Hid (OnR B w wr bb mb d (cloC d c t) (cloS d c S t) P (T ++ O) u7 u8 (k + 1)) := by
                have q := H.out.1
                rw [NO.out] at q
                exact q.done
              clear H jlt
              go_wp2_with fail
              go_roundw
              case rel => exact ⟨k + 1, _, _, _, _, by omega, by go_num, NX.out⟩
              case measure => simp [intOf]; omega
        · have y0 : (x == 0) = false := by simpa using x0
          have y1 : (x == 1) = false := by simpa using x1
          have NX := hide (PR.out.next)
          go_wp2_with fail
          go_roundw
          case rel => exact ⟨k + 1, _, _, _, _, by omega, by go_num, NX.out⟩
          case measure => simp [intOf]; omega
    · obtain rfl : k = n := by omega
      clear HO hlt
      have TLn : T.length ≤ k := Nat.le_trans PR.out.on.len PR.out.lk
      have PLn : P.length ≤ k := PR.out.lk
      go_wp2_with fail
      refine (open_spec PR.out.bk PR.out.on.few PR.out.on.up).mono ?_
      rintro e w5 ⟨vO, rfl, oO, bO⟩
      have PF := hide (PR.out.fin bO)
      have OO := hide (oO.base PR.out.le)
      have SF : S.length ≤ 4096 := PR.out.on.few
      clear oO bO PR
      obtain ⟨aP, cP, evP, _, _, iP, _, _⟩ := PF.out.pu.is
      subst evP
      obtain ⟨aT, cT, evT, _, _, iT, _, _⟩ := PF.out.tv.is
      subst evT
      have KH := fun q => has6R OO.out (by omega) q
      have KT := fun q => has6R PF.out.tv (by omega) q
      have KP := fun q => has6R PF.out.pu (by omega) q
      obtain ⟨nP, hnP⟩ : ∃ y, y = P.length := ⟨_, rfl⟩
      obtain ⟨nT, hnT⟩ : ∃ y, y = T.length := ⟨_, rfl⟩
      rw [← hnP] at KP PLn
      rw [← hnT] at KT TLn
      rw [← hnP, ← hnT]
      have NP := hide hnP
      have NT := hide hnT
      have IP := hide iP
      have IT := hide iT
      have FB := hide (put_anyB PF.out.bk SF 4611686018427387903 ⟨by omega, by omega⟩ H1.out)
      have PV : Hid (putE d c S 4611686018427387903 = 0 → 0 < putV d c S 4611686018427387903) := by
        intro e0
        obtain ⟨_, e1, _⟩ := PF.out.on.put e0
        rw [e1]
        have h1 := H1.out
        have h2 := H2.out
        exact (Int.le_ediv_iff_mul_le (by omega)).2 (by omega)
      clear hnP hnT iP iT
      have MS : Hid (∀ y, y ∈ P → (decide (y ∈ S) == decide (y ∈ T)) = false) := by
        intro y hy
        have h1 := PF.out.on.gt y
        have h2 := PF.out.on.tc y
        rcases (PF.out.on.mem y).1 hy with q | q
        · have n : y ∉ T := fun z => by have := h1 q; have := h2 z; omega
          simp [q, n]
        · have n : y ∉ S := fun z => by have := h1 z; have := h2 q; omega
          simp [q, n]
      have MT : Hid (∀ y, y ∈ T → decide (y ∈ P) = true) := fun y hy => decide_eq_true ((PF.out.on.mem y).2 (.inr hy))
      have BW := hide PF.out.below
      go_wp2_with fail
      go_loopw [156] (fun i wr => ∃ (j : Nat), j ≤ nP ∧ i = .int .i64 j ∧ wr = w5) (fun i _ => nP - (intOf i).toNat)
      case atStart => exact ⟨0, by omega, rfl, rfl⟩
      case round =>
        obtain ⟨j, hj, rfl, rfl⟩ := hrel
        by_cases jlt : j < nP
        · have jP : j < P.length := by have := NP.out; omega
          obtain ⟨g3, o3, ea3, l3⟩ := IP.out.resolve_left (by intro e; rw [e] at jP; simp at jP)
          subst ea3
          have f1 := l3.cell j jP
          obtain ⟨x, hx⟩ : ∃ x, x = P[j] := ⟨_, rfl⟩
          have mx := MS.out x (by rw [hx]; exact List.getElem_mem _)
          rw [← hx] at f1
          have k1 := KH x
          have k2 := KT x
          generalize decide (x ∈ S) = b1 at k1 mx
          generalize decide (x ∈ T) = b2 at k2 mx
          have jlt' : (j : Int) < (nP : Int) := by omega
          clear hx l3 jP KH KT KP
          go_wp2_with (go_at_call 22; (first | with_reducible refine Calls.mono k1 ?_ | with_reducible refine Calls.mono k2 ?_); rintro e w' ⟨rfl, rfl⟩)
          go_roundw
          case rel => exact ⟨j + 1, by omega, by go_num, by first | rfl | trivial⟩
          case measure => simp [intOf]; omega
        · obtain rfl : j = nP := by omega
          clear KH KT jlt
          go_wp2_with fail
          go_loopw [170] (fun i wx => ∃ (j : Nat), j ≤ nT ∧ i = .int .i64 j ∧ wx = wr) (fun i _ => nT - (intOf i).toNat)
          case atStart => exact ⟨0, by omega, rfl, rfl⟩
          case round =>
            obtain ⟨i, hi, rfl, rfl⟩ := hrel
            by_cases ilt : i < nT
            · have iT' : i < T.length := by have := NT.out; omega
              obtain ⟨g3, o3, ea3, l3⟩ := IT.out.resolve_left (by intro e; rw [e] at iT'; simp at iT')
              subst ea3
              have f1 := l3.cell i iT'
              obtain ⟨x, hx⟩ : ∃ x, x = T[i] := ⟨_, rfl⟩
              have mx := MT.out x (by rw [hx]; exact List.getElem_mem _)
              rw [← hx] at f1
              have k1 := KP x
              rw [mx] at k1
              have ilt' : (i : Int) < (nT : Int) := by omega
              clear hx l3 iT' KP
              go_wp2_with (go_at_call 22; refine k1.mono ?_; rintro e w' ⟨rfl, rfl⟩)
              go_roundw
              case rel => exact ⟨i + 1, by omega, by go_num, by first | rfl | trivial⟩
              case measure => simp [intOf]; omega
            · obtain rfl : i = nT := by omega
              clear KP ilt
              go_wp2_with fail
              refine FB.out.mono ?_
              rintro e w6 ⟨rfl, _, m6⟩
              have BE := hide (BW.out.trans (m6.below BW.out.size (by have := PF.out.lb; intro x hx; simp at hx; omega)))
              have pv := PV.out
              generalize putE d c S 4611686018427387903 = pe at pv
              generalize putV d c S 4611686018427387903 = pq at pv
              clear PV FB MS MT
              by_cases e0 : pe = 0
              · have p0 := pv e0
                subst e0
                clear pv
                go_wp2_with fail
                go_returns
                exact ⟨rfl, BE.out⟩
              · have y0 : (pe == 0) = false := by simpa using e0
                have y1 : (pe != 0) = true := by simpa using e0
                clear pv e0
                go_wp2_with fail
                go_returns
                exact ⟨rfl, BE.out⟩
theorem law_WindowOnce (d : Int) (a : Option Addr) (n cap : Nat) (ops : List (Int × Int)) (w0 : (Lit.int .i64 d).wf = true) (w : World) (ho : IsOp2 w a n ops) (hn : n ≤ 8796093022208) :
    Calls Try.prog 4 #[.int .i64 d, .slice a n cap] w fun e w' => e = .returned (.bool true) ∧ Below w.heap.size w w' := by
  by_cases h : 1 ≤ d ∧ d ≤ 1048576
  · exact once_ok d a n cap ops h.1 h.2 hn w ho
  · exact once_bad d _ (by omega) w
end Go.Proofs.Ytpkkcdbmhgmncaa
