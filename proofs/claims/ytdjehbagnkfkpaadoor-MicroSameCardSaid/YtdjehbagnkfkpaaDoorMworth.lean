/- The reference of layer 2: Worth. -/
import Derived.Test.YtdjehbagnkfkpaaDoorMtext
import Derived.Test.YtdjehbagnkfkpaaDoorMback
import Derived.Deep.DeepCutAuto
namespace Go.Proofs.YtdjehbagnkfkpaaDoor
set_option linter.unusedVariables false
set_option linter.unusedSimpArgs false
open Go.RowKit W
theorem worth_le (l : List UInt8) (k : Nat) : Dc.worth (l.take k) ≤ Dc.worth l := Dc.worth_mono l k
/-- What Worth's loop has reached: the number, or more than there is room for. -/
def WAt (l : List UInt8) (k : Nat) (y : Int) : Prop := 0 ≤ y ∧ ((y < 340282366920938463463374607431768211456 ∧ y = (Dc.worth (l.take k) : Nat)) ∨ (340282366920938463463374607431768211456 ≤ y ∧ 340282366920938463463374607431768211456 ≤ Dc.worth l))
theorem WAt.step {l : List UInt8} {k : Nat} {y d : Int} (h : WAt l k y) (hy : y < 340282366920938463463374607431768211456) (hk : k < l.length) (hd : Dc.isD l[k] = true) (e : d = (l[k].toNat : Int) - 48) : WAt l (k + 1) (y * 10 + d) := by
  obtain ⟨y0, h⟩ := h
  rcases h with ⟨_, e1⟩ | ⟨g, _⟩
  · have s := Dc.worth_take l k hk
    have m := worth_le l (k + 1)
    unfold Dc.isD at hd
    simp at hd
    unfold WAt
    refine ⟨by omega, ?_⟩
    by_cases b : y * 10 + d < 340282366920938463463374607431768211456
    · exact .inl ⟨b, by omega⟩
    · exact .inr ⟨by omega, by omega⟩
  · omega
/-- What Worth answers. -/
def worthP (w : World) (l : List UInt8) (e : Ending) (w' : World) : Prop := ∃ y : Int, WAt l l.length y ∧ e = .returned (mgV y) ∧ Below w.heap.size w w'
theorem WAt.done {l : List UInt8} {k : Nat} {y : Int} (h : WAt l k y) (g : k = l.length ∨ 340282366920938463463374607431768211456 ≤ y) : WAt l l.length y := by
  obtain ⟨y0, h⟩ := h
  refine ⟨y0, ?_⟩
  rcases h with ⟨a, b⟩ | h
  · rcases g with g | g
    · rw [← g]; exact .inl ⟨a, b⟩
    · omega
  · exact .inr h
structure WInv (w wr : World) (l : List UInt8) (k : Nat) (y : Int) : Prop where
  m : Box3 wr (w.heap.size + 1 + 1) (.int .u64 (mh y)) (.int .u64 (ml y)) (.bool (mo y))
  r : Box3 wr (w.heap.size + 1) (.int .u64 0) (.int .u64 0) (.bool false)
  at_ : WAt l k y
  below : Below w.heap.size w wr
theorem WInv.next {w wr v : World} {l : List UInt8} {k : Nat} {y z : Int} (h : WInv w wr l k y) (b : Below wr.heap.size wr v) (a : WAt l (k + 1) z) :
    WInv w (((v.setCell ⟨w.heap.size + 1 + 1, 0, none⟩ (.int .u64 (mh z))).setCell ⟨w.heap.size + 1 + 1, 1, none⟩ (.int .u64 (ml z))).setCell ⟨w.heap.size + 1 + 1, 2, none⟩ (.bool (mo z))) l (k + 1) z := by
  obtain ⟨a0, a1, a2, f0, f1, f2, fz⟩ := h.m.later b
  obtain ⟨r0, r1, r2, g0, g1, g2, gz⟩ := h.r.later b
  have bl := h.below.trans (b.mono h.below.size)
  refine ⟨⟨?_, ?_, ?_, ?_, ?_, ?_, ?_⟩, ⟨?_, ?_, ?_, ?_, ?_, ?_, ?_⟩, a, ((bl.setCell (by show w.heap.size ≤ w.heap.size + 1 + 1; omega) _).setCell (by show w.heap.size ≤ w.heap.size + 1 + 1; omega) _).setCell (by show w.heap.size ≤ w.heap.size + 1 + 1; omega) _⟩
  all_goals first | (simp [go_sem, a0, a1, a2, fz]; done) | (simp [go_sem, f0, f1, f2]; done) | (simp [go_sem, r0, r1, r2]; done) | (simp [go_sem, g0, g1, g2]; done) | (simp [World.setCell]; omega) | (refine World.cell?_setCell_same' _ _ _ ?_; simp [go_sem, a0, a1, a2]; done)
set_option maxRecDepth 100000 in
set_option maxHeartbeats 8000000 in
theorem worth_spec (neg : Bool) (v f : List UInt8) (hb : v.length + f.length ≤ 140737488351232) (hf : f.length ≤ 6) (dv : v.all Dc.isD = true) (df : f.all Dc.isD = true) (w : World) :
    Calls Tryd.prog 50 #[.agg #[.bool neg, .string ⟨v.toArray⟩, .string ⟨f.toArray⟩]] w (worthP w (v ++ f ++ List.replicate (6 - f.length) 48)) := by
  have c1 := add_lists v f (by omega)
  obtain ⟨vf, hvf⟩ : ∃ x, x = v ++ f := ⟨_, rfl⟩
  have vl : vf.length = v.length + f.length := by rw [hvf]; simp
  have vb : vf.length ≤ 140737488351232 := by omega
  have dd : vf.all Dc.isD = true := by rw [hvf, List.all_append, dv, df]; rfl
  rw [← hvf] at c1 ⊢
  have DD := hide dd
  have FL := hide hf
  clear hvf dv df vl dd hb
  go_enter Tryd.func50, Tryd.ntmps50
  go_wp2_with fail
  clear c1
  go_loop [4, 5] (fun av iv => ∃ j : Nat, f.length ≤ j ∧ j ≤ 6 ∧ iv = .int .i64 j ∧ av = .string ⟨(vf ++ List.replicate (j - f.length) 48).toArray⟩) (fun _ iv => 6 - (intOf iv).toNat)
  case atStart => exact ⟨f.length, Nat.le_refl _, FL.out, by simp, by simp⟩
  case round =>
    obtain ⟨j, hj, hj6, rfl, rfl⟩ := hrel
    by_cases hlt : j < 6
    · have cat : ∀ w, (Op.stringOp .add ⟨(vf ++ List.replicate (j - f.length) 48).toArray⟩ ⟨#[48]⟩).run Tryd.prog w = .ok (.string ⟨(vf ++ List.replicate (j + 1 - f.length) 48).toArray⟩) w := by
        intro w
        have h := add_lists (vf ++ List.replicate (j - f.length) 48) [48] (by simp; omega) w
        rw [List.append_assoc, ← List.replicate_succ', show j - f.length + 1 = j + 1 - f.length by omega] at h
        exact h
      go_wp2_with fail
      go_round
      case rel => exact ⟨j + 1, by omega, by omega, by go_num, rfl⟩
      case measure => simp [intOf]; omega
    · have e6 : j = 6 := by omega
      clear hlt hj6
      have j6 : ¬ (j : Int) < 6 := by omega
      obtain ⟨S, hS⟩ : ∃ S : ByteArray, S = ⟨(vf ++ List.replicate (j - f.length) 48).toArray⟩ := ⟨_, rfl⟩
      rw [← hS]
      have SL : Hid (S.data.toList = vf ++ List.replicate (6 - f.length) 48) := by show _ = _; rw [hS, e6]
      have SD : Hid (∀ k (hk : k < S.size), Dc.isD S[k] = true) := fun k hk => by
        have h : S.data.toList.all Dc.isD = true := by rw [SL.out, List.all_append, DD.out]; simp; exact .inr (by decide)
        rw [List.all_eq_true] at h
        exact h _ (by have : k < S.data.toList.length := by simpa using hk
                      exact List.mem_iff_getElem.2 ⟨k, this, rfl⟩)
      have sb : S.size ≤ 140737488351238 := by
        have h := congrArg List.length SL.out
        have e : S.data.toList.length = S.size := by simp
        rw [e] at h; simp at h; omega
      have FIN : Hid (∀ (y : Int) (w' : World), WAt S.data.toList S.data.toList.length y → Below w.heap.size w w' → worthP w (vf ++ List.replicate (6 - f.length) 48) (.returned (mgV y)) w') := fun y w' h b => ⟨y, by rw [← SL.out]; exact h, rfl, b⟩
      clear hS e6 DD FL hj vb
      go_wp2_with fail
      clear j6
      go_loopw [6] (fun i wr => ∃ (k : Nat) (y : Int), k ≤ S.size ∧ i = .int .i64 k ∧ WInv w wr S.data.toList k y) (fun i _ => S.size - (intOf i).toNat)
      case atStart =>
        refine ⟨0, 0, by omega, rfl, ⟨⟨?_, ?_, ?_, ?_, ?_, ?_, ?_⟩, ⟨?_, ?_, ?_, ?_, ?_, ?_, ?_⟩, ⟨by omega, .inl ⟨by omega, by simp [Dc.worth]⟩⟩, ?_⟩⟩
        all_goals first | (go_grown; done) | (simp [go_sem]; done) | (simp [go_sem]; decide) | (simp; omega)
      case round =>
        obtain ⟨k, y, hk, rfl, inv⟩ := hrel
        have I := hide inv
        clear inv
        have y0 := I.out.at_.1
        obtain ⟨m0, m1, m2, f0, f1, f2, fz⟩ := I.out.m
        obtain ⟨r0, r1, r2, g0, g1, g2, gz⟩ := I.out.r
        by_cases go : k < S.size ∧ y < 340282366920938463463374607431768211456
        · obtain ⟨hlt, ylt⟩ := go
          have dd := SD.out k hlt
          obtain ⟨d0, d1⟩ : 48 ≤ (S[k].toNat : Int) ∧ (S[k].toNat : Int) ≤ 57 := by
            unfold Dc.isD at dd; simp at dd; omega
          obtain ⟨d, hdd⟩ : ∃ d : Int, d = (S[k].toNat : Int) - 48 := ⟨_, rfl⟩
          have kl : k < S.data.toList.length := by simpa using hlt
          have NX := hide (I.out.at_.step ylt kl dd hdd)
          have mof : mo y = false := by unfold mo; exact decide_eq_false (by omega)
          have KT := times_mg y 10 y0 ⟨by omega, by omega⟩
          have KA := plus_mg (y * 10) d (by omega) (by omega)
          rw [mg_small (x := d) (by omega) (by omega)] at KA
          unfold mgV at KT KA
          rw [mof] at m2 KT
          have bd : IntKind.u8.wrap ((S[k].toNat : Int) - 48) = d := by rw [← hdd, IntKind.wrap_u8]; omega
          have bd' : IntKind.u64.wrap d = d := by rw [IntKind.wrap_u64]; omega
          have K0 := Keeps.start (Nat.le_refl wr.heap.size)
          have K1 := K0.drew
          have J0 : Keeps (w.heap.size + 1 + 1) wr wr := Keeps.start (by omega)
          have J1 := J0.drew
          obtain ⟨p1, e1⟩ : ∃ q, q = mh y := ⟨_, rfl⟩
          obtain ⟨p0, e0⟩ : ∃ q, q = ml y := ⟨_, rfl⟩
          obtain ⟨q1, e2⟩ : ∃ q, q = mh (y * 10) := ⟨_, rfl⟩
          obtain ⟨q0, e3⟩ : ∃ q, q = ml (y * 10) := ⟨_, rfl⟩
          obtain ⟨qo, e4⟩ : ∃ q, q = mo (y * 10) := ⟨_, rfl⟩
          obtain ⟨t1, e5⟩ : ∃ q, q = mh (y * 10 + d) := ⟨_, rfl⟩
          obtain ⟨t0, e6⟩ : ∃ q, q = ml (y * 10 + d) := ⟨_, rfl⟩
          obtain ⟨tb, e7⟩ : ∃ q, q = mo (y * 10 + d) := ⟨_, rfl⟩
          rw [← e1, ← e0, ← e2, ← e3, ← e4] at KT
          rw [← e2, ← e3, ← e4, ← e5, ← e6, ← e7] at KA
          rw [← e1] at m0
          rw [← e0] at m1
          have PUT : Hid (∀ v, Below wr.heap.size wr v → WInv w (((v.setCell ⟨w.heap.size + 1 + 1, 0, none⟩ (.int .u64 t1)).setCell ⟨w.heap.size + 1 + 1, 1, none⟩ (.int .u64 t0)).setCell ⟨w.heap.size + 1 + 1, 2, none⟩ (.bool tb)) S.data.toList (k + 1) (y * 10 + d)) := fun v b => by
            have := I.out.next b NX.out
            rwa [← e5, ← e6, ← e7] at this
          clear e0 e1 e2 e3 e4 e5 e6 e7 hdd dd NX mof I ylt y0 SD FIN
          go_wp2_with fail
          go_region_with (first
            | (go_at_call 48; (with_reducible refine (KT _).mono ?_); rintro e v20 ⟨rfl, hb20⟩; have K20 := Keeps.call (B := wr.heap.size) (W := wr) (by repeat (first | assumption | refine Keeps.alloc ?_ _ | refine Keeps.drew ?_ | refine Keeps.setCell ?_ (by first | (simp; done) | omega | (simp; omega)) _)) hb20; have n0 := K20.cell m0 fz; have n1 := K20.cell m1 fz; have n2 := K20.cell m2 fz; have n3 := K20.free f0 fz; have n4 := K20.free f1 fz; have n5 := K20.free f2 fz)
            | (go_at_call 47; (with_reducible refine (KA _).mono ?_); rintro e v21 ⟨rfl, hb21⟩; have K21 := Keeps.call (B := wr.heap.size) (W := wr) (by repeat (first | assumption | refine Keeps.alloc ?_ _ | refine Keeps.drew ?_ | refine Keeps.setCell ?_ (by first | (simp; done) | omega | (simp; omega)) _)) hb21; have s0 := K21.cell m0 fz; have s1 := K21.cell m1 fz; have s2 := K21.cell m2 fz; have s3 := K21.free f0 fz; have s4 := K21.free f1 fz; have s5 := K21.free f2 fz; have sz := K21.size))
          all_goals
            have F := hide (PUT.out _ K21.below)
            clear K20 K21 KA KT PUT
            go_wp2_with fail
            go_roundw
            case rel => exact ⟨k + 1, _, by omega, by go_num, F.out⟩
            case measure => simp [intOf]; omega
        · have F := hide (FIN.out y · (I.out.at_.done (by
            by_cases h : k < S.size
            · exact .inr (by omega)
            · exact .inl (by simp; omega))))
          have BL := hide I.out.below
          have cs : ¬ k < S.size ∨ (k < S.size ∧ mo y = true) := by
            by_cases h : k < S.size
            · exact .inr ⟨h, by unfold mo; exact decide_eq_true (by omega)⟩
            · exact .inl h
          have FE : Hid (∀ v, Below w.heap.size w v → worthP w (vf ++ List.replicate (6 - f.length) 48) (.returned (magV (mh y) (ml y) (mo y))) v) := fun v b => F.out v b
          clear go I FIN F
          generalize mh y = p1 at *
          generalize ml y = p0 at *
          generalize mo y = po at *
          rcases cs with h | ⟨h, rfl⟩
          all_goals
            go_wp2_with fail
            refine bodyPost_ret (by simp [results, Tryd.results50, go_sem, m0, m1, m2, r0, r1, r2, gz, fz]; try rfl) rfl ?_
            refine FE.out _ ?_
            repeat (first | exact BL.out | refine Below.setCell ?_ (by first | (simp; done) | omega | (simp; omega)) _ | refine Below.drew ?_ | refine below_drewN ?_ _ | refine Below.alloc ?_ (by first | (simp; done) | omega | (simp; omega)) _)
end Go.Proofs.YtdjehbagnkfkpaaDoor
