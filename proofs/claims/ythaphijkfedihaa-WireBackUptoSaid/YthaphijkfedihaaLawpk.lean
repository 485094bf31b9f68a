/- WirePacks: the law's walk. (gen_lawpk.py) -/
import Derived.Test.YthaphijkfedihaaRadd
import Derived.Test.YthaphijkfedihaaAlive5
import Derived.Deep.RegionWith
import Derived.Deep.SlicePairs
import Derived.ChangeArms
namespace Go.Proofs.Ythaphijkfedihaa
set_option linter.unusedVariables false
set_option linter.unusedSimpArgs false
open Go.RowKit W
/-- Both packers as they stand. -/
structure St (B g h : Nat) (n : Int) (w0 : World) (l : List UInt8) (ps : List ByteArray) (w : World) : Prop where
  pk : Pk B w g n l
  rk : Rk B w h n ps
  below : Below B w0 w
  le : B ≤ w.heap.size
theorem Upd.drew {B : Nat} {T : List TypeId} {a b : World} (h : Upd B T a b) : Upd B T a b.drew := h.trans (.of_below (Below.drew (Below.refl _ _)))
theorem St.upd {B g h : Nat} {n : Int} {w0 w w' : World} {l : List UInt8} {ps : List ByteArray} (s : St B g h n w0 l ps w) (u : Upd B [] w w') : St B g h n w0 l ps w' := by
  obtain ⟨v, p⟩ := s.pk
  obtain ⟨v', r⟩ := s.rk
  exact ⟨⟨v, p.upd u (by simp) (by simp)⟩, ⟨v', r.upd u (by simp) (by simp)⟩, s.below.trans ((u.below s.le)), Nat.le_trans s.le u.size⟩
theorem St.drew {B g h : Nat} {n : Int} {w0 w : World} {l : List UInt8} {ps : List ByteArray} (s : St B g h n w0 l ps w) : St B g h n w0 l ps w.drew := s.upd ((Upd.refl _ _ _).drew)
theorem St.drewN {B g h : Nat} {n : Int} {w0 w : World} {l : List UInt8} {ps : List ByteArray} (s : St B g h n w0 l ps w) (k : Nat) : St B g h n w0 l ps (w.drewN k) := s.upd ((Upd.refl _ _ _).drewN k)
theorem St.p {B g h : Nat} {n : Int} {w0 w w' : World} {l l' : List UInt8} {ps : List ByteArray} (s : St B g h n w0 l ps w) (u : Upd B TP w w') (q : Pk B w' g n l') : St B g h n w0 l' ps w' := by
  obtain ⟨v', r⟩ := s.rk
  exact ⟨q, ⟨v', r.upd u (by decide) (by decide)⟩, s.below.trans ((u.below s.le)), Nat.le_trans s.le u.size⟩
theorem St.r {B g h : Nat} {n : Int} {w0 w w' : World} {l : List UInt8} {ps ps' : List ByteArray} (s : St B g h n w0 l ps w) (u : Upd B TR w w') (q : Rk B w' h n ps') : St B g h n w0 l ps' w' := by
  obtain ⟨v, p⟩ := s.pk
  exact ⟨⟨v, p.upd u (by decide) (by decide)⟩, q, s.below.trans ((u.below s.le)), Nat.le_trans s.le u.size⟩
theorem txt_eq {x y : ByteArray} {l : List UInt8} (h : lst x = l) (k : lst y = l) : x = y := lst_inj (h.trans k.symm)
theorem BytesT.conv {w v : World} {a : Option Addr} {l : List UInt8} (h : BytesT w a l) (x : ByteArray) (hx : lst x = l) (c : Nat) (hv : v.heap = w.heap) : (convert 35 9 (.slice a l.length c)).run Try.prog v = .ok (.string x) v := by
  have hv' : BytesT v a l := by
    rcases h with h | ⟨b, h1, h2⟩
    · exact .inl h
    · exact .inr ⟨b, h1, by rw [hv]; exact h2⟩
  obtain ⟨y, hy, f⟩ := bytes_text0 hv'.is c
  rw [txt_eq hx hy]
  exact f v (Below.refl _ _)
def FlA (B g h : Nat) (n : Int) (w0 : World) (l : List UInt8) (ps : List ByteArray) (e : Ending) (w' : World) : Prop :=
  ∃ a c, e = .returned (.slice a l.length c) ∧ St B g h n w0 [] ps w' ∧ BytesT w' a l
theorem flA {B g h : Nat} {n : Int} {w0 w : World} {l : List UInt8} {ps : List ByteArray} (s : St B g h n w0 l ps w) (hl : l.length ≤ 65536) : Calls Try.prog 11 #[.pointer (some ⟨g, 0, none⟩)] w (FlA B g h n w0 l ps) :=
  (flush_spec B g n l w s.pk (by omega)).mono fun e w' ⟨a, c, he, _, _, hb, ⟨v2, p2, _⟩, u⟩ => ⟨a, c, he, s.p u ⟨v2, p2⟩, hb⟩
def FlB (B g h : Nat) (n : Int) (w0 : World) (l : List UInt8) (x : ByteArray) (w : World) (e : Ending) (w' : World) : Prop :=
  e = .returned (.string x) ∧ St B g h n w0 l [] w' ∧ ∀ a m, BytesT w a m → BytesT w' a m
theorem flB {B g h : Nat} {n : Int} {w0 w : World} {l : List UInt8} {ps : List ByteArray} (x : ByteArray) (hx : lst x = joinL (ps.map lst)) (s : St B g h n w0 l ps w) (hl : ps.length ≤ 65536) (hj : (joinL (ps.map lst)).length ≤ 65536) : Calls Try.prog 12 #[.pointer (some ⟨h, 0, none⟩)] w (FlB B g h n w0 l x w) :=
  (rflush5 B h n ps w s.rk (by omega) hj).mono fun e w' ⟨y, he, hy, r, u⟩ => ⟨by rw [he, txt_eq hx hy], s.r u r, fun a m t => t.upd u (by decide)⟩
def AddA (B g h : Nat) (n : Int) (w0 : World) (l' out : List UInt8) (er : Int) (ps : List ByteArray) (e : Ending) (w' : World) : Prop :=
  ∃ a c, e = .returned (.tuple #[.slice a out.length c, .int .i64 er]) ∧ St B g h n w0 l' ps w' ∧ BytesT w' a out
theorem addA {B g h : Nat} {n : Int} {w0 w : World} {l l' out : List UInt8} {er : Int} {ps : List ByteArray} (x : ByteArray) (hq : addF n l (lst x) = (l', out, er)) (s : St B g h n w0 l ps w) (hl : l.length ≤ 65536) (hz : n ≤ 65536) (hx : x.size ≤ 140737488355327) : Calls Try.prog 13 #[.pointer (some ⟨g, 0, none⟩), .string x] w (AddA B g h n w0 l' out er ps) :=
  (padd_spec B g n l x w s.pk hl hz s.le hx).mono fun e w' ⟨a, c, he, _, _, hb, p2, u⟩ => by
    rw [hq] at he hb p2
    exact ⟨a, c, he, s.p u p2, hb⟩
def AddB (B g h : Nat) (n : Int) (w0 : World) (l out : List UInt8) (er : Int) (ps' : List ByteArray) (w : World) (e : Ending) (w' : World) : Prop :=
  ∃ x, e = .returned (.tuple #[.string x, .int .i64 er]) ∧ lst x = out ∧ St B g h n w0 l ps' w' ∧ ∀ a m, BytesT w a m → BytesT w' a m
theorem addB {B g h : Nat} {n : Int} {w0 w : World} {l out : List UInt8} {er : Int} {ps ps' : List ByteArray} (x : ByteArray) (hq : addR n ps x = (ps', out, er)) (s : St B g h n w0 l ps w) (hl : ps.length ≤ 65536) (hj : (joinL (ps.map lst)).length ≤ 65536) (hz : n ≤ 65536) (hx : x.size ≤ 4000000000000) : Calls Try.prog 14 #[.pointer (some ⟨h, 0, none⟩), .string x] w (AddB B g h n w0 l out er ps' w) :=
  (radd_spec B h n ps x w s.rk hl hj hz s.le hx).mono fun e w' ⟨y, he, hy, r, u⟩ => by
    rw [hq] at he hy r
    exact ⟨y, he, hy, s.r u r, fun a m t => t.upd u (by decide)⟩
/-- What stands between a packer's bytes and its lines. -/
structure Inv (n : Int) (ps : List ByteArray) : Prop where
  few : ps.length ≤ (joinL (ps.map lst)).length
  fits : ((joinL (ps.map lst)).length : Int) ≤ n
theorem fit_pos {s : ByteArray} (h : fitL (lst s) = true) : 0 < s.size := by
  have := (fit_parts h).1
  rw [← lst_len]
  cases q : lst s with
  | nil => exact absurd q this
  | cons _ _ => simp
theorem Inv.nil {n : Int} {ps : List ByteArray} (i : Inv n ps) : ps = [] ↔ joinL (ps.map lst) = [] := by
  constructor
  · rintro rfl; rfl
  · intro e; have := i.few; rw [e] at this; exact List.eq_nil_of_length_eq_zero (by simpa using this)
theorem join_snoc (ps : List ByteArray) (s : ByteArray) : joinL ((ps ++ [s]).map lst) = if ps = [] then lst s else joinL (ps.map lst) ++ 10 :: lst s := by
  rw [List.map_append, List.map_singleton, joinL_snoc]
  by_cases z : ps = []
  · subst z; rfl
  · rw [if_neg z, if_neg (by simpa using z)]
theorem add_both {n : Int} {ps : List ByteArray} (i : Inv n ps) (s : ByteArray) : addF n (joinL (ps.map lst)) (lst s) = (joinL ((addR n ps s).1.map lst), (addR n ps s).2.1, (addR n ps s).2.2) ∧ Inv n (addR n ps s).1 := by
  cases ft : fitL (lst s) with
  | false =>
    have e : addR n ps s = (ps, [], 51) := by unfold addR; rw [if_pos ft]
    rw [e, add_bad ft]; exact ⟨rfl, i⟩
  | true =>
    have hp := fit_pos ft
    by_cases lg : n < s.size
    · have e : addR n ps s = (ps, [], 2) := by unfold addR; rw [if_neg (by rw [ft]; simp), if_pos lg]
      rw [e, add_long ft (by rw [lst_len]; exact lg)]; exact ⟨rfl, i⟩
    · by_cases pe : ps = []
      · subst pe
        have e : addR n [] s = ([s], [], 0) := by unfold addR; rw [if_neg (by rw [ft]; simp), if_neg lg, if_neg (by simp)]; rfl
        rw [e]
        refine ⟨by rw [show joinL (([] : List ByteArray).map lst) = [] from rfl, add_first ft (by rw [lst_len]; exact lg)]; rfl, ⟨?_, ?_⟩⟩
        · show 1 ≤ (lst s).length; rw [lst_len]; omega
        · show ((lst s).length : Int) ≤ n; rw [lst_len]; omega
      · have le : joinL (ps.map lst) ≠ [] := fun q => pe (i.nil.2 q)
        by_cases fu : n < ((joinL (ps.map lst)).length : Int) + 1 + s.size
        · have e : addR n ps s = ([s], joinL (ps.map lst), 0) := by unfold addR; rw [if_neg (by rw [ft]; simp), if_neg lg, if_pos ⟨pe, fu⟩]
          rw [e, add_full ft (by rw [lst_len]; exact lg) le (by rw [lst_len]; exact fu)]
          refine ⟨rfl, ⟨?_, ?_⟩⟩
          · show 1 ≤ (lst s).length; rw [lst_len]; omega
          · show ((lst s).length : Int) ≤ n; rw [lst_len]; omega
        · have e : addR n ps s = (ps ++ [s], [], 0) := by unfold addR; rw [if_neg (by rw [ft]; simp), if_neg lg, if_neg (by rintro ⟨_, q⟩; exact fu q)]
          have j := join_snoc ps s
          rw [if_neg pe] at j
          rw [e, add_more ft (by rw [lst_len]; exact lg) le (by rw [lst_len]; exact fu)]
          refine ⟨by rw [j], ⟨?_, ?_⟩⟩
          · have := i.few; rw [j]; simp [lst_len]; omega
          · have := i.fits; rw [j]; simp [lst_len]; omega
/-- The calls of a script. -/
def IsOps (w : World) (a : Option Addr) (ops : List (Bool × ByteArray)) : Prop := ops = [] ∨ ∃ g o, a = some ⟨g, o, none⟩ ∧ g < w.heap.size ∧ ∀ i (h : i < ops.length), w.cell? ⟨g, o + i * 2, none⟩ = some (.bool ops[i].1) ∧ w.cell? ⟨g, o + i * 2 + 1, none⟩ = some (.string ops[i].2)
set_option maxRecDepth 100000 in
set_option maxHeartbeats 16000000 in
theorem packs_ok (n : Int) (h1 : 1 ≤ n) (h2 : n ≤ 65536) (A : Option Addr) (c : Nat) (ops : List (Bool × ByteArray)) (w : World) (hi : IsOps w A ops) (hs : ∀ q ∈ ops, q.2.size ≤ 1048576) (hl : ops.length ≤ 1048576) :
    Calls Try.prog 3 #[.int .i64 n, .slice A ops.length c] w fun e w' => e = .returned (.bool true) ∧ Below w.heap.size w w' := by
  have HI := hide hi
  have HS := hide hs
  clear hi hs
  go_enter Try.func3, Try.ntmps3
  go_wp2_with fail
  refine (newp_ok n h1 h2 _).mono ?_
  rintro e w1 ⟨g, rfl, ⟨v, p1⟩, b1⟩
  go_wp2_with fail
  refine (rnewp_ok n h1 h2 _).mono ?_
  rintro e w2 ⟨rfl, b2⟩
  have P2 := hide (p1.upd (Upd.of_below (B := w.heap.size) (T := []) b2) (by simp) (by simp))
  have B2 := hide (b1.trans (b2.mono b1.size))
  clear p1 b1 b2
  go_wp2_with fail
  have W3 : Below w.heap.size w (w2.alloc (.cells #[.int .i64 n, .slice none 0 0] 29)) := B2.out.alloc B2.out.size _
  refine (alive5 _).mono ?_
  rintro e w3 ⟨rfl, b3⟩
  have S3 : Hid (St w.heap.size g w2.heap.size n w [] [] w3) := by
    have u := Upd.of_below (B := w.heap.size) (T := []) b3
    have r : RkV w.heap.size (w2.alloc (.cells #[.int .i64 n, .slice none 0 0] 29)) w2.heap.size n (.slice none 0 0) [] := ⟨heap_alloc_new w2 _, ⟨rfl, .inl ⟨rfl, rfl⟩⟩, B2.out.size⟩
    exact ⟨⟨_, (P2.out.upd (((Upd.refl w.heap.size [] w2).alloc _).trans u) (by simp) (by simp))⟩, ⟨_, r.upd u (by simp) (by simp)⟩, W3.trans (b3.mono W3.size), Nat.le_trans W3.size b3.size⟩
  obtain ⟨h, hh⟩ : ∃ h, h = w2.heap.size := ⟨_, rfl⟩
  rw [← hh] at S3 ⊢
  clear P2 B2 W3 b3 hh
  go_wp2_with fail
  go_loopw [9] (fun i wr => ∃ (k : Nat) (ps : List ByteArray), k ≤ ops.length ∧ i = .int .i64 k ∧ Hid (Inv n ps) ∧ Hid (St w.heap.size g h n w (joinL (ps.map lst)) ps wr)) (fun i _ => ops.length - (intOf i).toNat)
  case atStart => exact ⟨0, [], by omega, rfl, ⟨Nat.le_refl _, by show ((0 : Nat) : Int) ≤ n; omega⟩, S3.out⟩
  case round =>
    obtain ⟨k, ps, hk, rfl, inv, st⟩ := hrel
    have l1 : (joinL (ps.map lst)).length ≤ 65536 := by have := inv.out.fits; omega
    have l2 : ps.length ≤ 65536 := Nat.le_trans inv.out.few l1
    by_cases hlt : k < ops.length
    · have cs : ∃ g' o, A = some ⟨g', o, none⟩ ∧ wr.cell? ⟨g', o + k * 2, none⟩ = some (.bool ops[k].1) ∧ wr.cell? ⟨g', o + k * 2 + 1, none⟩ = some (.string ops[k].2) := by
        rcases HI.out with q | ⟨g', o, rfl, lt, hc⟩
        · rw [q] at hlt; exact absurd hlt (by simp)
        · have b := st.out.below
          exact ⟨g', o, rfl, (b.cell (p := ⟨g', o + k * 2, none⟩) lt).trans (hc k hlt).1, (b.cell (p := ⟨g', o + k * 2 + 1, none⟩) lt).trans (hc k hlt).2⟩
      obtain ⟨g', o, rfl, c0, c1⟩ := cs
      have xs : ops[k].2.size ≤ 1048576 := HS.out _ (List.getElem_mem hlt)
      obtain ⟨fl, hfl⟩ : ∃ f, f = ops[k].1 := ⟨_, rfl⟩
      obtain ⟨x, hx⟩ : ∃ x, x = ops[k].2 := ⟨_, rfl⟩
      rw [← hfl] at c0
      rw [← hx] at c1 xs
      clear hfl hx
      have KH := fun (l : List UInt8) (ps : List ByteArray) (W : World) (s : St w.heap.size g h n w l ps W) => held_spec w.heap.size g n l W s.pk
      have KB := fun (l : List UInt8) (ps : List ByteArray) (W : World) (s : St w.heap.size g h n w l ps W) (a : ps.length ≤ 140737488355328) (b : (joinL (ps.map lst)).length ≤ 65536) => rbytes5 w.heap.size h n ps W s.rk a b
      cases fl with
      | true =>
        obtain ⟨x0, hx0⟩ : ∃ x0 : ByteArray, lst x0 = joinL (ps.map lst) := ⟨⟨(joinL (ps.map lst)).toArray⟩, by simp [lst]⟩
        have FA := fun (l : List UInt8) (ps' : List ByteArray) (W : World) (s : St w.heap.size g h n w l ps' W) (q : l.length ≤ 65536) => flA s q
        have FB := fun (l : List UInt8) (W : World) (s : St w.heap.size g h n w l ps W) => flB x0 hx0 s l2 l1
        have CV := fun (W v : World) (a : Option Addr) (t : BytesT W a (joinL (ps.map lst))) (c : Nat) (hv : v.heap = W.heap) => t.conv x0 hx0 c hv
        have IN0 : Hid (Inv n []) := ⟨Nat.le_refl _, by show ((0 : Nat) : Int) ≤ n; omega⟩
        have s0 := st.out
        have LE := hide l1
        have DN : Hid (joinL (([] : List ByteArray).map lst) = []) := rfl
        generalize joinL (ps.map lst) = l at *
        clear hx0 l1 l2
        go_wp2_with fail
        go_region_with (first
          | (go_at_call 11; (first | (with_reducible refine Calls.mono (FA _ _ _ (St.drew sB) LE.out) ?_) | (with_reducible refine Calls.mono (FA _ _ _ sB LE.out) ?_) | (with_reducible refine Calls.mono (FA _ _ _ (St.drew s0) LE.out) ?_) | (with_reducible refine Calls.mono (FA _ _ _ s0 LE.out) ?_)); rintro e wA ⟨a, c, rfl, sA, tA⟩; have v0 := CV wA wA a tA c rfl; have v1 := CV wA wA.drew a tA c rfl; have v2 := CV wA wA.drew.drew a tA c rfl)
          | (go_at_call 12; (first | (with_reducible refine Calls.mono (FB _ _ (St.drew sA)) ?_) | (with_reducible refine Calls.mono (FB _ _ sA) ?_) | (with_reducible refine Calls.mono (FB _ _ (St.drew s0)) ?_) | (with_reducible refine Calls.mono (FB _ _ s0) ?_)); rintro e wB ⟨rfl, sB, kB⟩; (try have tB := kB _ _ tA); (try have z0 := CV wB wB a tB c rfl); (try have z1 := CV wB wB.drew a tB c rfl); (try have z2 := CV wB wB.drew.drew a tB c rfl)))
        all_goals
          go_wp2_with (first | (go_at_call 15; (first | (with_reducible refine Calls.mono (KH _ _ _ sB) ?_) | (with_reducible refine Calls.mono (KH _ _ _ sA) ?_) | (with_reducible refine Calls.mono (KH _ _ _ (St.drew sB)) ?_) | (with_reducible refine Calls.mono (KH _ _ _ (St.drew sA)) ?_)); rintro e vH ⟨rfl, rfl⟩) | (go_at_call 16; (first | (with_reducible refine Calls.mono (KB _ _ _ sB (Nat.zero_le _) (Nat.zero_le _)) ?_) | (with_reducible refine Calls.mono (KB _ _ _ sA (Nat.zero_le _) (Nat.zero_le _)) ?_) | (with_reducible refine Calls.mono (KB _ _ _ (St.drew sB) (Nat.zero_le _) (Nat.zero_le _)) ?_) | (with_reducible refine Calls.mono (KB _ _ _ (St.drew sA) (Nat.zero_le _) (Nat.zero_le _)) ?_)); rintro e vB ⟨y, rfl, hy, rfl⟩; obtain rfl : y = ⟨#[]⟩ := lst_inj (hy.trans rfl)))
          go_roundw
          case rel =>
            first
            | exact ⟨k + 1, [], by omega, by go_num, IN0.out, sB⟩
            | exact ⟨k + 1, [], by omega, by go_num, IN0.out, sA⟩
            | exact ⟨k + 1, [], by omega, by go_num, IN0.out, (St.drew sB)⟩
            | exact ⟨k + 1, [], by omega, by go_num, IN0.out, (St.drew sA)⟩
          case measure => first | (simp [intOf]; done) | (simp [intOf]; omega)
      | false =>
        obtain ⟨AB1, AB2⟩ := add_both inv.out x
        obtain ⟨q, hq⟩ : ∃ q, q = addR n ps x := ⟨_, rfl⟩
        rw [← hq] at AB1 AB2
        obtain ⟨ps', out, er⟩ := q
        have CA := addA x AB1 st.out l1 h2 (by omega)
        have CB := fun (l : List UInt8) (W : World) (s : St w.heap.size g h n w l ps W) => addB (l := l) x hq.symm s l2 l1 h2 (by omega)
        have CV := fun (W v : World) (a : Option Addr) (t : BytesT W a out) (y : ByteArray) (hy : lst y = out) (c : Nat) (hv : v.heap = W.heap) => t.conv y hy c hv
        have I2 := hide AB2
        have l3 : (joinL (ps'.map lst)).length ≤ 65536 := by have := AB2.fits; simp at this; omega
        have l4 : ps'.length ≤ 65536 := Nat.le_trans AB2.few l3
        clear AB1 AB2 hq inv
        go_wp2_with fail
        refine CA.mono ?_
        rintro e wA ⟨a, ca, rfl, sA, tA⟩
        have c1' := (sA.below.trans (Below.refl _ _))
        clear CA
        have c2 : wA.cell? ⟨g', o + k * 2 + 1, none⟩ = some (.string x) := by
          rcases HI.out with q | ⟨g2, o2, e2, lt, hc⟩
          · rw [q] at hlt; exact absurd hlt (by simp)
          · injection e2 with e2
            injection e2 with e2 e3
            subst e2 e3
            have e4 := (st.out.below.cell (p := ⟨g', o + k * 2 + 1, none⟩) lt)
            rw [(sA.below.cell (p := ⟨g', o + k * 2 + 1, none⟩) lt), ← e4]; exact c1
        go_wp2_with fail
        refine (CB _ _ sA).mono ?_
        rintro e wB ⟨y, rfl, hy, sB, kB⟩
        have v0 := CV wB wB a (kB _ _ tA) y hy ca rfl
        have SB := hide sB
        have L3 := hide l3
        obtain ⟨len, hlen⟩ : ∃ len, len = (joinL (ps'.map lst)).length := ⟨_, rfl⟩
        have DL := hide hlen
        have KH' := KH _ _ _ sB
        have KB' := KB _ _ _ sB (by omega) l3
        rw [← hlen] at KH'
        clear CB CV tA kB hy sA sB c1' KH KB l3 hlen
        go_wp2_with fail
        refine KH'.mono ?_
        rintro e vH ⟨rfl, rfl⟩
        go_wp2_with fail
        refine KB'.mono ?_
        rintro e vB ⟨z, rfl, hz, rfl⟩
        have zs : z.size = len := by rw [DL.out, ← hz, lst_len]
        clear hz KH' KB'
        go_wp2_with fail
        go_roundw
        case rel => exact ⟨k + 1, ps', by omega, by go_num, I2.out, SB.out⟩
        case measure => first | (simp [intOf]; done) | (simp [intOf]; omega)
    · obtain rfl : k = ops.length := by omega
      have BL := hide st.out.below
      go_wp2
      go_returns
      exact ⟨rfl, BL.out⟩
set_option maxRecDepth 100000 in
set_option maxHeartbeats 4000000 in
theorem packs_bad (n : Int) (hn : n < 1 ∨ 65536 < n) (A : Option Addr) (m c : Nat) (w : World) :
    Calls Try.prog 3 #[.int .i64 n, .slice A m c] w fun e w' => e = .returned (.bool true) ∧ Below w.heap.size w w' := by
  have k1 := newp_bad n hn w
  have k2 := rnewp_bad n hn w
  clear hn
  go_enter Try.func3, Try.ntmps3
  go_wp2_with fail
  refine k1.mono ?_
  rintro e w1 ⟨rfl, rfl⟩
  go_wp2_with fail
  refine k2.mono ?_
  rintro e w2 ⟨rfl, b2⟩
  have W3 : Below w.heap.size w (w2.alloc (.cells #[.int .i64 0, .slice none 0 0] 29)) := b2.alloc b2.size _
  clear k1 k2
  go_wp2_with fail
  refine (alive5 _).mono ?_
  rintro e w3 ⟨rfl, b3⟩
  go_wp2_with fail
  go_returns
  exact ⟨rfl, W3.trans (b3.mono W3.size)⟩
theorem law_WirePacks (n : Int) (A : Option Addr) (c : Nat) (ops : List (Bool × ByteArray)) (wf : (Lit.int .i64 n).wf = true) (hs : ∀ q ∈ ops, q.2.size ≤ 1048576) (hl : ops.length ≤ 1048576) (w : World) (hi : IsOps w A ops) :
    Calls Try.prog 3 #[.int .i64 n, .slice A ops.length c] w fun e w' => e = .returned (.bool true) ∧ Below w.heap.size w w' := by
  by_cases h : n < 1 ∨ 65536 < n
  · exact packs_bad n h A _ c w
  · exact packs_ok n (by omega) (by omega) A c ops w hi hs hl
open Go.ChangeShapes Go.WideShapes Go.Deep in
/-- A script as it is read. -/
theorem isOps_of {H : Type} {enc : TypeId × Value → H} {P : Program} {w : World} {base : Nat} {spare : Nat → Bool} {held : Bool} {n : Nat} {t e : TypeId} {f0 f1 : Field} {v : Value} {y : DataW H × List MemPlace}
    (ht : P.underlying t = some (.slice e)) (he : P.underlying e = some (.struct #[f0, f1])) (ce : P.cellsOf e = 2) (o0 : f0.offset = 0) (o1 : f1.offset = 1) (c0 : P.cellsOf f0.type = 1) (c1 : P.cellsOf f1.type = 1)
    (u0 : P.underlying f0.type = some .bool) (u1 : P.underlying f1.type = some .string) (h : DataW.trod enc P w base spare held n t [v] = some y) :
    ∃ a c ops, v = .slice a (List.length ops) c ∧ IsOps w a ops ∧ (ops = [] ∨ ∃ sp, y.1 = .slice (ops.map fun q : Bool × ByteArray => .agg [.lit (.bool q.1), .lit (.string q.2.data.toList)]) sp) := by
  rcases open_slice_pairs ht he ce o0 o1 c0 c1 h with ⟨hcs, _⟩ | ⟨x, len, cap, m, k, V0, V1, D0, D1, P0, P1, hcs, _, hl, hm, hmm, hx, hcell⟩
  · simp at hcs
    exact ⟨none, 0, [], hcs, .inl rfl, .inl rfl⟩
  · simp at hcs
    have lm : len ≤ m := by rw [hmm]; split <;> omega
    have each : ∀ i, i < len → ∃ q : Bool × ByteArray, w.cell? (x.add (i * 2)) = some (.bool q.1) ∧ w.cell? (x.add (i * 2 + 1)) = some (.string q.2) ∧ D0 i = .lit (.bool q.1) ∧ D1 i = .lit (.string q.2.data.toList) := by
      intro i hi
      obtain ⟨d0, d1, t0, t1⟩ := hcell i (by omega)
      obtain ⟨b, e0, g0⟩ := DataW.trod_bool u0 t0
      obtain ⟨s, e1, g1, _⟩ := DataW.trod_string u1 t1
      simp only [List.cons.injEq, and_true] at e0 e1
      simp only [Prod.mk.injEq] at g0 g1
      exact ⟨(b, s), by rw [d0, e0], by rw [d1, e1], g0.1, g1.1⟩
    let F : Nat → Bool × ByteArray := fun i => if hi : i < len then (each i hi).choose else (false, ByteArray.empty)
    have hF : ∀ i, i < len → w.cell? (x.add (i * 2)) = some (.bool (F i).1) ∧ w.cell? (x.add (i * 2 + 1)) = some (.string (F i).2) ∧ D0 i = .lit (.bool (F i).1) ∧ D1 i = .lit (.string (F i).2.data.toList) := by
      intro i hi
      have e : F i = (each i hi).choose := dif_pos hi
      rw [e]
      exact (each i hi).choose_spec
    have lF : ((List.range len).map F).length = len := by simp
    refine ⟨some x, cap, (List.range len).map F, by rw [lF]; exact hcs, ?_, ?_⟩
    · rcases Nat.eq_zero_or_pos len with rfl | hpos
      · exact .inl (by simp)
      · have g0 := (hF 0 hpos).1
        obtain ⟨b, off, spot⟩ := x
        have hspot : spot = none := by simpa [Addr.add] using World.cell?_spot g0
        subst hspot
        have blt : b < w.heap.size := by
          rw [add_plain] at g0
          rcases Nat.lt_or_ge b w.heap.size with hlt | hge
          · exact hlt
          · unfold World.cell? at g0; simp [Array.getElem?_eq_none hge] at g0
        refine .inr ⟨b, off, rfl, blt, fun i hi => ?_⟩
        rw [lF] at hi
        obtain ⟨g1, g2, _⟩ := hF i hi
        rw [add_plain] at g1 g2
        rw [List.getElem_map, List.getElem_range]
        exact ⟨g1, g2⟩
    · right
      have eq : ((List.range len).map fun i => (.agg [D0 i, D1 i] : DataW H)) = ((List.range len).map F).map fun q : Bool × ByteArray => .agg [.lit (.bool q.1), .lit (.string q.2.data.toList)] := by
        rw [List.map_map]
        apply List.map_congr_left
        intro i hi
        obtain ⟨_, _, g3, g4⟩ := hF i (List.mem_range.1 hi)
        simp only [Function.comp, g3, g4]
      exact ⟨_, by rw [hx, eq]⟩
end Go.Proofs.Ythaphijkfedihaa

