/- name: the reader's class. -/
import Derived.Test.YtagahoelojfhcaaDoorNrd
import Derived.Test.YtagahoelojfhcaaDoorBytes
import Derived.Laws.Cells
import Derived.Laws.IdiomStrings
namespace Go.Proofs.YtagahoelojfhcaaDoor
set_option linter.unusedVariables false
set_option linter.unusedSimpArgs false
open Go.RowKit W
def rowB (l : List UInt8) : List Value := l.map fun x => .int .u8 (x.toNat : Int)
theorem rowB_len (l : List UInt8) : (rowB l).length = l.length := by simp [rowB]
theorem rowB_app (l m : List UInt8) : rowB (l ++ m) = rowB l ++ rowB m := by simp [rowB]
theorem rowB_one (l : List UInt8) : ∀ u ∈ rowB l, u.oneCell' = true := by
  intro u hu
  obtain ⟨x, _, rfl⟩ := List.mem_map.1 hu
  rfl
theorem Upd.set_new {B : Nat} {T : List TypeId} {a b : World} (h : Upd B T a b) {p : Addr} (hp : a.heap.size ≤ p.block) (u : Value) : Upd B T a (b.setCell p u) :=
  ⟨h.os, h.tape, h.output, by simpa [World.setCell] using h.size, fun k hk hc => (Below.heap_setCell b p u k (by omega)).trans (h.block k hk hc)⟩
theorem Go1.set_new {a b : World} {rb i : Nat} {s : ByteArray} (h : Go1 a b rb s i) (l : rb < a.heap.size) {p : Addr} (hp : a.heap.size ≤ p.block) (u : Value) : Go1 a (b.setCell p u) rb s i :=
  ⟨⟨(Below.heap_setCell b p u rb (by omega)).trans h.rd.blk, h.rd.le⟩, h.upd.set_new hp u⟩
def bitsA (f : Nat → Bool) : List Value := (List.range 128).map fun i => Value.bool (f i)
theorem bitsA_at (f : Nat → Bool) (i : Nat) (h : i < 128) : (bitsA f)[i]? = some (.bool (f i)) := by simp [bitsA, h]
theorem bitsA_len (f : Nat → Bool) : (bitsA f).length = 128 := by simp [bitsA]
theorem bitsA_set (f g : Nat → Bool) (i : Nat) (h : i < 128) (hg : ∀ j, j < 128 → g j = (f j || decide (j = i))) : (bitsA f).set i (.bool true) = bitsA g := by
  apply List.ext_getElem?
  intro j
  rw [List.getElem?_set, bitsA_len]
  by_cases e : i = j
  · subst e
    rw [if_pos rfl, if_pos h, bitsA_at g i h, hg i h]; simp
  · rw [if_neg e]
    by_cases hj : j < 128
    · rw [bitsA_at f j hj, bitsA_at g j hj, hg j hj]; simp [Ne.symm e]
    · rw [List.getElem?_eq_none (by rw [bitsA_len]; omega), List.getElem?_eq_none (by rw [bitsA_len]; omega)]
/-- The array of a class's bytes. -/
def Bits (w : World) (b : Nat) (f : Nat → Bool) : Prop := w.heap[b]? = some (.cells (bitsA f).toArray 75 (0, 0))
theorem Bits.at {w : World} {b : Nat} {f : Nat → Bool} (h : Bits w b f) (i : Nat) (hi : i < 128) : w.cell? ⟨b, i, none⟩ = some (.bool (f i)) := by
  unfold Bits at h
  simp [World.cell?, h, bitsA_at f i hi]
theorem Bits.free {w : World} {b : Nat} {f : Nat → Bool} (h : Bits w b f) (i : Nat) : w.frozen? ⟨b, i, none⟩ = false := by
  unfold Bits at h
  simp [World.frozen?, h]
theorem Bits.upd {B : Nat} {T : List TypeId} {w w' : World} {b : Nat} {f : Nat → Bool} (h : Bits w b f) (u : Upd B T w w') (ht : 75 ∉ T) : Bits w' b f := u.blk h ht
theorem Bits.put {w : World} {b : Nat} {f g : Nat → Bool} (h : Bits w b f) (i : Nat) (hi : i < 128) (hg : ∀ j, j < 128 → g j = (f j || decide (j = i))) : Bits (w.setCell ⟨b, i, none⟩ (.bool true)) b g := by
  unfold Bits at *
  rw [← bitsA_set f g i hi hg]
  simp [World.setCell, Array.getElem?_modify, h]
theorem Bits.load {w : World} {b : Nat} {f : Nat → Bool} (h : Bits w b f) : Sem.run Tryd.prog (loadCellsFrom ⟨b, 0, none⟩ 0 128 #[]) w = .ok (bitsA f).toArray w := by
  have := run_loadCells_list (P := Tryd.prog) (w := w) ⟨b, 0, none⟩ (bitsA f) (fun j v hj => by
    rw [Go.WideShapes.add_plain, Nat.zero_add]
    have hl := (List.getElem?_eq_some_iff.1 hj).1
    rw [bitsA_len] at hl
    rw [h.at j hl, ← hj, bitsA_at f j hl])
  rw [bitsA_len] at this
  simpa [loadCells] using this
theorem idx_bits (f : Nat → Bool) (n : Nat) (h : n < 128) (w : World) : (Instr.index 75 (.agg (bitsA f).toArray) (.int .i64 (n : Int))).run Tryd.prog w = .ok (.bool (f n)) w := by
  have a : ∀ w : World, (isAgg 4).run Tryd.prog w = .ok false w := fun w => by kernel_rfl
  have z : ∀ w : World, (Go.sizeOf 4).run Tryd.prog w = .ok 1 w := fun w => by kernel_rfl
  have e : (bitsA f).toArray[n]? = some (.bool (f n)) := by simp [bitsA_at f n h]
  simp only [List.getElem?_toArray] at e
  have hn : 0 ≤ (n : Int) ∧ (n : Int) < ((128 : Nat) : Int) := by omega
  simp [Instr.index, run_underlying Tryd.underlying75, asIntOf, hn.1, hn.2, go_sem, part, a, z, e]
  omega
/-- A result's box, still empty. -/
def Zero3 (w : World) (b : Nat) : Prop := w.heap[b]? = some (.cells #[.int .i64 0, .string ⟨#[]⟩, .slice none 0 0] 34 (0, 0))
theorem Zero3.upd {B : Nat} {T : List TypeId} {w w' : World} {b : Nat} (h : Zero3 w b) (u : Upd B T w w') (ht : 34 ∉ T) : Zero3 w' b := u.blk h ht
theorem Zero3.cells {w : World} {b : Nat} (h : Zero3 w b) : w.cell? ⟨b, 0, none⟩ = some (.int .i64 0) ∧ w.cell? ⟨b, 1, none⟩ = some (.string ⟨#[]⟩) ∧ w.cell? ⟨b, 2, none⟩ = some (.slice none 0 0) ∧ (∀ o, w.frozen? ⟨b, o, none⟩ = false) ∧ b < w.heap.size := by
  unfold Zero3 at h
  exact ⟨by simp [World.cell?, h], by simp [World.cell?, h], by simp [World.cell?, h], fun o => by simp [World.frozen?, h], blk_lt h⟩
theorem Go1.grown_new {a b c : World} {rb i : Nat} {s : ByteArray} {row : Option Nat} (h : Go1 a b rb s i) (l : rb < a.heap.size) (g : b.grownBy c row) (hr : ∀ k, row = some k → a.heap.size ≤ k) : Go1 a c rb s i :=
  ⟨⟨(g.block rb h.rd.lt (fun e => by have := hr rb e.symm; omega)).trans h.rd.blk, h.rd.le⟩, h.upd.grown_new g hr⟩
theorem bit_step (f : Nat → Bool) (x n q : Nat) (h : x ≤ n) : (f q || (decide (x ≤ q) && decide (q < n + 1))) = ((f q || (decide (x ≤ q) && decide (q < n))) || decide (q = n)) := by
  rw [Bool.eq_iff_iff]; simp only [Bool.or_eq_true, Bool.and_eq_true, decide_eq_true_eq]; cases f q <;> simp <;> omega
theorem bit_none (f : Nat → Bool) (x : Nat) : (fun i => f i || (decide (x ≤ i) && decide (i < x))) = f := by
  funext i
  rw [show (decide (x ≤ i) && decide (i < x)) = false by rw [Bool.and_eq_false_iff]; simp; omega, Bool.or_false]
theorem bit_all (acc : List (UInt8 × UInt8)) (lo hi : UInt8) : (fun i => inB acc i || (decide (lo.toNat ≤ i) && decide (i < hi.toNat + 1))) = inB (acc ++ [(lo, hi)]) := by
  funext i
  unfold inB
  rw [List.any_append]
  simp [Nat.lt_succ_iff]
/-- A class's bytes below n. -/
def txtN (rs : List (UInt8 × UInt8)) (n : Nat) : List UInt8 := ((List.range n).filter (inB rs)).map UInt8.ofNat
theorem txtN_yes (rs : List (UInt8 × UInt8)) (n : Nat) (h : inB rs n = true) : txtN rs (n + 1) = txtN rs n ++ [UInt8.ofNat n] := by simp [txtN, List.range_succ, h]
theorem txtN_no (rs : List (UInt8 × UInt8)) (n : Nat) (h : inB rs n = false) : txtN rs (n + 1) = txtN rs n := by simp [txtN, List.range_succ, h]
theorem txtN_len (rs : List (UInt8 × UInt8)) (n : Nat) : (txtN rs n).length ≤ n := by
  unfold txtN
  rw [List.length_map]
  exact Nat.le_trans (List.length_filter_le _ _) (by simp)
theorem conv_own {B : Nat} {w : World} {v : Value} {l : List UInt8} (h : w.ownsRow B 5 1 v l.length (rowB l)) : (convert 78 9 v).run Tryd.prog w = .ok (.string ⟨l.toArray⟩) w := by
  obtain ⟨hl, ⟨rfl, hn⟩ | ⟨g, cap, cur, rfl, hb, hh, hnc, hcm, hs, ht⟩⟩ := h
  · obtain rfl := List.length_eq_zero_iff.1 hn
    rw [run_convert_bytes_string w 78 9 5 none 0 0 Tryd.underlying78 Tryd.underlying5 Tryd.underlying9]
    rfl
  · exact run_convert_bytes_back w 78 9 5 ⟨g, 0, none⟩ cap l Tryd.underlying78 Tryd.underlying5 Tryd.underlying9 (fun j hj => by
      rw [Go.WideShapes.add_plain, Nat.zero_add, cell_of_row w g j cur _ _ hh]
      have : (rowB l)[j]? = some (.int .u8 (l[j].toNat : Int)) := by simp [rowB, hj]
      rw [← ht, List.getElem?_take] at this
      split at this
      · simpa using this
      · cases this)
theorem info_byte : (Tryd.prog.info? 5).map (fun i => (i.zero, i.size, i.bytes)) = some (some (.int .u8 0), 1, 1) := by kernel_rfl
theorem one_byt {x : Int} : ∀ u ∈ [Value.int .u8 x], u.oneCell' = true := by intro u hu; rw [List.mem_singleton] at hu; subst hu; rfl
theorem new2 (w : World) (a b : Obj) : ((w.alloc a).alloc b).heap[w.heap.size + 1]? = some b := by
  have := heap_alloc_new (w.alloc a) b
  rwa [show (w.alloc a).heap.size = w.heap.size + 1 by simp] at this
theorem new1 (w : World) (a b : Obj) : ((w.alloc a).alloc b).heap[w.heap.size]? = some a := by
  have h : w.heap.size < (w.alloc a).heap.size := by simp
  exact (((Below.refl _ _).alloc (Nat.le_refl _) b : Below (w.alloc a).heap.size (w.alloc a) ((w.alloc a).alloc b)).block _ h).trans (heap_alloc_new w a)
def classV : Option (List (UInt8 × UInt8)) → Value
  | none => .tuple #[.agg #[.int .i64 0, .string ⟨#[]⟩, .slice none 0 0], .int .i64 31]
  | some rs => .tuple #[.agg #[.int .i64 4, .string ⟨(clsT rs).toArray⟩, .slice none 0 0], .int .i64 0]
def ClassPost (w : World) (rb i : Nat) (s : ByteArray) (e : Ending) (w' : World) : Prop := e = .returned (classV (classA s (s.size + 1) i []).2) ∧ Go1 w w' rb s (classA s (s.size + 1) i []).1
set_option maxRecDepth 100000 in
set_option maxHeartbeats 8000000 in
theorem rclass_spec {w : World} {rb i : Nat} {s : ByteArray} (h : Rd w rb s i) (hs : s.size ≤ 400) : Calls Tryd.prog 32 #[.pointer (some ⟨rb, 0, none⟩)] w (ClassPost w rb i s) := by
  obtain ⟨E, hE⟩ : ∃ E, classA s (s.size + 1) i [] = E := ⟨_, rfl⟩
  have HP : Hid (∀ e w', e = .returned (classV E.2) → Go1 w w' rb s E.1 → ClassPost w rb i s e w') := by
    intro e w' h1 h2; unfold ClassPost; rw [hE]; exact ⟨h1, h2⟩
  have HE := hide hE
  clear hE
  have HS := hide hs
  have H := hide h
  have le := h.le
  have lr := h.lt
  clear h
  go_enter Tryd.func32, Tryd.ntmps32
  go_wp2_with fail
  go_loopg [] (s.size - i) (fun k wr => ∃ (j f : Nat) (acc : List (UInt8 × UInt8)), j + k = s.size ∧ s.size < f + j ∧ Go1 w wr rb s j ∧ Bits wr (w.heap.size + 1) (inB acc) ∧ Zero3 wr w.heap.size ∧ Hid (classA s f j acc = E))
  case atStart =>
    refine ⟨i, s.size + 1, [], by omega, by omega, (Go1.refl H.out).later ((Below.refl _ _).alloc (Nat.le_refl _) _ |>.alloc (by simp) _), ?_, ?_, HE⟩
    · unfold Bits
      rw [show (bitsA (inB [])).toArray = Tryd.zeroCells75 by kernel_rfl]
      exact new2 _ _ _
    · exact new1 _ _ _
  case round =>
    obtain ⟨j, f, acc, hj, hf, g, B, Z, D⟩ := hrel
    have G := hide g
    have BB := hide B
    have ZZ := hide Z
    have ki := item_spec g.rd hs
    have jl := g.rd.le
    have sz := g.upd.size
    clear g H HE B Z
    obtain ⟨⟨j', r⟩, hr⟩ : ∃ q, itemA s j = q := ⟨_, rfl⟩
    go_wp2_with fail
    refine Calls.mono ki ?_
    rintro e w1 ⟨he, g1⟩
    rw [hr] at g1 he
    have G1 := hide (G.out.trans g1)
    have B1 := hide (BB.out.upd g1.upd (by decide))
    have Z1 := hide (ZZ.out.upd g1.upd (by decide))
    clear g1 ki
    obtain ⟨z0, z1, z2, zf, zl⟩ := Z1.out.cells
    have zf0 := zf 0
    have zf1 := zf 1
    have zf2 := zf 2
    clear zf
    cases r with
    | none =>
      have F : Hid (E = (j', none)) := by have := D.out; rw [class_bad hf jl hr] at this; exact this.symm
      clear D hr
      simp only [itemV] at he
      subst he
      go_wp2_with fail
      refine bodyPost_ret (by simp [results, Tryd.results32, go_sem, z0, z1, z2]; try rfl) rfl ?_
      exact HP.out _ _ (by rw [F.out]; rfl) (by rw [F.out]; exact ((G1.out.set_new lr (by simp) _).set_new lr (by simp) _).set_new lr (by simp) _)
    | some r =>
      obtain ⟨lo, hi⟩ := r
      obtain ⟨p1, p2, p3, p4, p5⟩ := item_pos hr
      simp only at p3 p4 p5
      have HR := hide hr
      have PP := hide p3
      obtain ⟨x, hx⟩ : ∃ x, lo.toNat = x := ⟨_, rfl⟩
      obtain ⟨y, hy⟩ : ∃ y, hi.toNat = y := ⟨_, rfl⟩
      rw [hx, hy] at p4
      rw [hy] at p5
      have HX := hide hx
      have HY := hide hy
      simp only [itemV, hx, hy] at he
      subst he
      clear hr p3 hx hy z0 z1 z2 zf0 zf1 zf2 zl
      go_wp2_with fail
      go_loopw [8] (fun b w2 => ∃ n, x ≤ n ∧ n ≤ y + 1 ∧ b = .int .u8 (n : Int) ∧ Go1 w w2 rb s j' ∧ Bits w2 (w.heap.size + 1) (fun i => inB acc i || (decide (x ≤ i) && decide (i < n))) ∧ Zero3 w2 w.heap.size) (fun b _ => 256 - (intOf b).toNat)
      case atStart => exact ⟨x, by omega, by omega, rfl, G1.out, by rw [bit_none]; exact B1.out, Z1.out⟩
      case round =>
        obtain ⟨n, n1, n2, rfl, g2, b2, z2⟩ := hrel
        have G2 := hide g2
        have B2 := hide b2
        have Z2 := hide z2
        by_cases hn : n ≤ y
        · have c := b2.at n (by omega)
          have cf := b2.free n
          have ql := blk_lt b2
          clear g2 b2 z2
          go_wp2_with fail
          go_roundw
          case rel => exact ⟨n + 1, by omega, by omega, by go_num, G2.out.set_new lr (by simp) _, B2.out.put n (by omega) (fun q hq => bit_step _ _ _ _ n1), Z2.out.upd ((Upd.refl w.heap.size [75] _).set B2.out (by simp) (by simp) _) (by decide)⟩
          case measure => simp [intOf]; omega
        · obtain rfl : n = y + 1 := by omega
          have B3 : Hid (Bits wr (w.heap.size + 1) (inB (acc ++ [(lo, hi)]))) := by
            have := B2.out; rw [← HX.out, ← HY.out, bit_all] at this; exact this
          have kn := next_spec g2.rd hs
          clear g2 b2 z2 B2
          obtain ⟨z, hz⟩ : ∃ z, ((nx s j').toNat : Int) = z := ⟨_, rfl⟩
          rw [hz] at kn
          have HZ := hide hz
          clear hz
          go_wp2_with fail
          refine kn.mono ?_
          rintro e w3 ⟨rfl, n3, rfl⟩
          by_cases zz : z = 93
          · subst zz
            have m : nx s j' = 93 := UInt8.toNat_inj.1 (show (nx s j').toNat = 93 by have := HZ.out; omega)
            have F : Hid (E = (j' + 1, some (acc ++ [(lo, hi)]))) := by have := D.out; rw [class_end hf jl HR.out m] at this; exact this.symm
            have jl2 : j' < s.size := lt_of_nx (by rw [m]; decide)
            have c1 := G2.out.rd.c1
            have f1 := G2.out.rd.f1
            obtain ⟨rs, hrs⟩ : ∃ rs, rs = acc ++ [(lo, hi)] := ⟨_, rfl⟩
            rw [← hrs] at B3 F
            have B4 : Hid (Bits ((wr.drewN n3).setCell ⟨rb, 1, none⟩ (.int .i64 ((j' : Int) + 1))) (w.heap.size + 1) (inB rs)) := by
              refine Bits.upd B3.out (((Upd.of_below (below_drewN (Below.refl _ _) n3) : Upd rb [44] wr (wr.drewN n3))).trans ((G2.out.drewN n3).rd.chg _)) (by decide)
            have Z4 : Hid (Zero3 ((wr.drewN n3).setCell ⟨rb, 1, none⟩ (.int .i64 ((j' : Int) + 1))) w.heap.size) := by
              refine Zero3.upd Z2.out (((Upd.of_below (below_drewN (Below.refl _ _) n3) : Upd rb [44] wr (wr.drewN n3))).trans ((G2.out.drewN n3).rd.chg _)) (by decide)
            have HI : Hid ((Tryd.prog.info? 75).map (·.size) = some (bitsA (inB rs)).toArray.size) := by show _ = _; rw [List.size_toArray, bitsA_len]; kernel_rfl
            clear D HR hrs hf hj jl
            go_upto_region 12 with (fail)
            refine abs_wp (fun W => Hid (Go1 w W rb s (j' + 1)) ∧ Hid (Zero3 W w.heap.size) ∧ Hid (Bits W (w.heap.size + 1) (inB rs))) ⟨(G2.out.drewN n3).put (j' + 1) jl2 (by omega), Z4.out, B4.out⟩ ?_
            rintro W4 ⟨G4, Z5, B5⟩
            clear Z4 B4 G2 B3 Z2 c1 f1
            go_wp2_with fail
            refine wp_load_row 75 (.tmp 4) rfl (w.heap.size + 1) rfl 75 (bitsA (inB rs)).toArray (0, 0) _ B5.out Tryd.underlying75 rfl HI.out ?_
            go_wp2_with fail
            go_loopw [9, 41] (fun tv k w5 => ∃ n : Nat, n ≤ 128 ∧ k = .int .i64 (n : Int) ∧ Hid (w5.ownsRow w.heap.size 5 1 tv (txtN rs n).length (rowB (txtN rs n))) ∧ Hid (Go1 w w5 rb s (j' + 1)) ∧ Hid (Zero3 w5 w.heap.size)) (fun _ k _ => 128 - (intOf k).toNat)
            case atStart => exact ⟨0, by omega, rfl, World.ownsRow_nil _ _ _ _, G4.out, Z5.out⟩
            case round =>
              obtain ⟨n, hn, rfl, O5, G5, Z6⟩ := hrel
              by_cases hlt : n < 128
              · have ib := idx_bits (inB rs) n hlt
                cases hq : inB rs n
                · rw [hq] at ib
                  have O6 : Hid (wr.ownsRow w.heap.size 5 1 u9 (txtN rs (n + 1)).length (rowB (txtN rs (n + 1)))) := by rw [txtN_no rs n hq]; exact O5.out
                  clear hq
                  go_wp2_with fail
                  go_roundw
                  case rel => exact ⟨n + 1, by omega, by go_num, O6, G5, Z6⟩
                  case measure => simp [intOf]; omega
                · rw [hq] at ib
                  have TY := hide (txtN_yes rs n hq)
                  have tl := txtN_len rs n
                  have c3 : (txtN rs n).length + 1 ≤ maxLen := by unfold maxLen; omega
                  have e8 : ((UInt8.ofNat n).toNat : Int) = (n : Int) := by rw [UInt8.toNat_ofNat']; omega
                  have E8 := hide e8
                  have sz5 := G5.out.upd.size
                  obtain ⟨i0, hi0, hz0, hz1, hz2⟩ := info_parts info_byte
                  have HI2 : Hid (Tryd.prog.info? 5 = some i0 ∧ i0.zero = some (.int .u8 0) ∧ i0.size = 1 ∧ i0.bytes = 1) := ⟨hi0, hz0, hz1, hz2⟩
                  clear hi0 hz0 hz1 hz2 hq e8
                  go_wp2_with (
                    at_builtin
                    refine wpList_append_own _ rfl _ _ 78 rfl w.heap.size 5 i0 (.int .u8 0) 1 1 Tryd.underlying78 HI2.out.1 HI2.out.2.1 HI2.out.2.2.1 HI2.out.2.2.2 ?a1 ?a2 u9 (txtN rs n).length (rowB (txtN rs n)) ?a3 ?a4 ⟨wr.heap.size, 0, none⟩ 1 1 [.int .u8 (n : Int)] ?a5 ?a6 ?a7 ?a8 ?a9 ?b1 ?b2 ?_
                    case a1 => rfl
                    case a2 => decide
                    case a3 => rfl
                    case a4 => exact O5.out.alloc _
                    case a5 => rfl
                    case a6 => rfl
                    case a7 => exact cell_one_new _ _ _
                    case a8 => exact one_byt
                    case a9 => exact c3
                    case b1 => omega
                    case b2 => (simp; omega)
                    intro v' w1 hown' hgrow hnil)
                  go_roundw
                  case rel => exact ⟨n + 1, by omega, by go_num, hide (by
                    rw [TY.out, List.length_append, rowB_app]
                    have : rowB [UInt8.ofNat n] = [.int .u8 (n : Int)] := by show [Value.int .u8 ((UInt8.ofNat n).toNat : Int)] = _; rw [E8.out]
                    rw [this]; exact hown'), hide ((G5.out.later ((Below.refl _ _).alloc (Nat.le_refl _) _)).grown_new lr hgrow (fun k hk => (O5.out.lt k hk).1)), hide (Zero3.upd Z6.out ((Upd.of_below ((Below.refl _ _).alloc (Nat.le_refl _) _)).trans (Upd.of_grown (O5.out.alloc _) hgrow)) (by decide))⟩
                  case measure => simp [intOf]; omega
              · obtain rfl : n = 128 := by omega
                have cv := conv_own O5.out
                obtain ⟨z0, z1, z2, zf, zl⟩ := Z6.out.cells
                have zf0 := zf 0
                have zf1 := zf 1
                have zf2 := zf 2
                clear zf
                go_wp2_with fail
                refine bodyPost_ret (by simp [results, Tryd.results32, go_sem, z0, z1, z2]; try rfl) rfl ?_
                exact HP.out _ _ (by rw [F.out]; rfl) (by rw [F.out]; exact ((G5.out.set_new lr (by simp) _).set_new lr (by simp) _).set_new lr (by simp) _)
          · have n93 : (z == 93) = false := by rw [beq_eq_false_iff_ne]; exact zz
            have m : nx s j' ≠ 93 := fun q => zz (by have := HZ.out; rw [q] at this; exact this.symm)
            obtain ⟨f', hf', hst⟩ := class_step hf jl HR.out m
            have D2 : Hid (classA s f' j' (acc ++ [(lo, hi)]) = E) := by have := D.out; rw [hst] at this; exact this
            clear D m hst HR zz
            go_wp2_with fail
            go_roundg (s.size - j')
            case measure => omega
            case rel => exact ⟨j', f', acc ++ [(lo, hi)], by omega, hf', G2.out.drewN _, B3.out, Z2.out, D2⟩
end Go.Proofs.YtagahoelojfhcaaDoor
