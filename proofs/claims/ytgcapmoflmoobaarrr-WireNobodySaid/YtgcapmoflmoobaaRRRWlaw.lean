/- WireSplits, WireNobody: the laws' walks. (gen_wlaw.py) -/
import Derived.Test.YtgcapmoflmoobaaRRRRspl
import Derived.Lib.SmallJoins
namespace Go.Proofs.YtgcapmoflmoobaaRRR
set_option linter.unusedVariables false
set_option linter.unusedSimpArgs false
open Go.RowKit W
set_option maxRecDepth 100000 in
set_option maxHeartbeats 8000000 in
theorem alive5 (w : World) : Calls Try.prog 13 #[] w fun e w' => e = .returned (.bool true) ∧ Below w.heap.size w w' := by
  have iB : ∀ w : World, IsBytes (w.alloc (.cells #[.int .u8 97, .int .u8 58, .int .u8 49, .int .u8 124, .int .u8 99, .int .u8 13, .int .u8 10, .int .u8 10, .int .u8 98] 5 (9, 10))) (some ⟨w.heap.size, 0, none⟩) [97, 58, 49, 124, 99, 13, 10, 10, 98] := by
    intro w
    refine .inr ⟨_, 0, rfl, by simp, fun j hj => ?_⟩
    match j, hj with
    | 0, _ => simp [go_sem, World.cell?_alloc_mark]
    | 1, _ => simp [go_sem, World.cell?_alloc_mark]
    | 2, _ => simp [go_sem, World.cell?_alloc_mark]
    | 3, _ => simp [go_sem, World.cell?_alloc_mark]
    | 4, _ => simp [go_sem, World.cell?_alloc_mark]
    | 5, _ => simp [go_sem, World.cell?_alloc_mark]
    | 6, _ => simp [go_sem, World.cell?_alloc_mark]
    | 7, _ => simp [go_sem, World.cell?_alloc_mark]
    | 8, _ => simp [go_sem, World.cell?_alloc_mark]
  have k := fun w => split_spec _ _ 9 _ (iB w) (by simp) (by simp) (fun e => by cases e)
  have sp : splitL [97, 58, 49, 124, 99, 13, 10, 10, 98] = [[97, 58, 49, 124, 99], [98]] := by decide
  have SP := hide sp
  have b0 : ∀ w : World, Below w.heap.size w (w.alloc (.cells #[.int .u8 97, .int .u8 58, .int .u8 49, .int .u8 124, .int .u8 99, .int .u8 13, .int .u8 10, .int .u8 10, .int .u8 98] 5 (9, 10))) := fun w => by go_grown
  have cv := fun w : World => Lib.run_convert_bytes_const (P := Try.prog) w 29 5 #[.int .u8 97, .int .u8 58, .int .u8 49, .int .u8 124, .int .u8 99, .int .u8 13, .int .u8 10, .int .u8 10, .int .u8 98] 9 9 Try.underlying29 Try.underlying5
  have cs : (#[.int .u8 97, .int .u8 58, .int .u8 49, .int .u8 124, .int .u8 99, .int .u8 13, .int .u8 10, .int .u8 10, .int .u8 98] : Array Value).size = 9 := rfl
  simp only [cs] at cv
  clear cs
  clear sp iB
  go_enter Try.func13, Try.ntmps13
  go_wp2_with fail
  refine (k _).mono ?_
  intro e w1 hp
  have hp2 := split_post hp
  rw [SP.out] at hp2
  obtain ⟨a, c, ps, rfl, hps, ip, b1⟩ := hp2
  have B1 : Below w.heap.size w w1 := (b0 w).trans (b1.mono (b0 w).size)
  have pe : ps = [⟨#[97, 58, 49, 124, 99]⟩, ⟨#[98]⟩] := by
    match ps, hps with
    | [x, y], h =>
      simp only [List.map_cons, List.map_nil, List.cons.injEq, and_true] at h
      rw [lst_inj (h.1.trans (show _ = lst ⟨#[97, 58, 49, 124, 99]⟩ from rfl)), lst_inj (h.2.trans (show _ = lst ⟨#[98]⟩ from rfl))]
    | [], h => cases h
    | [_], h => simp at h
    | _ :: _ :: _ :: _, h => simp at h
  subst pe
  clear hp hps b1 k b0 SP cv
  have ks := fun W (hW : Below w1.heap.size w1 W) b d (hb : IsTxts W b [⟨#[97, 58, 49, 124, 99]⟩, ⟨#[98]⟩]) => same5_true a b c d [⟨#[97, 58, 49, 124, 99]⟩, ⟨#[98]⟩] W (ip.later hW) hb (by simp)
  have lb : IsTxts (w1.alloc (.cells #[.string ⟨#[97, 58, 49, 124, 99]⟩, .string ⟨#[98]⟩] 9)) (some ⟨w1.heap.size, 0, none⟩) [⟨#[97, 58, 49, 124, 99]⟩, ⟨#[98]⟩] := by
    refine .inr ⟨_, 0, rfl, fun j hj => ?_, by simp⟩
    match j, hj with
    | 0, _ => simp [go_sem]
    | 1, _ => simp [go_sem]
  have ks1 := ks _ (by go_grown) _ 2 lb
  have B2 : Below w.heap.size w (w1.alloc (.cells #[.string ⟨#[97, 58, 49, 124, 99]⟩, .string ⟨#[98]⟩] 9)) := B1.alloc B1.size _
  clear ks lb ip
  go_wp2_with fail
  refine ks1.mono ?_
  rintro e w3 ⟨rfl, b3⟩
  go_wp2_with fail
  go_returns
  exact ⟨rfl, B2.trans (b3.mono B2.size)⟩
theorem txts_eq {ps qs : List ByteArray} (h : ps.map lst = qs.map lst) : ps = qs := by
  induction ps generalizing qs with
  | nil => cases qs with | nil => rfl | cons _ _ => cases h
  | cons x r ih =>
    cases qs with
    | nil => cases h
    | cons y t =>
      simp only [List.map_cons, List.cons.injEq] at h
      rw [lst_inj h.1, ih h.2]
theorem splits_len (l : List UInt8) : (splitL l).length ≤ l.length + 1 := by
  unfold splitL
  refine Nat.le_trans (List.length_filter_le _ _) ?_
  rw [List.length_map]
  exact cutL_len 10 l []
set_option maxRecDepth 100000 in
set_option maxHeartbeats 4000000 in
theorem law_WireSplits (a : Option Addr) (c : Nat) (l : List UInt8) (hl : l.length ≤ 4000000000000) (hc : l.length ≤ c) (hn : a = none → l.length = 0 ∧ c = 0) (w : World) (h : IsBytes w a l) :
    Calls Try.prog 4 #[.slice a l.length c] w fun e w' => e = .returned (.bool true) ∧ Below w.heap.size w w' := by
  have k1 := split_spec a l c w h (by omega) hc hn
  have k2 := fun W (hW : Below w.heap.size w W) => rsplit_spec a l c W (h.later hW) hl
  have HL := hide (splits_len l)
  have HB := hide hl
  obtain ⟨T, hT⟩ : ∃ T, T = splitL l := ⟨_, rfl⟩
  have k1' : Calls Try.prog 11 #[.slice a l.length c] w (TxtsPost T w) := by rw [hT]; exact k1.mono fun e w' hp => split_post hp
  rw [← hT] at k2 HL
  obtain ⟨n, hnn⟩ : ∃ n, n = l.length := ⟨_, rfl⟩
  rw [← hnn] at k1' k2 HL HB ⊢
  clear hT k1 hl hc hn h hnn
  go_enter Try.func4, Try.ntmps4
  go_wp2_with fail
  refine k1'.mono ?_
  rintro e w1 ⟨a1, c1, ps, rfl, hps, i1, b1⟩
  go_wp2_with fail
  refine (k2 _ b1).mono ?_
  rintro e w2 ⟨a2, c2, qs, rfl, hqs, i2, b2⟩
  obtain rfl : ps = qs := txts_eq (hps.trans hqs.symm)
  have B2 := b1.trans (b2.mono b1.size)
  have ks := same5_true a1 a2 c1 c2 ps w2 (i1.later b2) i2 (by
    have := HL.out; have := HB.out; rw [← hps, List.length_map] at *; omega)
  clear k1' k2 hps hqs i1 i2 b1 b2
  go_wp2_with fail
  refine ks.mono ?_
  rintro e w3 ⟨rfl, b3⟩
  have B3 := B2.trans (b3.mono B2.size)
  clear ks b3 B2
  go_wp2_with fail
  refine (alive5 w3).mono ?_
  rintro e w4 ⟨rfl, b4⟩
  have B4 := B3.trans (b4.mono B3.size)
  go_wp2_with fail
  go_returns
  exact ⟨rfl, B4⟩
/-- A thing that no call made: nil, or its own mark is nil. -/
def RawAt (p : Option Addr) (w : World) : Prop := p = none ∨ ∃ g, p = some ⟨g, 0, none⟩ ∧ w.cell? ⟨g, 0, none⟩ = some (.pointer none)
theorem pmade_raw (p : Option Addr) (w : World) (h : RawAt p w) : CalcN 31 #[.pointer p] w (.bool false) := by
  rcases h with rfl | ⟨g, rfl, hc⟩
  · go_enter Try.func31, Try.ntmps31
    go_wp2
    go_returns
    exact ⟨rfl, rfl⟩
  · have q : ∀ w, (binOp .eql 35 (.pointer none) (.pointer (some ⟨g, 0, none⟩))).run Try.prog w = .ok (.bool false) w := fun _ => by kernel_rfl
    go_enter Try.func31, Try.ntmps31
    go_wp2
    go_returns
    exact ⟨rfl, rfl⟩
theorem smade_raw (p : Option Addr) (w : World) (h : RawAt p w) : CalcN 33 #[.pointer p] w (.bool false) := by
  rcases h with rfl | ⟨g, rfl, hc⟩
  · go_enter Try.func33, Try.ntmps33
    go_wp2
    go_returns
    exact ⟨rfl, rfl⟩
  · have q : ∀ w, (binOp .eql 38 (.pointer none) (.pointer (some ⟨g, 0, none⟩))).run Try.prog w = .ok (.bool false) w := fun _ => by kernel_rfl
    go_enter Try.func33, Try.ntmps33
    go_wp2
    go_returns
    exact ⟨rfl, rfl⟩
theorem padd_raw (p : Option Addr) (s : ByteArray) (w : World) (h : RawAt p w) : CalcN 14 #[.pointer p, .string s] w (.tuple #[.slice none 0 0, .int .i64 4]) := by
  have c := pmade_raw p w h
  clear h
  go_enter Try.func14, Try.ntmps14
  go_wp2_with (go_at_call 31; refine c.mono ?_; rintro e w1 ⟨rfl, rfl⟩)
  go_returns
  exact ⟨rfl, rfl⟩
theorem pflush_raw (p : Option Addr) (w : World) (h : RawAt p w) : CalcN 15 #[.pointer p] w (.slice none 0 0) := by
  have c := pmade_raw p w h
  clear h
  go_enter Try.func15, Try.ntmps15
  go_wp2_with (go_at_call 31; refine c.mono ?_; rintro e w1 ⟨rfl, rfl⟩)
  go_returns
  exact ⟨rfl, rfl⟩
theorem pheld_raw (p : Option Addr) (w : World) (h : RawAt p w) : CalcN 16 #[.pointer p] w (.int .i64 0) := by
  have c := pmade_raw p w h
  clear h
  go_enter Try.func16, Try.ntmps16
  go_wp2_with (go_at_call 31; refine c.mono ?_; rintro e w1 ⟨rfl, rfl⟩)
  go_returns
  exact ⟨rfl, rfl⟩
theorem sfeed_raw (p : Option Addr) (a : Option Addr) (n c : Nat) (w : World) (h : RawAt p w) : CalcN 17 #[.pointer p, .slice a n c] w (.slice none 0 0) := by
  have c := smade_raw p w h
  clear h
  go_enter Try.func17, Try.ntmps17
  go_wp2_with (go_at_call 33; refine c.mono ?_; rintro e w1 ⟨rfl, rfl⟩)
  go_returns
  exact ⟨rfl, rfl⟩
theorem send_raw (p : Option Addr) (w : World) (h : RawAt p w) : CalcN 18 #[.pointer p] w (.string ⟨#[]⟩) := by
  have c := smade_raw p w h
  clear h
  go_enter Try.func18, Try.ntmps18
  go_wp2_with (go_at_call 33; refine c.mono ?_; rintro e w1 ⟨rfl, rfl⟩)
  go_returns
  exact ⟨rfl, rfl⟩
theorem slost_raw (p : Option Addr) (w : World) (h : RawAt p w) : CalcN 19 #[.pointer p] w (.int .i64 0) := by
  have c := smade_raw p w h
  clear h
  go_enter Try.func19, Try.ntmps19
  go_wp2_with (go_at_call 33; refine c.mono ?_; rintro e w1 ⟨rfl, rfl⟩)
  go_returns
  exact ⟨rfl, rfl⟩
set_option maxRecDepth 100000 in
set_option maxHeartbeats 8000000 in
theorem law_WireNobody (a : Option Addr) (n c : Nat) (s : ByteArray) (hs : s.size ≤ maxLen) (w : World) :
    Calls Try.prog 5 #[.slice a n c, .string s] w fun e w' => e = .returned (.bool true) ∧ Below w.heap.size w w' := by
  go_enter Try.func5, Try.ntmps5
  go_wp2_with fail
  obtain ⟨W, hW⟩ : ∃ X, X = (w.alloc (Obj.cells #[.pointer none, .int .i64 0, .slice none 0 0] 37)).alloc (Obj.cells #[.pointer none, .int .i64 0, .slice none 0 0, .bool false, .int .i64 0] 40) := ⟨_, rfl⟩
  have cW0 : W.cell? ⟨w.heap.size, 0, none⟩ = some (.pointer none) := by rw [hW]; first | (simp [go_sem]; done)
  have fW0 : W.frozen? ⟨w.heap.size, 0, none⟩ = false := by rw [hW]; first | (simp [go_sem]; done)
  have zW0 : w.heap.size < W.heap.size := by rw [hW]; first | omega | (simp; done) | (simp; omega)
  have cW1 : W.cell? ⟨(w.heap.size + 1), 0, none⟩ = some (.pointer none) := by rw [hW]; first | (simp [go_sem]; done)
  have fW1 : W.frozen? ⟨(w.heap.size + 1), 0, none⟩ = false := by rw [hW]; first | (simp [go_sem]; done)
  have zW1 : (w.heap.size + 1) < W.heap.size := by rw [hW]; first | omega | (simp; done) | (simp; omega)
  have BW : Below w.heap.size w W := by rw [hW]; go_grown
  rw [← hW]
  clear hW
  have r1 : RawAt (some ⟨w.heap.size, 0, none⟩) W := .inr ⟨_, rfl, cW0⟩
  have p1 := padd_raw none s W (.inl rfl)
  have p2 := padd_raw _ s W r1
  refine p1.mono ?_
  rintro e w1 ⟨rfl, rfl⟩
  go_wp2_with fail
  refine p2.mono ?_
  rintro e w1 ⟨rfl, rfl⟩
  clear p1 p2 r1
  go_wp2_with fail
  refine (alive5 W).mono ?_
  rintro e w1 ⟨rfl, b1⟩
  have q1 : RawAt (some ⟨w.heap.size, 0, none⟩) w1 := .inr ⟨_, rfl, (b1.cell (p := ⟨w.heap.size, 0, none⟩) zW0).trans cW0⟩
  have q2 : RawAt (some ⟨w.heap.size + 1, 0, none⟩) w1 := .inr ⟨_, rfl, (b1.cell (p := ⟨w.heap.size + 1, 0, none⟩) zW1).trans cW1⟩
  have f1 := pflush_raw none w1 (.inl rfl)
  have f2 := pflush_raw _ w1 q1
  have h1 := pheld_raw none w1 (.inl rfl)
  have h2 := pheld_raw _ w1 q1
  have e1 := sfeed_raw none a n c w1 (.inl rfl)
  have e2 := sfeed_raw _ a n c w1 q2
  have n1 := send_raw none w1 (.inl rfl)
  have n2 := send_raw _ w1 q2
  have l1 := slost_raw none w1 (.inl rfl)
  have l2 := slost_raw _ w1 q2
  have B := BW.trans (b1.mono BW.size)
  clear q1 q2 b1 cW0 cW1 fW0 fW1
  go_wp2_with fail
  refine f1.mono ?_
  rintro e v0 ⟨rfl, rfl⟩
  clear f1
  go_wp2_with fail
  refine f2.mono ?_
  rintro e v1 ⟨rfl, rfl⟩
  clear f2
  go_wp2_with fail
  refine h1.mono ?_
  rintro e v2 ⟨rfl, rfl⟩
  clear h1
  go_wp2_with fail
  refine h2.mono ?_
  rintro e v3 ⟨rfl, rfl⟩
  clear h2
  go_wp2_with fail
  refine e1.mono ?_
  rintro e v4 ⟨rfl, rfl⟩
  clear e1
  go_wp2_with fail
  refine e2.mono ?_
  rintro e v5 ⟨rfl, rfl⟩
  clear e2
  go_wp2_with fail
  refine n1.mono ?_
  rintro e v6 ⟨rfl, rfl⟩
  clear n1
  go_wp2_with fail
  refine n2.mono ?_
  rintro e v7 ⟨rfl, rfl⟩
  clear n2
  go_wp2_with fail
  refine l1.mono ?_
  rintro e v8 ⟨rfl, rfl⟩
  clear l1
  go_wp2_with fail
  refine l2.mono ?_
  rintro e v9 ⟨rfl, rfl⟩
  clear l2
  go_wp2_with fail
  go_returns
  exact ⟨rfl, B⟩
end Go.Proofs.YtgcapmoflmoobaaRRR
