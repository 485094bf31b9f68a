/- The reference of layer 5: bare, Split; 'same' of the statements of layer 5; a list of texts that is answered. -/
import Derived.Test.YtgcapmoflmoobaaRRRWspl
import Derived.Test.YtgcapmoflmoobaaRRRRcut5
import Derived.Test.YtgcapmoflmoobaaRRRRvalid
import Derived.Laws.BytesString
import Derived.Deep.QuietTactic
import Derived.BigQuiet
namespace Go.Proofs.YtgcapmoflmoobaaRRR
set_option linter.unusedVariables false
set_option linter.unusedSimpArgs false
open Go.RowKit W
theorem bytes_text0 {w : World} {a : Option Addr} {l : List UInt8} (h : IsBytes w a l) (c : Nat) :
    ∃ x : ByteArray, lst x = l ∧ ∀ v, Below w.heap.size w v → (convert 29 9 (.slice a l.length c)).run Try.prog v = .ok (.string x) v := by
  by_cases e : l = []
  · subst e
    refine ⟨⟨#[]⟩, rfl, fun v _ => ?_⟩
    show (convert 29 9 (.slice a 0 c)).run Try.prog v = _
    rw [run_convert_bytes_string v 29 9 5 a 0 c Try.underlying29 Try.underlying5 Try.underlying9]
    cases a <;> simp [Conv.bytesToString, loadCells] <;> rfl
  · exact bytes_text h e c
def TextPost (l : List UInt8) (w : World) (e : Ending) (w' : World) : Prop := ∃ x, e = .returned (.string x) ∧ lst x = l ∧ w = w'
set_option maxRecDepth 100000 in
set_option maxHeartbeats 4000000 in
theorem rbare_spec (s : ByteArray) (w : World) (hs : s.size ≤ 140737488355328) : Calls Try.prog 30 #[.string s] w (TextPost (bareL (lst s)) w) := by
  rcases Nat.eq_zero_or_pos s.size with z | z
  · have e : lst s = [] := List.eq_nil_of_length_eq_zero (by rw [lst_len]; exact z)
    have F : Hid (TextPost (bareL (lst s)) w (.returned (.string s)) w) := ⟨s, rfl, by rw [e]; rfl, rfl⟩
    clear e
    go_enter Try.func30, Try.ntmps30
    go_wp2
    go_returns
    exact F.out
  · obtain ⟨k, hk⟩ : ∃ k, s.size = k + 1 := ⟨s.size - 1, by omega⟩
    have hl : (lst s).length = k + 1 := by rw [lst_len]; exact hk
    have t1 := fun e => bareL_13 (l := lst s) hl e
    have t2 := fun e => bareL_no (l := lst s) hl e
    have ek : (lst s)[k]'(by omega) = s[k]'(by omega) := rfl
    rw [ek] at t1 t2
    have kb : k < 140737488355328 := by omega
    have e1 : IntKind.i64.wrap ((s.size : Int) - 1) = k := by rw [IntKind.wrap_i64]; omega
    have e2 : (k : Int) < (s.size : Int) := by omega
    have e3 : k < s.size := by omega
    have e4 : (k : Int) ≤ (s.size : Int) := by omega
    have e5 : s.extract 0 k = s.extract 0 k := rfl
    by_cases e : s[k]'(by omega) = 13
    · have F : Hid (TextPost (bareL (lst s)) w (.returned (.string (s.extract 0 k))) w) := ⟨_, rfl, by rw [t1 e]; simp [lst], rfl⟩
      have xe : ((s[k]'(by omega)).toNat : Int) = 13 := by rw [e]; rfl
      have xb : (((s[k]'(by omega)).toNat : Int) == 13) = true := by rw [xe]; rfl
      clear e t1 t2 ek hl
      go_enter Try.func30, Try.ntmps30
      go_wp2
      go_returns
      exact F.out
    · have F : Hid (TextPost (bareL (lst s)) w (.returned (.string s)) w) := ⟨_, rfl, by rw [t2 e], rfl⟩
      have xe : (((s[k]'(by omega)).toNat : Int) == 13) = false := by rw [beq_eq_false_iff_ne]; intro q; exact e (UInt8.toNat_inj.1 (show (s[k]'(by omega)).toNat = 13 by omega))
      clear e t1 t2 ek hl
      go_enter Try.func30, Try.ntmps30
      go_wp2
      go_returns
      exact F.out
/-- A list of texts that is answered. -/
def TxtsPost (T : List (List UInt8)) (w : World) (e : Ending) (w' : World) : Prop := ∃ a c ps, e = .returned (.slice a (List.length ps) c) ∧ ps.map lst = T ∧ IsTxts w' a ps ∧ Below w.heap.size w w'
theorem tp_of {T : List (List UInt8)} {w0 w wr : World} {v : Value} {ps : List ByteArray} (h : OwnT w wr v ps) (b : Below w0.heap.size w0 w) (hp : ps.map lst = T) : TxtsPost T w0 (.returned v) wr := by
  obtain ⟨a, c, rfl, i⟩ := h.is
  exact ⟨a, c, ps, rfl, hp, i, b.trans (h.below.mono b.size)⟩
theorem split_post {l : List UInt8} {w w' : World} {e : Ending} (h : SplitPost l w e w') : TxtsPost (splitL l) w e w' := by
  obtain ⟨v, ps, rfl, hp, o⟩ := h
  exact tp_of o (Below.refl _ _) hp
set_option maxHeartbeats 2000000 in
theorem same5_true (a b : Option Addr) (c d : Nat) (ps : List ByteArray) (w : World) (ha : IsTxts w a ps) (hb : IsTxts w b ps) (hn : ps.length ≤ 140737488355328) :
    Calls Try.prog 10 #[.slice a ps.length c, .slice b ps.length d] w fun e w' => e = .returned (.bool true) ∧ Below w.heap.size w w' := by
  by_cases z : ps = []
  · subst z
    go_enter Try.func10, Try.ntmps10
    go_wp2
    refine wp_loop_rounds 1 ?_
    rw [rounds_succ]
    go_wp2
    go_returns
    exact ⟨rfl, Below.refl _ _⟩
  · obtain ⟨g, o, rfl, la⟩ := ha.resolve_left z
    obtain ⟨g', o', rfl, lb⟩ := hb.resolve_left z
    have H := hide la
    have H' := hide lb
    clear la lb z ha hb
    go_enter Try.func10, Try.ntmps10
    go_wp2
    go_loopw [5] (fun i wr => ∃ k : Nat, k ≤ ps.length ∧ i = .int .i64 k ∧ Hid (Below w.heap.size w wr)) (fun i _ => ps.length - (intOf i).toNat)
    case atStart => exact ⟨0, by omega, rfl, Below.refl _ _⟩
    case round =>
      obtain ⟨k, hk, rfl, bl⟩ := hrel
      by_cases hlt : k < ps.length
      · have e1 := (H.out.later bl.out).cell k hlt
        have e2 := (H'.out.later bl.out).cell k hlt
        generalize ps[k] = x at *
        have hlt' : (k : Int) < (ps.length : Int) := by omega
        go_wp2_with fail
        go_quiet (fail)
        go_wp2_with fail
        go_roundw
        case rel => exact ⟨k + 1, by omega, by go_num, below_drewN bl.out _⟩
        case measure => simp [intOf]; omega
      · obtain rfl : k = ps.length := by omega
        go_wp2
        go_returns
        exact ⟨rfl, bl.out⟩
set_option maxRecDepth 100000 in
set_option maxHeartbeats 8000000 in
theorem rsplit_spec (a : Option Addr) (l : List UInt8) (c : Nat) (w : World) (h : IsBytes w a l) (hl : l.length ≤ 4000000000000) :
    Calls Try.prog 12 #[.slice a l.length c] w (TxtsPost (splitL l) w) := by
  obtain ⟨s, hs, cv⟩ := bytes_text0 h c
  have cv1 := cv w (Below.refl _ _)
  have ss : s.size = l.length := by rw [← hs, lst_len]
  have kc := cut5_spec s (by omega)
  obtain ⟨T, hT⟩ : ∃ T, T = splitL l := ⟨_, rfl⟩
  rw [← hT]
  have TT := hide hT
  have HS := hide hs
  have lb : s.size ≤ 4000000000000 := by omega
  obtain ⟨n, hn⟩ : ∃ n, n = l.length := ⟨_, rfl⟩
  rw [← hn] at cv1 ⊢
  clear hT hs ss cv h hl hn
  go_enter Try.func12, Try.ntmps12
  go_wp2_with fail
  refine (kc _).mono ?_
  rintro e w1 ⟨v, cps, rfl, hps, own⟩
  clear kc cv1
  have hlen : 0 < cps.length := by have := congrArg List.length hps; rw [List.length_map] at this; have := cutL_pos 10 (lst s) []; omega
  have hlen2 : cps.length ≤ s.size + 1 := by have := congrArg List.length hps; rw [List.length_map] at this; have := cutL_len 10 (lst s) []; rw [lst_len] at this; omega
  obtain ⟨g, cap, rfl, lie, hg⟩ := own.got hlen
  have SZ := hide (fun j (h : j < cps.length) => (show cps[j].size ≤ 140737488355328 by have := size_piece hps _ (List.getElem_mem h); omega))
  have LI := hide lie
  have BL := hide own.below
  have HE : Hid (((cps.drop 0).map fun p => bareL (lst p)).filter (fun p => !p.isEmpty) = T) := by
    show _ = _
    rw [TT.out, splitL, ← HS.out, ← hps, List.map_map]; rfl
  clear hps own lie
  go_wp2_with fail
  go_loopw [3, 5] (fun v i wr => ∃ (k : Nat) (ps : List ByteArray), k ≤ cps.length ∧ ps.length ≤ k ∧ i = .int .i64 k ∧ OwnT w1 wr v ps ∧ Hid (ps.map lst ++ (((cps.drop k).map fun p => bareL (lst p)).filter (fun p => !p.isEmpty)) = T)) (fun _ i _ => cps.length - (intOf i).toNat)
  case atStart => exact ⟨0, [], by omega, by simp, rfl, OwnT.none_ w1, HE⟩
  case round =>
    obtain ⟨k, ps, hk, hp, rfl, own, hd⟩ := hrel
    have HO := hide own
    have bl := own.below
    have sz := bl.size
    clear own
    by_cases hlt : k < cps.length
    · have c0 := (LI.out.later bl).cell k hlt
      rw [Nat.zero_add] at c0
      have dr := hd.out
      rw [List.drop_eq_getElem_cons hlt, List.map_cons, List.filter_cons] at dr
      have kb := rbare_spec cps[k] wr (SZ.out k hlt)
      obtain ⟨p, hpp⟩ : ∃ p, p = cps[k] := ⟨_, rfl⟩
      rw [← hpp] at dr kb c0
      obtain ⟨q, hq⟩ : ∃ q, q = bareL (lst p) := ⟨_, rfl⟩
      rw [← hq] at dr kb
      have D := hide dr
      clear dr hpp hd hq
      go_wp2_with fail
      refine kb.mono ?_
      rintro e w2 ⟨x, rfl, hx, rfl⟩
      clear kb c0
      by_cases z : q = []
      · have HD : Hid (ps.map lst ++ (((cps.drop (k + 1)).map fun p => bareL (lst p)).filter (fun p => !p.isEmpty)) = T) := by
          have := D.out; rw [z] at this; apply hide; simpa using this
        obtain rfl : x = ⟨#[]⟩ := lst_inj (hx.trans (z.trans rfl))
        clear D hx z
        go_wp2_with fail
        go_roundw
        case rel => exact ⟨k + 1, ps, by omega, by omega, by go_num, HO.out, HD⟩
        case measure => first | (simp [intOf]; done) | (simp [intOf]; omega)
      · have HD : Hid ((ps ++ [x]).map lst ++ (((cps.drop (k + 1)).map fun p => bareL (lst p)).filter (fun p => !p.isEmpty)) = T) := by
          have := D.out
          rw [if_pos (by simpa using z)] at this
          apply hide; rw [List.map_append]; simpa [hx] using this
        have z1 : x.toList.isEmpty = false := by rw [ByteArray.toList_eq]; rw [← hx] at z; unfold lst at z; cases h : x.data.toList with | nil => exact absurd h z | cons _ _ => rfl
        have z2 : ¬ x.toList = [] := by rw [ByteArray.toList_eq]; rw [← hx] at z; exact z
        clear D hx z
        have c3 : ps.length + 1 ≤ maxLen := by unfold maxLen; omega
        obtain ⟨i0, hi0, hz0, hz1, hz2⟩ := info_parts info_txt
        have HI : Hid (Try.prog.info? 9 = some i0 ∧ i0.zero = some (.string ByteArray.empty) ∧ i0.size = 1 ∧ i0.bytes = 16) := ⟨hi0, hz0, hz1, hz2⟩
        clear hi0 hz0 hz1 hz2
        go_wp2_with (
          at_builtin
          refine wpList_append_own _ rfl _ _ 31 rfl w1.heap.size 9 i0 (.string ByteArray.empty) 1 16 Try.underlying31 HI.out.1 HI.out.2.1 HI.out.2.2.1 HI.out.2.2.2 ?a1 ?a2 u3 ps.length (ps.map Value.string) ?a3 ?a4 ⟨wr.heap.size, 0, none⟩ 1 1 [.string x] ?a5 ?a6 ?a7 ?a8 ?a9 ?b1 ?b2 ?_
          case a1 => rfl
          case a2 => decide
          case a3 => rfl
          case a4 => exact HO.out.own.alloc _
          case a5 => rfl
          case a6 => rfl
          case a7 => exact cell_one_new _ _ _
          case a8 => exact one_txt
          case a9 => exact c3
          case b1 => omega
          case b2 => (simp; omega)
          intro v' w3 hown' hgrow hnil)
        go_roundw
        case rel => exact ⟨k + 1, ps ++ [x], by omega, by simp; omega, by go_num, HO.out.more hown' hgrow, HD⟩
        case measure => first | (simp [intOf]; done) | (simp [intOf]; omega)
    · obtain rfl : k = cps.length := by omega
      have HD : Hid (ps.map lst = T) := by
        have q := hd.out
        rw [List.drop_eq_nil_of_le (Nat.le_refl _)] at q
        apply hide; simpa using q
      clear hd
      go_wp2
      go_returns
      exact tp_of HO.out BL.out HD.out
end Go.Proofs.YtgcapmoflmoobaaRRR
