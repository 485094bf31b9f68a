/- WireStreams: the law's walk. (gen_lawsk.py) -/
import Derived.Test.YthaphijkfedihaaSstate
import Derived.Test.YthaphijkfedihaaPieces
import Derived.Deep.RegionWith
import Derived.ChangeArms
namespace Go.Proofs.Ythaphijkfedihaa
set_option linter.unusedVariables false
set_option linter.unusedSimpArgs false
open Go.RowKit W
theorem txts_of_lists (xs : List (List UInt8)) : ∃ ps : List ByteArray, ps.map lst = xs := by
  induction xs with
  | nil => exact ⟨[], rfl⟩
  | cons x r ih =>
    obtain ⟨ps, h⟩ := ih
    exact ⟨⟨x.toArray⟩ :: ps, by rw [List.map_cons, h]; simp [lst]⟩
/-- Both streams behind some pieces. -/
structure Sp (B g h lim : Nat) (w0 : World) (A : ByteArray) (past : Nat) (n : Int) (k : Nat) (w : World) : Prop where
  st : Ss B g h lim w0 (lastL [] (lst A)) n A past n w
  past : past + 1 = (cutL 10 [] (lst A)).length
  few : A.size ≤ k * 1048576
  pos : 0 ≤ n
  lost : n ≤ k * 1048576
theorem Sp.next {B g h lim past past' k : Nat} {w0 w w' : World} {A A' : ByteArray} {n : Int} (s : Sp B g h lim w0 A past n k w) {l : List UInt8} (hl : l.length ≤ 1048576) (hA : lst A' = lst A ++ l) (hp : past' + 1 = (cutL 10 [] (lst A')).length)
    (x : Ss B g h lim w0 (lastL (lastL [] (lst A)) l) (n + lostL lim (headsL (lastL [] (lst A)) l)) A' past' (n + lostL lim (headsL (lastL [] (lst A)) l)) w') : Sp B g h lim w0 A' past' (n + lostL lim (headsL (lastL [] (lst A)) l)) (k + 1) w' := by
  have e := (cut_heads (lst A) l s.past).2.1
  have q := lost_le lim (headsL (lastL [] (lst A)) l)
  have q2 := heads_len (lastL [] (lst A)) l
  have z : A'.size = A.size + l.length := by rw [← lst_len, hA, List.length_append, lst_len]
  have f1 := s.few
  have f2 := s.pos
  have f3 := s.lost
  refine ⟨?_, hp, by omega, by omega, by omega⟩
  rw [hA, e]
  exact x
set_option maxRecDepth 100000 in
set_option maxHeartbeats 16000000 in
theorem streams_ok (lim : Nat) (h1 : 1 ≤ lim) (h2 : lim ≤ 1024) (PA : Option Addr) (pc : Nat) (ls : List (List UInt8)) (AA : Option Addr) (ac : Nat) (bs : List Bool) (w : World) (hp : IsPieces w PA ls) (hb : IsBools w AA bs) (hs : ∀ l ∈ ls, l.length ≤ 1048576) (hl : ls.length ≤ 1048576) (hbl : bs.length ≤ 1048576) :
    Calls Try.prog 4 #[.int .i64 (lim : Int), .slice PA ls.length pc, .slice AA bs.length ac] w fun e w' => e = .returned (.bool true) ∧ Below w.heap.size w w' := by
  have HP := hide hp
  have HB := hide hb
  have HS := hide hs
  clear hp hb hs
  go_enter Try.func4, Try.ntmps4
  go_wp2_with fail
  refine (news_ok lim h1 h2 _).mono ?_
  rintro e w1 ⟨g, rfl, sk1, b1⟩
  go_wp2_with fail
  refine (rnews_ok (lim : Int) (by omega) (by omega) _).mono ?_
  rintro e w2 ⟨rfl, b2⟩
  have P2 := hide (sk1.later b2)
  have B2 := hide (b1.trans (b2.mono b1.size))
  clear sk1 b1 b2
  go_wp2_with fail
  have W3 : Below w.heap.size w (w2.alloc (.cells #[.int .i64 (lim : Int), .string ⟨#[]⟩, .int .i64 0, .int .i64 0] 50)) := B2.out.alloc B2.out.size _
  refine (alive5 _).mono ?_
  rintro e w3 ⟨rfl, b3⟩
  have S3 : Hid (Sp w.heap.size g w2.heap.size lim w ⟨#[]⟩ 0 0 0 w3) := by
    have r : Rs w.heap.size (w2.alloc (.cells #[.int .i64 (lim : Int), .string ⟨#[]⟩, .int .i64 0, .int .i64 0] 50)) w2.heap.size lim (0 : Nat) 0 ⟨#[]⟩ := ⟨heap_alloc_new w2 _, B2.out.size⟩
    have u := Below.alloc (Below.refl w2.heap.size w2) (Nat.le_refl _) (.cells #[.int .i64 (lim : Int), .string ⟨#[]⟩, .int .i64 0, .int .i64 0] 50)
    have st : Ss w.heap.size g w2.heap.size lim w [] 0 ⟨#[]⟩ 0 0 _ := ⟨⟨_, P2.out.later u⟩, r, W3, W3.size, rfl⟩
    exact ⟨st.later b3, rfl, by decide, by decide, by decide⟩
  obtain ⟨h, hh⟩ : ∃ h, h = w2.heap.size := ⟨_, rfl⟩
  rw [← hh] at S3 ⊢
  clear P2 B2 W3 b3 hh
  go_wp2_with fail
  go_loopw [11] (fun i wr => ∃ (k : Nat) (A : ByteArray) (past : Nat) (n : Int), k ≤ ls.length ∧ i = .int .i64 k ∧ Hid (Sp w.heap.size g h lim w A past n k wr)) (fun i _ => ls.length - (intOf i).toNat)
  case atStart => exact ⟨0, ⟨#[]⟩, 0, 0, by omega, rfl, S3.out⟩
  case round =>
    obtain ⟨k, A, past, n, hk, rfl, sp⟩ := hrel
    have f1 := sp.out.few
    have f2 := sp.out.pos
    have f3 := sp.out.lost
    by_cases hlt : k < ls.length
    · obtain ⟨l, hll⟩ : ∃ l, l = ls[k] := ⟨_, rfl⟩
      obtain ⟨g', o, a, c, rfl, hcell, hc, hn, ib, lt⟩ : ∃ g' o a c, PA = some ⟨g', o, none⟩ ∧ w.cell? ⟨g', o + k, none⟩ = some (.slice a l.length c) ∧ l.length ≤ c ∧ (a = none → l.length = 0 ∧ c = 0) ∧ IsBytes w a l ∧ g' < w.heap.size := by
        rcases HP.out with q | ⟨g', o, rfl, lt, hc⟩
        · rw [q] at hlt; exact absurd hlt (by simp)
        · obtain ⟨a, c, q1, q2, q3, q4⟩ := hc k hlt
          rw [← hll] at q1 q2 q3 q4
          exact ⟨g', o, a, c, rfl, q1, q2, q3, q4, lt⟩
      have xs : l.length ≤ 1048576 := by rw [hll]; exact HS.out _ (List.getElem_mem hlt)
      obtain ⟨ps, hps⟩ : ∃ ps : List ByteArray, ps.map lst = tellL lim (headsL (lastL [] (lst A)) l) := txts_of_lists _
      obtain ⟨A', hA⟩ : ∃ A' : ByteArray, lst A' = lst A ++ l := ⟨⟨(lst A ++ l).toArray⟩, by simp [lst]⟩
      obtain ⟨past', hp'⟩ : ∃ p, p + 1 = (cutL 10 [] (lst A')).length := ⟨(cutL 10 [] (lst A')).length - 1, by have := cutL_pos 10 (lst A') []; omega⟩
      have PL : Hid (ps.length ≤ 140737488355328) := by
        have e := congrArg List.length hps
        rw [List.length_map] at e
        have := tell_len lim (lastL [] (lst A)) l
        show _ ≤ _; omega
      have FA := fun (A1 : ByteArray) (past : Nat) (n2 : Int) (W : World) (s : Ss w.heap.size g h lim w (lastL [] (lst A)) n A1 past n2 W) => feedA l a c ps hps s h2 f2 (by omega) hc hn ib
      have FB := fun (t : List UInt8) (n1 : Int) (W : World) (s : Ss w.heap.size g h lim w t n1 A past n W) => feedB l a c ps hps hA sp.out.past hp' s h2 (by omega) f2 (by omega) ib
      have CP := fun (t : List UInt8) (n1 : Int) (A1 : ByteArray) (past : Nat) (n2 : Int) (W : World) (s : Ss w.heap.size g h lim w t n1 A1 past n2 W) => (s.below.cell (p := ⟨g', o + k, none⟩) lt).trans hcell
      have NX := hide (fun W => sp.out.next (w' := W) xs hA hp')
      have s0 := sp.out.st
      have p0 := CP _ _ _ _ _ _ s0
      have sA0 : Hid (A'.size = A.size + l.length) := by show _ = _; rw [← lst_len, hA, List.length_append, lst_len]
      obtain ⟨N, hN⟩ : ∃ N, N = n + lostL lim (headsL (lastL [] (lst A)) l) := ⟨_, rfl⟩
      rw [← hN] at FA FB NX
      obtain ⟨ll, hl2⟩ : ∃ y, y = l.length := ⟨_, rfl⟩
      rw [← hl2] at FA FB CP hcell hc hn p0
      obtain ⟨x0, hx0⟩ : ∃ x0 : ByteArray, lst x0 = (lastL (lastL [] (lst A)) l).take (lim + 1) := ⟨⟨((lastL (lastL [] (lst A)) l).take (lim + 1)).toArray⟩, by simp [lst]⟩
      have EA := fun (W : World) (s : Ss w.heap.size g h lim w (lastL (lastL [] (lst A)) l) N A' past' N W) => endA s x0 hx0
      have EB := fun (W : World) (s : Ss w.heap.size g h lim w (lastL (lastL [] (lst A)) l) N A' past' N W) => endB s x0 (by rw [hx0, hA, (cut_heads (lst A) l sp.out.past).2.1]) h2 (by have := sA0.out; omega)
      have CQ : ∀ (hk : k < bs.length) (W : World) (s : Ss w.heap.size g h lim w (lastL (lastL [] (lst A)) l) N A' past' N W), ∃ gb ob, AA = some ⟨gb, ob, none⟩ ∧ W.cell? ⟨gb, ob + k, none⟩ = some (.bool bs[k]) := by
        intro hk W s
        rcases HB.out with q | ⟨gb, ob, e, lt, hc⟩
        · rw [q] at hk; exact absurd hk (by simp)
        · exact ⟨gb, ob, e, (s.below.cell (p := ⟨gb, ob + k, none⟩) lt).trans (hc k hk)⟩
      clear hx0 hps hA hp' hN hll f1 f3 hcell ib hn hc xs hl2
      go_wp2_with fail
      go_region_with (first
        | (go_at_call 20; (first | (with_reducible refine Calls.mono (FA _ _ _ _ sB) ?_) | (with_reducible refine Calls.mono (FA _ _ _ _ (Ss.drew sB)) ?_) | (with_reducible refine Calls.mono (FA _ _ _ _ s0) ?_) | (with_reducible refine Calls.mono (FA _ _ _ _ (Ss.drew s0)) ?_)); rintro e wA ⟨aA, cA, rfl, tA, sA, kA⟩; have pA := CP _ _ _ _ _ _ sA; (try have tB2 := kA _ _ tB))
        | (go_at_call 21; (first | (with_reducible refine Calls.mono (FB _ _ _ sA) ?_) | (with_reducible refine Calls.mono (FB _ _ _ (Ss.drew sA)) ?_) | (with_reducible refine Calls.mono (FB _ _ _ s0) ?_) | (with_reducible refine Calls.mono (FB _ _ _ (Ss.drew s0)) ?_)); rintro e wB ⟨aB, cB, rfl, tB, sB, kB⟩; have pB := CP _ _ _ _ _ _ sB; (try have tA2 := kB _ _ tA))
        | (go_at_call 19; (first | (with_reducible refine Calls.mono (sameS sB tA2 tB PL.out) ?_) | (with_reducible refine Calls.mono (sameS (Ss.drew sB) (OutT.drew tA2) (OutT.drew tB) PL.out) ?_) | (with_reducible refine Calls.mono (sameS sA tA tB2 PL.out) ?_) | (with_reducible refine Calls.mono (sameS (Ss.drew sA) (OutT.drew tA) (OutT.drew tB2) PL.out) ?_)); rintro e wS ⟨rfl, sS⟩; have hS := sS.rs.cell.2.2.2.1; have hL := sS.rs.cell.2.2.2.2.2)
        | (go_at_call 22; (first | (with_reducible refine Calls.mono (lostS sS) ?_) | (with_reducible refine Calls.mono (lostS (Ss.drew sS)) ?_)); rintro e wL ⟨rfl, rfl⟩))
      all_goals
        by_cases hq : k < bs.length
        · obtain ⟨gb, ob, rfl, qc⟩ := CQ hq _ sS
          have q1 : (k : Int) < (bs.length : Int) := by omega
          obtain ⟨bv, hbv⟩ : ∃ y, y = bs[k] := ⟨_, rfl⟩
          rw [← hbv] at qc
          clear hbv
          cases bv with
          | true =>
            go_wp2_with (first | (go_at_call 23; (first | (with_reducible refine Calls.mono (EA _ sS) ?_) | (with_reducible refine Calls.mono (EA _ (Ss.drew sS)) ?_)); rintro e v1 ⟨rfl, rfl⟩) | (go_at_call 24; (first | (with_reducible refine Calls.mono (EB _ sS) ?_) | (with_reducible refine Calls.mono (EB _ (Ss.drew sS)) ?_)); rintro e wE ⟨rfl, sE⟩))
            go_roundw
            case rel => first | exact ⟨k + 1, A', past', N, by omega, by go_num, NX.out _ sE⟩ | exact ⟨k + 1, A', past', N, by omega, by go_num, NX.out _ (Ss.drew sE)⟩
            case measure => first | (simp [intOf]; done) | (simp [intOf]; omega)
          | false =>
            go_wp2_with fail
            go_roundw
            case rel => first | exact ⟨k + 1, A', past', N, by omega, by go_num, NX.out _ sS⟩ | exact ⟨k + 1, A', past', N, by omega, by go_num, NX.out _ (Ss.drew sS)⟩
            case measure => first | (simp [intOf]; done) | (simp [intOf]; omega)
        · have q1 : ¬ (k : Int) < (bs.length : Int) := by omega
          go_wp2_with fail
          go_roundw
          case rel => first | exact ⟨k + 1, A', past', N, by omega, by go_num, NX.out _ sS⟩ | exact ⟨k + 1, A', past', N, by omega, by go_num, NX.out _ (Ss.drew sS)⟩
          case measure => first | (simp [intOf]; done) | (simp [intOf]; omega)
    · obtain rfl : k = ls.length := by omega
      obtain ⟨x0, hx0⟩ : ∃ x0 : ByteArray, lst x0 = (lastL [] (lst A)).take (lim + 1) := ⟨⟨((lastL [] (lst A)).take (lim + 1)).toArray⟩, by simp [lst]⟩
      have EA := endA sp.out.st x0 hx0
      have EB := endB sp.out.st x0 hx0 h2 (by omega)
      clear f1 f2 f3 hx0
      go_wp2_with fail
      refine EA.mono ?_
      rintro e v1 ⟨rfl, rfl⟩
      go_wp2_with fail
      refine EB.mono ?_
      rintro e v2 ⟨rfl, sE⟩
      have BL := hide sE.below
      clear EA EB sE
      go_wp2
      go_returns
      exact ⟨rfl, BL.out⟩
set_option maxRecDepth 100000 in
set_option maxHeartbeats 4000000 in
theorem streams_bad (n : Int) (hn : n < 1 ∨ 1024 < n) (PA : Option Addr) (m pc : Nat) (AA : Option Addr) (bm ac : Nat) (w : World) :
    Calls Try.prog 4 #[.int .i64 n, .slice PA m pc, .slice AA bm ac] w fun e w' => e = .returned (.bool true) ∧ Below w.heap.size w w' := by
  have k1 := news_bad n hn w
  have k2 := rnews_bad n hn w
  clear hn
  go_enter Try.func4, Try.ntmps4
  go_wp2_with fail
  refine k1.mono ?_
  rintro e w1 ⟨rfl, rfl⟩
  go_wp2_with fail
  refine k2.mono ?_
  rintro e w2 ⟨rfl, b2⟩
  have W3 : Below w.heap.size w (w2.alloc (.cells #[.int .i64 0, .string ⟨#[]⟩, .int .i64 0, .int .i64 0] 50)) := b2.alloc b2.size _
  clear k1 k2
  go_wp2_with fail
  refine (alive5 _).mono ?_
  rintro e w3 ⟨rfl, b3⟩
  go_wp2_with fail
  go_returns
  exact ⟨rfl, W3.trans (b3.mono W3.size)⟩
theorem law_WireStreams (n : Int) (PA : Option Addr) (pc : Nat) (ls : List (List UInt8)) (AA : Option Addr) (ac : Nat) (bs : List Bool) (wf : (Lit.int .i64 n).wf = true) (hs : ∀ l ∈ ls, l.length ≤ 1048576) (hl : ls.length ≤ 1048576) (hbl : bs.length ≤ 1048576) (w : World) (hp : IsPieces w PA ls) (hb : IsBools w AA bs) :
    Calls Try.prog 4 #[.int .i64 n, .slice PA ls.length pc, .slice AA bs.length ac] w fun e w' => e = .returned (.bool true) ∧ Below w.heap.size w w' := by
  by_cases h : n < 1 ∨ 1024 < n
  · exact streams_bad n h PA _ pc AA _ ac w
  · have e : ((n.toNat : Nat) : Int) = n := by omega
    have := streams_ok n.toNat (by omega) (by omega) PA pc ls AA ac bs w hp hb hs hl hbl
    rw [e] at this
    exact this
end Go.Proofs.Ythaphijkfedihaa
