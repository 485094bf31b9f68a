/- wire: Stream.Feed. (gen_sfeed.py) -/
import Derived.Test.YthaphijkfedihaaSend2
import Derived.Test.YthaphijkfedihaaWspl
namespace Go.Proofs.Ythaphijkfedihaa
set_option linter.unusedVariables false
set_option linter.unusedSimpArgs false
open Go.RowKit W
/-- Whole lines, and what stands behind them. -/
def headsL (t l : List UInt8) : List (List UInt8) := (cutL 10 t l).dropLast
def lastL (t l : List UInt8) : List UInt8 := (cutL 10 t l).getLastD []
theorem cut_line2 (t l : List UInt8) : cutL 10 t l = (t ++ l.take (lineN l)) :: (if lineN l < l.length then cutL 10 [] (l.drop (lineN l + 1)) else []) := by
  induction l generalizing t with
  | nil => simp [cutL, lineN]
  | cons x r ih =>
    show (if x = 10 then t :: cutL 10 [] r else cutL 10 (t ++ [x]) r) = _
    by_cases e : x = 10
    · rw [if_pos e]
      have q : lineN (x :: r) = 0 := by unfold lineN; rw [if_pos e]
      rw [q, if_pos (by simp)]
      simp
    · have q : lineN (x :: r) = lineN r + 1 := by rw [lineN, if_neg e]
      rw [if_neg e, ih, q]
      simp
theorem heads_step {t l : List UInt8} (h : lineN l < l.length) : headsL t l = (t ++ l.take (lineN l)) :: headsL [] (l.drop (lineN l + 1)) ∧ lastL t l = lastL [] (l.drop (lineN l + 1)) := by
  unfold headsL lastL
  rw [cut_line2 t l, if_pos h]
  have p := cutL_pos 10 (l.drop (lineN l + 1)) []
  cases q : cutL 10 [] (l.drop (lineN l + 1)) with
  | nil => rw [q] at p; simp at p
  | cons a r => exact ⟨rfl, rfl⟩
theorem heads_end {t l : List UInt8} (h : ¬ lineN l < l.length) : headsL t l = [] ∧ lastL t l = t ++ l := by
  unfold headsL lastL
  rw [cut_line2 t l, if_neg h, List.take_of_length_le (by omega)]
  exact ⟨rfl, rfl⟩
/-- The lines that are told, and how many are lost. -/
def tellL (lim : Nat) (xs : List (List UInt8)) : List (List UInt8) := (xs.map (endL lim)).filter fun p => !p.isEmpty
def lostL (lim : Nat) : List (List UInt8) → Int
  | [] => 0
  | x :: r => endN lim x + lostL lim r
theorem tell_cons (lim : Nat) (x : List UInt8) (r : List (List UInt8)) : tellL lim (x :: r) = (if endL lim x = [] then [] else [endL lim x]) ++ tellL lim r := by
  unfold tellL
  rw [List.map_cons, List.filter_cons]
  by_cases z : endL lim x = []
  · rw [z]; simp
  · rw [if_pos (by simpa using z), if_neg z]; rfl
theorem endN_le (lim : Nat) (x : List UInt8) : 0 ≤ endN lim x ∧ endN lim x ≤ 1 := by unfold endN; split <;> omega
/-- The stream behind some calls. -/
structure Fd (B g lim : Nat) (w : World) (v : Value) (W : World) (u : Value) (t : List UInt8) (lost : Int) : Prop where
  sk : SkV B W g lim u t lost
  chg : Chg (Sg g v) w W
  new : NewOr w v u
theorem Fd.step {B g lim : Nat} {w W W' : World} {v u u' : Value} {t t' : List UInt8} {lost lost' : Int} (f : Fd B g lim w v W u t lost) (s : SkV B W' g lim u' t' lost') (c : Chg (Sg g u) W W') (n : NewOr W u u') : Fd B g lim w v W' u' t' lost' := by
  refine ⟨s, f.chg.trans c ?_, ?_⟩
  · rintro j hj (rfl | hu)
    · exact .inl rfl
    · rcases f.new with e | e
      · exact .inr (by rw [← e]; exact hu)
      · have := e j hu; omega
  · rcases n with e | e
    · rcases f.new with q | q
      · exact .inl (e.trans q)
      · exact .inr (fun k hk => q k (by rw [← e]; exact hk))
    · exact .inr (fun k hk => Nat.le_trans f.chg.size (e k hk))
theorem Fd.below {B g lim : Nat} {w W : World} {v u : Value} {t t0 : List UInt8} {lost l0 : Int} (f : Fd B g lim w v W u t lost) (h : SkV B w g lim v t0 l0) (hB : B ≤ w.heap.size) : Below B w W :=
  f.chg.below (by
    rintro k (rfl | hk)
    · exact h.le
    · exact (own_blk h.own hk).1) hB
theorem row_sk {B g lim base n : Nat} {W W' : World} {u vl : Value} {t : List UInt8} {lost : Int} {xs : List Value} (s : SkV B W g lim u t lost) (o : W.ownsRow base 9 1 vl n xs) (c : Chg (Sg g u) W W') : W'.ownsRow base 9 1 vl n xs :=
  chg_row o c (by
    rintro k hk (rfl | hu)
    · obtain ⟨_, cs, hc⟩ := own_blk o hk
      rw [s.blk] at hc
      injection hc with hc
      injection hc with _ hc
      exact absurd hc (by decide)
    · obtain ⟨_, cs, hc⟩ := own_blk o hk
      obtain ⟨_, cs', hc'⟩ := own_blk s.own hu
      rw [hc] at hc'
      injection hc' with hc'
      injection hc' with _ hc'
      exact absurd hc' (by decide))
theorem Fd.lines {B g lim n : Nat} {w W w1 : World} {v u vl : Value} {t : List UInt8} {lost : Int} {xs : List Value} {o : Obj} (f : Fd B g lim w v W u t lost) (ho : W.ownsRow w.heap.size 9 1 vl n xs) (hg : (W.alloc o).grownBy w1 vl.ownBlock) : Fd B g lim w v w1 u t lost := by
  have c : Chg (fun k => vl.ownBlock = some k) W w1 := Chg.trans (S := fun k => vl.ownBlock = some k) (Chg.of_below (Below.alloc (Below.refl _ _) (Nat.le_refl _) o)) (Chg.grown (S := fun k => vl.ownBlock = some k) hg (fun _ q => q)) (fun _ _ q => q)
  refine ⟨f.sk.chg c (fun q => ?_) (fun k hk q => ?_), f.chg.trans c (fun j hj q => ?_), f.new⟩
  · obtain ⟨_, cs, hc⟩ := own_blk ho q
    rw [f.sk.blk] at hc
    injection hc with hc
    injection hc with _ hc
    exact absurd hc (by decide)
  · obtain ⟨_, cs, hc⟩ := own_blk ho q
    obtain ⟨_, cs', hc'⟩ := own_blk f.sk.own hk
    rw [hc] at hc'
    injection hc' with hc'
    injection hc' with _ hc'
    exact absurd hc' (by decide)
  · have := (own_blk ho q).1; omega
def FeedPost (B g lim : Nat) (v : Value) (t l : List UInt8) (lost : Int) (w : World) (e : Ending) (w' : World) : Prop :=
  ∃ (vl : Value) (ps : List ByteArray) (u : Value), e = .returned vl ∧ ps.map lst = tellL lim (headsL t l) ∧ w'.ownsRow w.heap.size 9 1 vl ps.length (ps.map Value.string) ∧ Fd B g lim w v w' u (lastL t l) (lost + lostL lim (headsL t l))
def slen : Value → Nat | .slice _ n _ => n | _ => 0
/-- A round's state. -/
structure Fs (B g lim : Nat) (w : World) (v : Value) (T : List (List UInt8)) (L : List UInt8) (N : Int) (W : World) (vl : Value) (r : List UInt8) (ps : List ByteArray) (u : Value) (t : List UInt8) (lost : Int) : Prop where
  fd : Fd B g lim w v W u t lost
  row : W.ownsRow w.heap.size 9 1 vl ps.length (ps.map Value.string)
  tell : ps.map lst ++ tellL lim (headsL t r) = T
  last : lastL t r = L
  gone : lost + lostL lim (headsL t r) = N
  pos : 0 ≤ lost
  few : (ps.length : Int) + r.length ≤ 4000000000000
  lost : lost + r.length ≤ 4000000000000
section
variable {B g lim : Nat} {w W W1 W2 : World} {v vl u u1 u2 : Value} {T : List (List UInt8)} {L r tt : List UInt8} {N lo : Int} {ps : List ByteArray}
theorem Fs.two (f : Fs B g lim w v T L N W vl r ps u tt lo) {t1 : List UInt8} (s1 : SkV B W1 g lim u1 t1 lo) (c1 : Chg (Sg g u) W W1) (n1 : NewOr W u u1) {l2 : Int} (s2 : SkV B W2 g lim u2 [] l2) (c2 : Chg (Sg g u1) W1 W2) (n2 : NewOr W1 u1 u2) :
    Fd B g lim w v W2 u2 [] l2 ∧ W2.ownsRow w.heap.size 9 1 vl ps.length (ps.map Value.string) :=
  ⟨(f.fd.step s1 c1 n1).step s2 c2 n2, row_sk s1 (row_sk f.fd.sk f.row c1) c2⟩
theorem Fs.skip (f : Fs B g lim w v T L N W vl r ps u tt lo) {m : Nat} (hm : m = lineN r) (lt : m < r.length) (fd : Fd B g lim w v W2 u2 [] (lo + endN lim (tt ++ r.take m))) (row : W2.ownsRow w.heap.size 9 1 vl ps.length (ps.map Value.string)) (z : endL lim (tt ++ r.take m) = []) :
    Fs B g lim w v T L N W2 vl (r.drop (m + 1)) ps u2 [] (lo + endN lim (tt ++ r.take m)) := by
  subst hm
  obtain ⟨h1, h2⟩ := heads_step (t := tt) (l := r) lt
  have b := endN_le lim (tt ++ r.take (lineN r))
  have f1 := f.few
  have f2 := f.lost
  have f3 := f.pos
  refine ⟨fd, row, ?_, ?_, ?_, by omega, by rw [List.length_drop]; omega, by rw [List.length_drop]; omega⟩
  · have := f.tell; rw [h1, tell_cons, if_pos z] at this; exact this
  · rw [← h2]; exact f.last
  · have := f.gone; rw [h1, lostL] at this; rw [← this]; omega
theorem Fs.add (f : Fs B g lim w v T L N W vl r ps u tt lo) {m : Nat} (hm : m = lineN r) (lt : m < r.length) (fd : Fd B g lim w v W2 u2 [] (lo + endN lim (tt ++ r.take m))) {x : ByteArray} {vl' : Value} (row : W2.ownsRow w.heap.size 9 1 vl' (ps.length + 1) (ps.map Value.string ++ [.string x])) (z : endL lim (tt ++ r.take m) ≠ []) (hx : lst x = endL lim (tt ++ r.take m)) :
    Fs B g lim w v T L N W2 vl' (r.drop (m + 1)) (ps ++ [x]) u2 [] (lo + endN lim (tt ++ r.take m)) := by
  subst hm
  obtain ⟨h1, h2⟩ := heads_step (t := tt) (l := r) lt
  have b := endN_le lim (tt ++ r.take (lineN r))
  have f1 := f.few
  have f2 := f.lost
  have f3 := f.pos
  refine ⟨fd, by simpa using row, ?_, ?_, ?_, by omega, by rw [List.length_drop, List.length_append]; simp; omega, by rw [List.length_drop]; omega⟩
  · have := f.tell; rw [h1, tell_cons, if_neg z] at this; rw [← this, ← hx]; simp
  · rw [← h2]; exact f.last
  · have := f.gone; rw [h1, lostL] at this; rw [← this]; omega
end
set_option maxRecDepth 100000 in
set_option maxHeartbeats 8000000 in
theorem feed_spec (B g lim : Nat) (v : Value) (t l : List UInt8) (lost : Int) (w0 w : World) (a : Option Addr) (c : Nat) (h : SkV B w g lim v t lost) (hl : lim ≤ 1024) (hB : B ≤ w.heap.size) (h0 : 0 ≤ lost) (hz : lost + l.length ≤ 4000000000000) (hc : l.length ≤ c) (hn : a = none → l.length = 0 ∧ c = 0)
    (ib : IsBytes w0 a l) (b0 : Below w0.heap.size w0 w) (hB0 : w0.heap.size ≤ B) : Calls Try.prog 20 #[.pointer (some ⟨g, 0, none⟩), .slice a l.length c] w (FeedPost B g lim v t l lost w) := by
  have km := smade B g lim v t lost w h
  obtain ⟨T, hT⟩ : ∃ T, T = tellL lim (headsL t l) := ⟨_, rfl⟩
  obtain ⟨L, hL⟩ : ∃ L, L = lastL t l := ⟨_, rfl⟩
  obtain ⟨N, hN⟩ : ∃ N, N = lost + lostL lim (headsL t l) := ⟨_, rfl⟩
  have F0 : Hid (Fs B g lim w v T L N w (.slice none 0 0) l [] v t lost) :=
    ⟨⟨h, Chg.refl _ _, .inl rfl⟩, ⟨rfl, .inl ⟨rfl, rfl⟩⟩, by rw [hT]; rfl, hL.symm, hN.symm, h0, by simp; omega, hz⟩
  have FP : Hid (∀ W vl r ps u tt lo, headsL tt r = [] → Fs B g lim w v T L N W vl r ps u tt lo → ∀ W' u', SkV B W' g lim u' (tt ++ r) lo → Chg (Sg g u) W W' → NewOr W u u' → lastL tt r = tt ++ r → FeedPost B g lim v t l lost w (.returned vl) W') := by
    intro W vl r ps u tt lo he fs W' u' s c n hla
    have f := fs.fd.step s c n
    refine ⟨vl, ps, u', rfl, ?_, row_sk fs.fd.sk fs.row c, ?_⟩
    · have := fs.tell
      rw [he] at this
      rw [← hT, ← this]
      simp [tellL]
    · have h1 := fs.gone
      rw [he] at h1
      have h2 : lo = N := by rw [← h1]; simp [lostL]
      rw [← hN, ← hL, ← fs.last, hla, ← h2]
      exact f
  have BB : Hid (∀ W vl r ps u tt lo, Fs B g lim w v T L N W vl r ps u tt lo → ∀ a r', IsBytes w0 a r' → IsBytes W a r' ∧ B ≤ W.heap.size) := by
    intro W vl r ps u tt lo fs a r' hi
    have b := fs.fd.below h hB
    exact ⟨hi.later (b0.trans (b.mono hB0)), Nat.le_trans hB b.size⟩
  have IB := hide ib
  clear hT hL hN h ib hB h0 hz b0 hB0
  go_enter Try.func20, Try.ntmps20
  go_wp2_with (go_at_call 29; refine km.mono ?_; rintro e w1 ⟨rfl, rfl⟩)
  clear km
  go_loopw [1, 5] (fun bv vl wr => ∃ (r : List UInt8) (a : Option Addr) (c n : Nat) (ps : List ByteArray) (u : Value) (tt : List UInt8) (lo : Int), n = r.length ∧ bv = .slice a n c ∧ n ≤ c ∧ Hid (a = none → n = 0 ∧ c = 0) ∧ Hid (IsBytes w0 a r) ∧ Hid (Fs B g lim w v T L N wr vl r ps u tt lo)) (fun bv _ _ => slen bv)
  case atStart => exact ⟨l, a, c, l.length, [], v, t, lost, rfl, rfl, hc, hn, IB.out, F0.out⟩
  case round =>
    obtain ⟨r, a, c, n, ps, u, tt, lo, hnr, rfl, hc, hn, hi, fs⟩ := hrel
    have NR := hide hnr
    obtain ⟨iw, bw⟩ := BB.out _ _ _ _ _ _ _ fs.out a r hi.out
    have rl : (r.length : Int) ≤ 4000000000000 := by have := fs.out.few; omega
    have pl : ps.length ≤ 4000000000000 := by have := fs.out.few; omega
    have kl := linelen_spec a r c wr iw (by omega) (by rw [← hnr]; exact hn.out)
    have m1 := lineN_le r
    obtain ⟨m, hm⟩ : ∃ m, m = lineN r := ⟨_, rfl⟩
    have MM := hide hm
    rw [← hnr, ← hm] at kl
    rw [← hm, ← hnr] at m1
    rw [← hnr] at rl
    have f2 := bytes_upto iw c m (by rw [← hnr]; exact m1) (by rw [← hnr]; exact hc)
    rw [← hnr] at f2
    obtain ⟨r2, i2⟩ := f2
    have tkl : (r.take m).length = m := by rw [List.length_take]; omega
    have kk := keep_spec B g lim u tt (r.take m) lo a wr fs.out.fd.sk hl bw (by rw [tkl]; omega) i2
    rw [tkl] at kk
    by_cases e : m = n
    · have he := hide (heads_end (t := tt) (l := r) (by rw [← MM.out, ← NR.out, e]; omega))
      have TA := hide (List.take_of_length_le (l := r) (i := m) (by rw [← NR.out, e]; omega))
      subst e
      clear hm hnr iw bw i2 tkl m1
      go_wp2_with fail
      refine kl.mono ?_
      rintro e w1 ⟨rfl, rfl⟩
      clear kl
      go_wp2_with fail
      refine kk.mono ?_
      rintro e w1 ⟨rfl, u', s1, c1, n1⟩
      have S1 := hide s1
      have C1 := hide c1
      have N1 := hide n1
      clear kk s1 c1 n1 r2
      go_wp2_with fail
      go_returns
      exact FP.out _ _ _ _ _ _ _ he.out.1 fs.out _ _ (by have := S1.out; rw [TA.out] at this; exact this) C1.out N1.out he.out.2
    · have lt : m < n := by omega
      have LT : Hid (m < r.length) := by show _ < _; rw [← hnr]; exact lt
      have f3 := bytes_from hi.out c (m + 1) (by rw [← hnr]; omega) (by rw [← hnr]; exact hc)
      rw [← hnr] at f3
      obtain ⟨a2, r3, i3, n3⟩ := f3
      have q : ((m : Int) == (n : Int)) = false := by rw [beq_eq_false_iff_ne]; omega
      have dl : n - (m + 1) = (r.drop (m + 1)).length := by rw [List.length_drop, ← hnr]
      have DL := hide dl
      have I3 := hide i3
      have N3 : Hid (a2 = none → n - (m + 1) = 0 ∧ c - (m + 1) = 0) := fun e => by have := hn.out (n3 e); omega
      have s1' : IntKind.i64.wrap ((m : Int) + 1) = (m : Int) + 1 := by rw [IntKind.wrap_i64]; omega
      rw [show ((m + 1 : Nat) : Int) = (m : Int) + 1 from rfl] at r3
      clear hm hnr iw bw i2 tkl i3 dl n3
      go_wp2_with fail
      refine kl.mono ?_
      rintro e w1 ⟨rfl, rfl⟩
      clear kl
      go_wp2_with fail
      refine kk.mono ?_
      rintro e w1 ⟨rfl, u1, s1, c1, n1⟩
      have ke := end_spec B g lim u1 (tt ++ r.take m) lo w1 s1 hl fs.out.pos (by have := fs.out.lost; omega)
      have S1 := hide s1
      have C1 := hide c1
      have N1 := hide n1
      clear kk s1 c1 n1 r2
      go_wp2_with fail
      refine ke.mono ?_
      rintro e w2 ⟨x, u2, rfl, hx, s2, c2, n2⟩
      obtain ⟨FD, RO⟩ := fs.out.two S1.out C1.out N1.out s2 c2 n2
      have FD1 := hide FD
      have RO1 := hide RO
      have HX := hide hx
      have BW : Hid (w.heap.size ≤ w2.heap.size) := FD.chg.size
      clear ke s2 c2 n2 FD RO hx r3
      by_cases z : endL lim (tt ++ r.take m) = []
      · have Z := hide z
        have z2 : (!(endL lim (tt ++ r.take m)).isEmpty) = false := by rw [z]; rfl
        rw [z2]
        clear z z2
        go_wp2_with fail
        go_roundw
        case rel => exact ⟨r.drop (m + 1), a2, c - (m + 1), n - (m + 1), ps, u2, [], _, DL.out, rfl, by omega, N3.out, I3.out, fs.out.skip MM.out LT.out FD1.out RO1.out Z.out⟩
        case measure => first | (simp [slen]; done) | (simp [slen]; omega)
      · have Z := hide z
        have z2 : (!(endL lim (tt ++ r.take m)).isEmpty) = true := by simpa using z
        rw [z2]
        clear z z2
        have c3 : ps.length + 1 ≤ maxLen := by unfold maxLen; omega
        obtain ⟨i0, hi0, hz0, hz1, hz2⟩ := info_parts info_txt
        have HI : Hid (Try.prog.info? 9 = some i0 ∧ i0.zero = some (.string ByteArray.empty) ∧ i0.size = 1 ∧ i0.bytes = 16) := ⟨hi0, hz0, hz1, hz2⟩
        clear hi0 hz0 hz1 hz2
        go_wp2_with (
          at_builtin
          refine wpList_append_own _ rfl _ _ 27 rfl w.heap.size 9 i0 (.string ByteArray.empty) 1 16 Try.underlying27 HI.out.1 HI.out.2.1 HI.out.2.2.1 HI.out.2.2.2 ?a1 ?a2 u5 ps.length (ps.map Value.string) ?a3 ?a4 ⟨w2.heap.size, 0, none⟩ 1 1 [.string x] ?a5 ?a6 ?a7 ?a8 ?a9 ?b1 ?b2 ?_
          case a1 => rfl
          case a2 => decide
          case a3 => rfl
          case a4 => exact RO1.out.alloc _
          case a5 => rfl
          case a6 => rfl
          case a7 => exact cell_one_new _ _ _
          case a8 => exact one_txt
          case a9 => exact c3
          case b1 => omega
          case b2 => (have := BW.out; simp; omega)
          intro v' w3 hown' hgrow hnil)
        go_roundw
        case rel => exact ⟨r.drop (m + 1), a2, c - (m + 1), n - (m + 1), ps ++ [x], u2, [], _, DL.out, rfl, by omega, N3.out, I3.out, fs.out.add MM.out LT.out (FD1.out.lines RO1.out hgrow) hown' Z.out HX.out⟩
        case measure => first | (simp [slen]; done) | (simp [slen]; omega)
end Go.Proofs.Ythaphijkfedihaa
