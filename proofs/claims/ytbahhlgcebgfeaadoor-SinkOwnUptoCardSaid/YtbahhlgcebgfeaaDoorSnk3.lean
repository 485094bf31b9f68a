/- sink: send: plain facts. -/
import Derived.Test.YtbahhlgcebgfeaaDoorSnk2
namespace Go.Proofs.YtbahhlgcebgfeaaDoor
set_option linter.unusedVariables false
set_option linter.unusedSimpArgs false
open Go.RowKit W
theorem write_any {B g : Nat} {w W : World} {M : Nat → Prop} {pa : Option Addr} {pc : Nat} {P : List Ch} {cv : Value} {hd : Bool} {last : Int} {wv lv : Value} {n : Int} {D : List CE} {x : Value} {acc : List UInt8} {f : Bool} {wh lo : List Int} {ba : Option Addr} {bl : List UInt8} {bc : Nat} {ea : Addr}
    (h : Wk B g w M W pa pc P cv hd last wv lv n (D ++ [(x, acc, f)]) wh lo ba bl ea) (hb : bl ≠ []) (hbc : bl.length ≤ bc) (hn : 0 ≤ n ∧ n ≤ 4611686018427387904) (hz : acc.length + bl.length ≤ 140737488355328) (hD : D.length ≤ 4611686018427387904) :
    Calls Tryd.prog 27 #[.pointer (some ⟨g, 0, none⟩), .slice ba bl.length bc] W (WrPost B g w M P cv hd last wv lv n D acc f wh lo ba bl ea) := by
  rcases P with _ | ⟨⟨c, fl⟩, r⟩
  · exact write_nil h hb hbc hn hz hD
  · cases fl
    · exact write_false h hb hbc hn hz hD
    · exact write_true h hb hbc hn hz hD
/-- What becomes of a frame's bytes: the plan behind it, the connection's bytes, whether it has failed, what was not taken, the writes. -/
def sendL (p : List Ch) (acc : List UInt8) (f : Bool) (b : List UInt8) (idle : Nat) (n : Int) : List Ch × List UInt8 × Bool × List UInt8 × Int :=
  if b = [] then (p, acc, f, b, n)
  else if (wrF p b.length).2.1 = true then ((wrF p b.length).2.2, acc ++ b.take (wrF p b.length).1, true, b.drop (wrF p b.length).1, n + 1)
  else if 0 < (wrF p b.length).1 then sendL (wrF p b.length).2.2 (acc ++ b.take (wrF p b.length).1) f (b.drop (wrF p b.length).1) 0 (n + 1)
  else if 64 ≤ idle + 1 then ((wrF p b.length).2.2, acc, true, b, n + 1)
  else sendL (wrF p b.length).2.2 acc f b (idle + 1) (n + 1)
termination_by (b.length, 64 - idle)
decreasing_by
  · rename_i h1 h2 h3
    have : 0 < b.length := List.length_pos_iff.2 h1
    exact Prod.Lex.left _ _ (by rw [List.length_drop]; omega)
  · exact Prod.Lex.right _ (by omega)
theorem sendL_nil (p : List Ch) (acc : List UInt8) (f : Bool) (idle : Nat) (n : Int) : sendL p acc f [] idle n = (p, acc, f, [], n) := by
  rw [sendL]; rw [if_pos rfl]
theorem sendL_fail {p : List Ch} {acc : List UInt8} {f : Bool} {b : List UInt8} {idle : Nat} {n : Int} (hb : b ≠ []) (h : (wrF p b.length).2.1 = true) : sendL p acc f b idle n = ((wrF p b.length).2.2, acc ++ b.take (wrF p b.length).1, true, b.drop (wrF p b.length).1, n + 1) := by
  rw [sendL, if_neg hb, if_pos h]
theorem sendL_more {p : List Ch} {acc : List UInt8} {f : Bool} {b : List UInt8} {idle : Nat} {n : Int} (hb : b ≠ []) (h : (wrF p b.length).2.1 = false) (k : 0 < (wrF p b.length).1) : sendL p acc f b idle n = sendL (wrF p b.length).2.2 (acc ++ b.take (wrF p b.length).1) f (b.drop (wrF p b.length).1) 0 (n + 1) := by
  rw [sendL, if_neg hb, if_neg (by rw [h]; simp), if_pos k]
theorem sendL_end {p : List Ch} {acc : List UInt8} {f : Bool} {b : List UInt8} {idle : Nat} {n : Int} (hb : b ≠ []) (h : (wrF p b.length).2.1 = false) (k : (wrF p b.length).1 = 0) (i : 64 ≤ idle + 1) : sendL p acc f b idle n = ((wrF p b.length).2.2, acc, true, b, n + 1) := by
  rw [sendL, if_neg hb, if_neg (by rw [h]; simp), if_neg (by omega), if_pos i]
theorem sendL_idle {p : List Ch} {acc : List UInt8} {f : Bool} {b : List UInt8} {idle : Nat} {n : Int} (hb : b ≠ []) (h : (wrF p b.length).2.1 = false) (k : (wrF p b.length).1 = 0) (i : idle + 1 < 64) : sendL p acc f b idle n = sendL (wrF p b.length).2.2 acc f b (idle + 1) (n + 1) := by
  rw [sendL, if_neg hb, if_neg (by rw [h]; simp), if_neg (by omega), if_neg (by omega)]
/-- b[k:]. -/
theorem bytes_off {w : World} {a : Option Addr} {l : List UInt8} (h : IsBytes w a l) (c k : Nat) (hk : k ≤ l.length) (hc : l.length ≤ c) :
    ∃ a2, (∀ v, (Instr.slice 30 (.slice a l.length c) (some (.int .i64 (k : Int))) none none).run Tryd.prog v = .ok (.slice a2 (l.length - k) (c - k)) v) ∧ IsBytes w a2 (l.drop k) ∧ (∀ y, a2 = some y → ∃ z, a = some z ∧ z.block = y.block) := by
  refine ⟨if c = k then a else a.map (·.add (k * 1)), fun v => ?_, ?_, ?_⟩
  · rw [run_slice_l (P := Tryd.prog) (w := v) 30 a l.length c (by kernel_rfl) .i64 (k : Int) (by omega) (by omega), size_b]
    simp [Result.andThen, sliced]
  · rcases h with rfl | ⟨g, o, rfl, lt, h⟩
    · exact .inl (by simp)
    · by_cases q : k = l.length
      · exact .inl (List.drop_eq_nil_of_le (by omega))
      · rw [if_neg (by omega)]
        refine .inr ⟨g, o + k, by simp only [Option.map_some, Nat.mul_one]; rw [Go.WideShapes.add_plain], lt, fun j hj => ?_⟩
        rw [List.length_drop] at hj
        have := h (k + j) (by omega)
        rw [Nat.add_assoc, this, List.getElem_drop]
  · intro y hy
    split at hy
    · exact ⟨y, hy, rfl⟩
    · obtain ⟨z, hz, e⟩ := Option.map_eq_some_iff.1 hy
      exact ⟨z, hz, by rw [← e]; obtain ⟨b1, o1, s1⟩ := z; cases s1 <;> (simp only [Addr.add]; split <;> rfl)⟩
section
variable {B g : Nat} {w W W' : World} {M : Nat → Prop} {pa : Option Addr} {pc : Nat} {P : List Ch} {cv : Value} {hd : Bool} {last : Int} {wv lv : Value} {n : Int} {C : List CE} {wh lo : List Int} {ba : Option Addr} {bl : List UInt8} {ea : Addr}
/-- The bytes go on behind some. -/
theorem Wk.off (h : Wk B g w M W pa pc P cv hd last wv lv n C wh lo ba bl ea) {a2 : Option Addr} {l2 : List UInt8} (i : IsBytes W a2 l2) (hb : ∀ y, a2 = some y → ∃ z, ba = some z ∧ z.block = y.block) : Wk B g w M W pa pc P cv hd last wv lv n C wh lo a2 l2 ea :=
  ⟨h.sb, h.tl, h.ch, h.pl, h.pc, i, h.ef, h.z, h.bg, h.b1, h.bw, h.pn, fun a e => by
    obtain ⟨z, hz, q⟩ := hb a e
    rw [← q]; exact h.bn z hz, h.mg, h.mi, h.pm⟩
/-- A new connection, laid into the sink's block. -/
theorem Wk.conn (h : Wk B g w M W pa pc P cv hd last wv lv n C wh lo ba bl ea) {v : Value} {w1 : World} (o : w1.ownsRow B 53 2 v (C.length + 1) (rowC C ++ [.slice none 0 0, .bool false])) (gr : W.grownBy w1 cv.ownBlock) (mv : v.ownBlock = cv.ownBlock ∨ v.ownBlock = some W.heap.size) :
    Wk B g w M (w1.setCell ⟨g, 2, none⟩ v) pa pc P v hd last wv lv n (C ++ [(.slice none 0 0, [], false)]) wh lo ba bl ea := by
  obtain ⟨t, c⟩ := h.tl.conn o gr
  have s1 := h.sb.chg c (fun q => h.notg (.inl q) rfl)
  have s2 := s1.set.2.1 v
  have nv : v.ownBlock ≠ some g := fun q => own_ne_blk o s1 (by decide) q rfl
  have lg := blk_lt h.sb
  have bmv : ∀ k, v.ownBlock = some k → cv.ownBlock = some k ∨ W.heap.size ≤ k := fun k q => by
    rcases mv with e | e
    · exact .inl (e ▸ q)
    · rw [e] at q; injection q with q; exact .inr (Nat.le_of_eq q)
  have ni : ∀ k, InT v wv lv (C ++ [(.slice none 0 0, [], false)]) k → InT cv wv lv C k ∨ W.heap.size ≤ k := fun k i => by
    rcases i with i | ⟨y, hy, i⟩ | i
    · rcases bmv k i with q | q
      · exact .inl (.inl q)
      · exact .inr q
    · rcases List.mem_append.1 hy with hy | hy
      · exact .inl (.inr (.inl ⟨y, hy, i⟩))
      · rw [List.mem_singleton] at hy; subst hy; cases i
    · exact .inl (.inr (.inr i))
  have c2 : Chg (fun k => k = g ∨ cv.ownBlock = some k) W (w1.setCell ⟨g, 2, none⟩ v) := (c.mono (fun k q => .inr q)).trans (Chg.set (S := (· = g)) v rfl) (fun j _ q => .inl q)
  have t2 : Tl B (w1.setCell ⟨g, 2, none⟩ v) v wv lv (C ++ [(.slice none 0 0, [], false)]) wh lo := t.chg (Chg.set (S := (· = g)) v rfl) (fun k i q => t.no s1 (by decide) (by decide) (by decide) i q)
  have up : ∀ k, InT v wv lv (C ++ [(.slice none 0 0, [], false)]) k → k < w.heap.size → InT cv wv lv C k := fun k i lt => by
    rcases ni k i with q | q
    · exact q
    · have := h.ch.size; omega
  refine ⟨s2, t2, h.ch.trans c2 (fun j lt q => ?_), h.pl.chg c2 (fun a e q => ?_), h.pc, h.bs.chg c2 (fun a e q => ?_), (c2.cell (Nat.lt_of_lt_of_le h.z h.ch.size) (fun q => ?_)).trans h.ef, h.z, h.bg, h.b1, h.bw, fun a e => ⟨(h.pn a e).1, fun i => (h.pn a e).2.1 (up _ i (h.pn a e).2.2), (h.pn a e).2.2⟩, fun a e => ⟨(h.bn a e).1, fun i => (h.bn a e).2.1 (up _ i (h.bn a e).2.2), (h.bn a e).2.2⟩, h.mg, fun k i => ?_, h.pm⟩
  · rcases q with q | q
    · exact q ▸ h.mg
    · rcases h.mi j (.inl q) with m | m
      · exact m
      · omega
  · rcases q with q | q
    · exact (h.pn a e).1 q
    · exact (h.pn a e).2.1 (.inl q)
  · rcases q with q | q
    · exact (h.bn a e).1 q
    · exact (h.bn a e).2.1 (.inl q)
  · rcases q with q | q
    · exact h.ne0.1 q.symm
    · exact h.ne0.2 _ (.inl q) rfl
  · rcases ni k i with q | q
    · exact h.mi k q
    · exact .inr (Nat.le_trans h.ch.size q)
end
end Go.Proofs.YtbahhlgcebgfeaaDoor
