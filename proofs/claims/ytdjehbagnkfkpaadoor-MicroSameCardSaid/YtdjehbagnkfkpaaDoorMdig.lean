/- micro: digits. -/
import Derived.Test.YtdjehbagnkfkpaaDoorWplain
import Derived.Laws.RangeAny
namespace Go.Proofs.YtdjehbagnkfkpaaDoor
set_option linter.unusedVariables false
set_option linter.unusedSimpArgs false
open Go.RowKit W
/-- One digit or more, and nothing else. -/
def digB (l : List UInt8) : Bool := !l.isEmpty && l.all Dc.isD
theorem below_iter (w : World) (s : ByteArray) (p : Nat) : Below w.heap.size w (w.iter s p) := (Below.refl _ _).alloc (Nat.le_refl _) _
set_option maxRecDepth 100000 in
set_option maxHeartbeats 2000000 in
theorem mdig_loop (s : ByteArray) (w : World) (hs : s.size ≤ 140737488355328) (n1 : ¬ s.toList = []) (n2 : s.toList.isEmpty = false) :
    Calls Tryd.prog 35 #[.string s] w fun e w' => e = .returned (.bool (allD s)) ∧ Below w.heap.size w w' := by
  go_enter Tryd.func35, Tryd.ntmps35
  go_wp2
  go_loopw [4] (fun r wr => ∃ pos : Nat, wr = w.iter s pos ∧ pos ≤ s.size ∧ Hid (∀ j (hj : j < s.size), j < pos → Dc.isD s[j] = true)) (fun _ wr => s.size - wr.iterPos w.heap.size)
  case atStart => exact ⟨0, rfl, by omega, fun j _ h => by omega⟩
  case round =>
    obtain ⟨k, rfl, hk, hd⟩ := hrel
    by_cases hlt : k < s.size
    · by_cases hi : (s[k].toNat : Int) < 128
      · have hnx : ∀ ty, (Instr.next (.pointer (some ⟨w.heap.size, 0, none⟩)) true ty).run Tryd.prog (w.iter s k) = _ := fun ty => run_next_ascii w s k ty hlt (by omega)
        by_cases a : (s[k].toNat : Int) < 48
        · have F := hide (not_all k hlt (isD_no _ (.inl a)))
          go_wp2
          go_returns
          exact ⟨by rw [F.out]; rfl, below_iter _ _ _⟩
        · by_cases b : 57 < (s[k].toNat : Int)
          · have F := hide (not_all k hlt (isD_no _ (.inr b)))
            go_wp2
            go_returns
            exact ⟨by rw [F.out]; rfl, below_iter _ _ _⟩
          · have N : Hid (∀ j (hj : j < s.size), j < k + 1 → Dc.isD s[j] = true) := fun j hj h => by
              by_cases e : j = k
              · subst e; exact isD_yes _ (by omega) (by omega)
              · exact hd.out j hj (by omega)
            clear hd
            go_wp2
            go_roundw
            case rel => exact ⟨k + 1, rfl, by omega, N⟩
            case measure => simp; omega
      · have hnx : ∀ ty, (Instr.next (.pointer (some ⟨w.heap.size, 0, none⟩)) true ty).run Tryd.prog (w.iter s k) = _ := fun ty => run_next_any w s k ty hlt
        have dh := decode_high s k hlt (by omega)
        have F := hide (not_all k hlt (isD_no _ (.inr (by omega))))
        obtain ⟨r, hr⟩ : ∃ r : Int, r = ((Utf8.decode s k).1 : Int) := ⟨_, rfl⟩
        have r1 : 57 < r := by omega
        have r2 : ¬ r < 48 := by omega
        simp only [← hr] at hnx
        clear hr dh hd
        go_wp2
        go_returns
        exact ⟨by rw [F.out]; rfl, below_iter _ _ _⟩
    · obtain rfl : k = s.size := by omega
      have hnx : ∀ ty, (Instr.next (.pointer (some ⟨w.heap.size, 0, none⟩)) true ty).run Tryd.prog (w.iter s s.size) = _ := fun ty => run_next_end w s s.size ty (by omega)
      have F := hide (all_of fun j hj => hd.out j hj hj)
      clear hd
      go_wp2
      go_returns
      exact ⟨by rw [F.out]; rfl, below_iter _ _ _⟩
set_option maxRecDepth 100000 in
theorem mdig_empty (w : World) : Calls Tryd.prog 35 #[.string ⟨#[]⟩] w fun e w' => e = .returned (.bool false) ∧ Below w.heap.size w w' := by
  go_enter Tryd.func35, Tryd.ntmps35
  go_wp2
  go_loopw [4] (fun r wr => wr = w.iter ⟨#[]⟩ 0) (fun _ _ => 0)
  case atStart => rfl
  case round =>
    obtain rfl := hrel
    have hnx : ∀ ty, (Instr.next (.pointer (some ⟨w.heap.size, 0, none⟩)) true ty).run Tryd.prog (w.iter ⟨#[]⟩ 0) = _ := fun ty => run_next_end w ⟨#[]⟩ 0 ty (by simp [ByteArray.size])
    go_wp2
    go_returns
    exact ⟨rfl, below_iter _ _ _⟩
theorem mdig_spec (s : ByteArray) (w : World) (hs : s.size ≤ 140737488355328) :
    Calls Tryd.prog 35 #[.string s] w fun e w' => e = .returned (.bool (digB s.data.toList)) ∧ Below w.heap.size w w' := by
  rw [← ByteArray.toList_eq]
  unfold digB
  by_cases h0 : s.size = 0
  · have e : s = ⟨#[]⟩ := by
      obtain ⟨d⟩ := s
      have : d.size = 0 := h0
      rw [Array.eq_empty_of_size_eq_zero this]
    subst e
    rw [show (⟨#[]⟩ : ByteArray).toList = [] from ByteArray.toList_mk []]
    exact mdig_empty w
  · have hl : s.toList.length = s.size := by rw [ByteArray.toList_eq]; simp
    have n1 : ¬ s.toList = [] := fun e => by rw [e] at hl; simp at hl; omega
    have n2 : s.toList.isEmpty = false := by simpa using n1
    rw [n2]
    exact mdig_loop s w hs n1 n2
end Go.Proofs.YtdjehbagnkfkpaaDoor
