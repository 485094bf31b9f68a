/- due: order and Less. -/
import Derived.Test.YtdfmfkibafcbcaaQk
import Derived.Deep.RegionHeld3
import Derived.Deep.RegionLaw
import Derived.Deep.RegionWith
namespace Go.Proofs.Ytdfmfkibafcbcaa
set_option linter.unusedVariables false
set_option linter.unusedSimpArgs false
open Go.RowKit W Go.Maps
set_option maxRecDepth 100000 in
theorem order_spec (a b : En) (w : World) : Calls Try.prog 34 #[enV a, enV b] w fun e w' => e = .returned (.int .i64 (ordI a b)) ∧ Below w.heap.size w w' := by
  have k1 := cmpI_spec a.2 b.2
  have k2 := cmpS_spec a.1 b.1
  unfold ordI
  by_cases h : a.2 = b.2
  · rw [if_pos h]
    have d : (a.2 == b.2) = true := by simpa using h
    have d2 : (a.2 != b.2) = false := by simpa using h
    clear h
    go_enter Try.func34, Try.ntmps34
    go_wp2_with (go_at_call 42; refine (k2 _).mono ?_; rintro e w' ⟨rfl, rfl⟩)
    go_returns
    exact ⟨rfl, by go_grown⟩
  · rw [if_neg h]
    have d : (a.2 == b.2) = false := by simpa using h
    have d2 : (a.2 != b.2) = true := by simpa using h
    clear h
    go_enter Try.func34, Try.ntmps34
    go_wp2_with (go_at_call 41; refine (k1 _).mono ?_; rintro e w' ⟨rfl, rfl⟩)
    go_returns
    exact ⟨rfl, by go_grown⟩
theorem KM.form {B : Nat} {w : World} {kb mb m : Nat} {v : Value} {l : List En} {M : ByteArray → Option Int} (h : KM B w kb mb v l m M) (n : Nat) (hn : n = l.length) (h0 : 0 < n) : ∃ g c, v = .slice (some ⟨g, 0, none⟩) n c ∧ n ≤ c ∧ g < w.heap.size ∧ B ≤ g ∧ (∀ o, w.frozen? ⟨g, o, none⟩ = false) := by
  subst hn
  rcases h.row.2 with ⟨_, e⟩ | ⟨g, cap, cur, rfl, hb, hh, hc, _⟩
  · omega
  · exact ⟨g, cap, rfl, hc, blk_lt hh, hb, (row_look h.row).2.1⟩
theorem KM.key {B : Nat} {w : World} {kb mb m g n c : Nat} {l : List En} {M : ByteArray → Option Int} (h : KM B w kb mb (.slice (some ⟨g, 0, none⟩) n c) l m M) (hn : n = l.length) {i : Nat} (hi : i < l.length) : w.cell? ⟨g, i * 2, none⟩ = some (.string l[i].1) ∧ w.cell? ⟨g, i * 2 + 1, none⟩ = some (.int .i64 l[i].2) := by
  subst hn
  exact ⟨(row_look h.row).1 _ _ (dues_key hi), (row_look h.row).1 _ _ (dues_at hi)⟩
set_option maxRecDepth 100000 in
set_option maxHeartbeats 4000000 in
theorem less_spec {B : Nat} {w : World} {kb mb m : Nat} {v : Value} {l : List En} {M : ByteArray → Option Int} (h : KM B w kb mb v l m M) {i j : Nat} (hi : i < l.length) (hj : j < l.length) (hl : l.length ≤ 65536) :
    Calls Try.prog 78 #[.pointer (some ⟨kb, 0, none⟩), .int .i64 (i : Int), .int .i64 (j : Int)] w fun e w' => e = .returned (.bool (ltE l[i] l[j])) ∧ Below w.heap.size w w' := by
  obtain ⟨n, hn⟩ : ∃ n, n = l.length := ⟨_, rfl⟩
  obtain ⟨g, c, rfl, nc, gl, _, fz⟩ := h.form n hn (by omega)
  obtain ⟨x0, x1⟩ := h.key hn hi
  obtain ⟨y0, y1⟩ := h.key hn hj
  have c0 := h.k.cell 0 _ rfl
  have ko := order_spec l[i] l[j]
  have kl := h.k.lt
  rw [← ordI_lt]
  obtain ⟨a, ha⟩ : ∃ a, a = l[i] := ⟨_, rfl⟩
  obtain ⟨b, hb⟩ : ∃ b, b = l[j] := ⟨_, rfl⟩
  rw [← ha] at x0 x1 ko ⊢
  rw [← hb] at y0 y1 ko ⊢
  obtain ⟨r, hr⟩ : ∃ r, r = ordI a b := ⟨_, rfl⟩
  rw [← hr] at ko ⊢
  rw [← hn] at hi hj hl
  clear h ha hb hr hn
  go_enter Try.func78, Try.ntmps78
  go_wp2_with fail
  go_region_held3 (fun w' => w'.cell? ⟨kb, 0, none⟩ = some (.slice (some ⟨g, 0, none⟩) n c) ∧ w'.cell? ⟨g, i * 2, none⟩ = some (.string a.1) ∧ w'.cell? ⟨g, i * 2 + 1, none⟩ = some (.int .i64 a.2) ∧ w'.cell? ⟨g, j * 2, none⟩ = some (.string b.1) ∧ w'.cell? ⟨g, j * 2 + 1, none⟩ = some (.int .i64 b.2) ∧ Keeps w.heap.size w w')
    ((refine (fun K => ⟨Keeps.cell K c0 kl, Keeps.cell K x0 gl, Keeps.cell K x1 gl, Keeps.cell K y0 gl, Keeps.cell K y1 gl, K⟩) (?_ : Keeps w.heap.size w _); (repeat (first | assumption | exact Keeps.start (Nat.le_refl _) | refine Keeps.drew ?_ | refine Keeps.call ?_ (by assumption)))))
    ((go_at_call 34; refine (ko _).mono ?_; rintro e w' ⟨rfl, b1⟩; have K9 := Keeps.call (B := w.heap.size) (W := w) (by (repeat (first | assumption | exact Keeps.start (Nat.le_refl _) | refine Keeps.drew ?_))) b1))
  go_wp2_with fail
  go_returns
  exact ⟨rfl, K9.below⟩
end Go.Proofs.Ytdfmfkibafcbcaa
