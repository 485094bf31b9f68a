/- What the reach gives of what lies within slices and structs. -/
import Derived.Test.YteahbdhhcfoiiaaDoorHid
import Derived.SizedLaws
namespace Go.Proofs.YteahbdhhcfoiiaaDoor
set_option linter.unusedVariables false
open Go.RowKit W
/-- All weights of a datum are within the reach. -/
def Wt {H : Type} (P : Program) (t : TypeId) (d : DataW H) : Prop := ∀ n ∈ d.weights P t, n ≤ reachBytes
theorem wt_of {H : Type} {P : Program} {ts : List TypeId} {ds : List (DataW H)} (h : (DataW.weightsEach P ts ds).all (· ≤ reachBytes) = true) {j : Nat} {t : TypeId} {d : DataW H} (ht : ts[j]? = some t) (hd : ds[j]? = some d) : Wt P t d := by
  intro n hn
  have := List.all_eq_true.1 h n (DataW.weights_mem_each ht hd n hn)
  simpa using this
theorem wt_all {H : Type} {P : Program} {e : TypeId} : ∀ {l : List (DataW H)} {d : DataW H}, d ∈ l → ∀ n ∈ d.weights P e, n ∈ DataW.weightsAll P e l
  | x :: r, d, h, n, hn => by
    unfold DataW.weightsAll
    rcases List.mem_cons.1 h with rfl | h
    · exact List.mem_append_left _ hn
    · exact List.mem_append_right _ (wt_all h n hn)
theorem wt_len {H : Type} {P : Program} {t e : TypeId} {el sp : List (DataW H)} (h : Wt P t (.slice el sp)) (hu : P.underlying t = some (.slice e)) : (el.length + sp.length) * P.bytesOf e ≤ reachBytes := by
  refine h _ ?_
  unfold DataW.weights
  rw [hu]
  exact List.mem_cons_self
theorem wt_elem {H : Type} {P : Program} {t e : TypeId} {el sp : List (DataW H)} (h : Wt P t (.slice el sp)) (hu : P.underlying t = some (.slice e)) {d : DataW H} (hd : d ∈ el) : Wt P e d := by
  intro n hn
  refine h n ?_
  unfold DataW.weights
  rw [hu]
  exact List.mem_cons_of_mem _ (List.mem_append_left _ (wt_all hd n hn))
theorem wt_part {H : Type} {P : Program} {t : TypeId} {fs : Array Field} {ps : List (DataW H)} (h : Wt P t (.agg ps)) (hu : P.underlying t = some (.struct fs)) {j : Nat} {f : Field} {d : DataW H} (hf : fs.toList[j]? = some f) (hd : ps[j]? = some d) : Wt P f.type d := by
  intro n hn
  refine h n ?_
  unfold DataW.weights
  rw [hu]
  exact DataW.weights_mem_each (by rw [List.getElem?_map, hf]; rfl) hd n hn
theorem wt_text {H : Type} {P : Program} {t : TypeId} {bs : List UInt8} (h : Wt (H := H) P t (.lit (.string bs))) : bs.length ≤ 140737488351232 := by
  have h1 := h bs.length (by unfold DataW.weights; exact List.mem_singleton.2 rfl)
  have h2 : reachBytes ≤ 140737488351232 := by decide
  omega
end Go.Proofs.YteahbdhhcfoiiaaDoor
