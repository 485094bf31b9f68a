/- What the bound of an upto statement gives. -/
import Derived.Test.YtbahhlgcebgfeaaDoorRows
namespace Go.Proofs.YtbahhlgcebgfeaaDoor
set_option linter.unusedVariables false
variable {H : Type}
theorem bulk1 (d : DataW H) : 1 ≤ Rows.uptoBulk d := by
  cases d with
  | lit l => cases l <;> simp [Rows.uptoBulk]
  | _ => simp [Rows.uptoBulk]
theorem bulk_len : ∀ l : List (DataW H), l.length ≤ Rows.uptoBulkAll l
  | [] => by simp
  | d :: r => by
    have h1 := bulk1 d
    have h2 := bulk_len r
    simp only [Rows.uptoBulkAll, List.length_cons]; omega
theorem bulk_mem {d : DataW H} : ∀ {l : List (DataW H)}, d ∈ l → Rows.uptoBulk d ≤ Rows.uptoBulkAll l
  | x :: r, h => by
    simp only [Rows.uptoBulkAll]
    rcases List.mem_cons.1 h with rfl | h
    · omega
    · have := bulk_mem h; omega
theorem bulk_le {l : List (DataW H)} (hk : Rows.uptoSmall H l = true) : Rows.uptoBulkAll l ≤ 1048576 := by simpa [Rows.uptoSmall] using hk
theorem bulk_slice {l el sp : List (DataW H)} (hk : Rows.uptoSmall H l = true) (h : DataW.slice el sp ∈ l) : el.length ≤ 1048576 := by
  have h1 := bulk_le hk
  have h2 := bulk_mem h
  have h3 := bulk_len el
  simp only [Rows.uptoBulk] at h2
  omega
theorem bulk_text {l : List (DataW H)} {bs : List UInt8} (hk : Rows.uptoSmall H l = true) (h : DataW.lit (.string bs) ∈ l) : bs.length ≤ 1048576 := by
  have h1 := bulk_le hk
  have h2 := bulk_mem h
  simp only [Rows.uptoBulk] at h2
  omega
theorem bulk_elem {l el sp : List (DataW H)} {d : DataW H} (hk : Rows.uptoSmall H l = true) (h : DataW.slice el sp ∈ l) (hd : d ∈ el) : Rows.uptoBulk d ≤ 1048576 := by
  have h1 := bulk_le hk
  have h2 := bulk_mem h
  have h3 := bulk_mem hd
  simp only [Rows.uptoBulk] at h2
  omega
theorem bulk_lit {bs : List UInt8} (h : Rows.uptoBulk (DataW.lit (H := H) (.string bs)) ≤ 1048576) : bs.length ≤ 1048576 := by
  simp only [Rows.uptoBulk] at h; omega
theorem bulk_part {d : DataW H} {ps : List (DataW H)} (h : Rows.uptoBulk (DataW.agg ps) ≤ 1048576) (hd : d ∈ ps) : Rows.uptoBulk d ≤ 1048576 := by
  have := bulk_mem hd
  simp only [Rows.uptoBulk] at h; omega
theorem bulk_inner {el sp : List (DataW H)} (h : Rows.uptoBulk (DataW.slice el sp) ≤ 1048576) : el.length ≤ 1048576 := by
  have := bulk_len el
  simp only [Rows.uptoBulk] at h; omega
end Go.Proofs.YtbahhlgcebgfeaaDoor
