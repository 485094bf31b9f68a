/- The reference of layer 2: Take. (gen_mtake.py) -/
import Derived.Test.YtdjehbagnkfkpaaDoorMtext
import Derived.Test.YtdjehbagnkfkpaaDoorMback
namespace Go.Proofs.YtdjehbagnkfkpaaDoor
set_option linter.unusedVariables false
set_option linter.unusedSimpArgs false
open Go.RowKit W
/-- Where the digits from place a on end. -/
def numE (l : List UInt8) (a : Nat) : Nat := a + ((l.drop a).takeWhile Dc.isD).length
theorem takeWhile_stop {l m : List UInt8} (h : ∀ c ∈ l, Dc.isD c = true) (hm : ∀ c r, m = c :: r → Dc.isD c = false) : (l ++ m).takeWhile Dc.isD = l := by
  induction l with
  | nil =>
    rcases m with _ | ⟨c, r⟩
    · rfl
    · rw [List.nil_append, List.takeWhile_cons_of_neg (by rw [hm c r rfl]; simp)]
  | cons c l ih =>
    rw [List.cons_append, List.takeWhile_cons_of_pos (h c (by simp)), ih (fun x hx => h x (by simp [hx]))]
theorem num_of {s : ByteArray} {a k : Nat} (h : a ≤ k) (hk : k ≤ s.size) (hd : ∀ j (hj : j < s.size), a ≤ j → j < k → Dc.isD s[j] = true) (stop : k = s.size ∨ ∃ q : k < s.size, Dc.isD s[k] = false) : numE s.data.toList a = k := by
  have hl : s.data.toList.length = s.size := by simp
  have e : s.data.toList.drop a = (s.data.toList.drop a).take (k - a) ++ s.data.toList.drop k := by
    have := List.take_append_drop (k - a) (s.data.toList.drop a)
    rw [List.drop_drop, show a + (k - a) = k by omega] at this
    exact this.symm
  unfold numE
  rw [e, takeWhile_stop]
  · rw [List.length_take, List.length_drop]; omega
  · intro c hc
    obtain ⟨i, hi, rfl⟩ := List.mem_iff_getElem.1 hc
    rw [List.length_take, List.length_drop] at hi
    rw [List.getElem_take, List.getElem_drop]
    exact hd (a + i) (by omega) (by omega) (by omega)
  · intro c r hc
    rcases stop with rfl | ⟨q, hq⟩
    · rw [List.drop_of_length_le (by omega)] at hc; cases hc
    · rw [List.drop_eq_getElem_cons (by omega)] at hc
      injection hc with h1 _
      rw [← h1]; exact hq
def takeV (s : ByteArray) (a : Nat) : ByteArray := s.extract a (numE s.data.toList a)
def takeF (s : ByteArray) (a : Nat) : ByteArray :=
  if numE s.data.toList a ≠ a ∧ s.data.toList[numE s.data.toList a]? = some 46 then s.extract (numE s.data.toList a + 1) (numE s.data.toList (numE s.data.toList a + 1)) else ⟨#[]⟩
def takeOk (s : ByteArray) (a : Nat) : Bool :=
  if numE s.data.toList a = a then false
  else if numE s.data.toList a = s.size then true
  else if s.data.toList[numE s.data.toList a]? = some 46 then decide (numE s.data.toList (numE s.data.toList a + 1) = s.size) && decide (numE s.data.toList a + 1 < numE s.data.toList (numE s.data.toList a + 1))
  else false
theorem take_none {s : ByteArray} {a : Nat} (h : numE s.data.toList a = a) : takeV s a = ByteArray.empty ∧ takeF s a = ⟨#[]⟩ ∧ takeOk s a = false := by
  unfold takeV takeF takeOk
  refine ⟨by rw [h]; apply ByteArray.ext; simp, ?_, by rw [if_pos h]⟩
  rw [if_neg (fun q => q.1 h)]
theorem take_whole {s : ByteArray} {a k : Nat} (e : numE s.data.toList a = k) (h : a < k) (hk : k = s.size) : takeV s a = s.extract a k ∧ takeF s a = ⟨#[]⟩ ∧ takeOk s a = true := by
  unfold takeV takeF takeOk
  have n : s.data.toList[k]? = none := List.getElem?_eq_none (by simp; omega)
  rw [e, n]
  exact ⟨rfl, by rw [if_neg (fun q => by cases q.2)], by rw [if_neg (by omega), if_pos hk]⟩
theorem take_bad {s : ByteArray} {a k : Nat} (e : numE s.data.toList a = k) (h : a < k) (hk : k < s.size) (n : s[k] ≠ 46) : takeV s a = s.extract a k ∧ takeF s a = ⟨#[]⟩ ∧ takeOk s a = false := by
  unfold takeV takeF takeOk
  have n' : s.data.toList[k]? = some s[k] := List.getElem?_eq_getElem (by simpa using hk)
  rw [e, n']
  have n2 : ¬ some s[k] = some 46 := by simpa using n
  exact ⟨rfl, by rw [if_neg (fun q => n2 q.2)], by rw [if_neg (by omega), if_neg (by omega), if_neg n2]⟩
theorem take_point {s : ByteArray} {a k m : Nat} (e : numE s.data.toList a = k) (h : a < k) (hk : k < s.size) (n : s[k] = 46) (em : numE s.data.toList (k + 1) = m) : takeV s a = s.extract a k ∧ takeF s a = s.extract (k + 1) m ∧ takeOk s a = (decide (m = s.size) && decide (k + 1 < m)) := by
  unfold takeV takeF takeOk
  have n' : s.data.toList[k]? = some s[k] := List.getElem?_eq_getElem (by simpa using hk)
  rw [e, n', n, em]
  exact ⟨rfl, by rw [if_pos ⟨by omega, rfl⟩], by rw [if_neg (by omega), if_neg (by omega), if_pos rfl]⟩
def takeP (w : World) (neg : Bool) (s : ByteArray) (a : Nat) (e : Ending) (w' : World) : Prop := e = .returned (.tuple #[.agg #[.bool neg, .string (takeV s a), .string (takeF s a)], .bool (takeOk s a)]) ∧ Below w.heap.size w w'
theorem takeP_of {w : World} {neg : Bool} {s : ByteArray} {a : Nat} {V F : ByteArray} {ok : Bool} (h : takeV s a = V ∧ takeF s a = F ∧ takeOk s a = ok) {w' : World} (b : Below w.heap.size w w') : takeP w neg s a (.returned (.tuple #[.agg #[.bool neg, .string V, .string F], .bool ok])) w' := by
  obtain ⟨rfl, rfl, rfl⟩ := h; exact ⟨rfl, b⟩
set_option maxRecDepth 100000 in
set_option maxHeartbeats 8000000 in
theorem take_pos (s : ByteArray) (w : World) (hs : s.size ≤ 140737488355328) (h0 : 0 < s.size) (z : ((s[0].toNat : Int) == 45) = false) :
    Calls Tryd.prog 49 #[.string s] w (takeP w false s 0) := by
  go_enter Tryd.func49, Tryd.ntmps49
  go_wp2_with fail
  go_loop [5] (fun i => ∃ k : Nat, 0 ≤ k ∧ k ≤ s.size ∧ i = .int .i64 k ∧ Hid (∀ j (hj : j < s.size), 0 ≤ j → j < k → Dc.isD s[j] = true)) (fun i => s.size - (intOf i).toNat)
  case atStart => exact ⟨0, by omega, by omega, rfl, fun j _ h1 h2 => by omega⟩
  case round =>
    obtain ⟨k, hak, hk, rfl, hd⟩ := hrel
    by_cases hlt : k < s.size
    · by_cases dg : 48 ≤ (s[k].toNat : Int) ∧ (s[k].toNat : Int) ≤ 57
      · obtain ⟨d1, d2⟩ := dg
        have N : Hid (∀ j (hj : j < s.size), 0 ≤ j → j < k + 1 → Dc.isD s[j] = true) := fun j hj h1 h2 => by
          by_cases e : j = k
          · subst e; exact isD_yes _ (by omega) (by omega)
          · exact hd.out j hj h1 (by omega)
        clear hd
        go_wp2_with fail
        go_round
        case rel => exact ⟨k + 1, by omega, by omega, by go_num, N⟩
        case measure => simp [intOf]; omega
      · have E := hide (num_of hak hk hd.out (.inr ⟨hlt, isD_no _ (by omega)⟩))
        have cs : (s[k].toNat : Int) < 48 ∨ (48 ≤ (s[k].toNat : Int) ∧ 57 < (s[k].toNat : Int)) := by omega
        clear hd dg
        have kn : ¬ k = s.size := by omega
        have kb : ((k : Int) == (s.size : Int)) = false := by rw [beq_eq_false_iff_ne]; omega
        by_cases ka : k = 0
        · subst ka
          have D := hide (take_none E.out)
          rcases cs with c1 | ⟨c1, c2⟩
          all_goals
            go_wp2_with fail
            refine bodyPost_ret (by simp [results, Tryd.results49, go_sem]; try rfl) rfl ?_
            refine takeP_of D.out ?_
            go_grown
        · have ka' : ((k : Int) == (0 : Int)) = false := by rw [beq_eq_false_iff_ne]; omega
          have kl : 0 < k := by omega
          by_cases pt : s[k] = 46
          · have pb : ((s[k].toNat : Int) != 46) = false := by rw [pt]; rfl
            have PT := hide pt
            have c1 : (s[k].toNat : Int) < 48 := by rw [pt]; decide
            clear pt cs
            go_wp2_with fail
            go_loop [5] (fun i => ∃ m : Nat, k + 1 ≤ m ∧ m ≤ s.size ∧ i = .int .i64 m ∧ Hid (∀ j (hj : j < s.size), k + 1 ≤ j → j < m → Dc.isD s[j] = true)) (fun i => s.size - (intOf i).toNat)
            case atStart => exact ⟨k + 1, by omega, by omega, by go_num, fun j _ h1 h2 => by omega⟩
            case round =>
              obtain ⟨m, hkm, hm, rfl, hd⟩ := hrel
              by_cases hlt2 : m < s.size
              · by_cases dg : 48 ≤ (s[m].toNat : Int) ∧ (s[m].toNat : Int) ≤ 57
                · obtain ⟨d1, d2⟩ := dg
                  have N : Hid (∀ j (hj : j < s.size), k + 1 ≤ j → j < m + 1 → Dc.isD s[j] = true) := fun j hj h1 h2 => by
                    by_cases e : j = m
                    · subst e; exact isD_yes _ (by omega) (by omega)
                    · exact hd.out j hj h1 (by omega)
                  clear hd
                  go_wp2_with fail
                  go_round
                  case rel => exact ⟨m + 1, by omega, by omega, by go_num, N⟩
                  case measure => simp [intOf]; omega
                · have EM := num_of hkm hm hd.out (.inr ⟨hlt2, isD_no _ (by omega)⟩)
                  have D := take_point E.out kl hlt PT.out EM
                  rw [show (decide (m = s.size) && decide (k + 1 < m)) = false by rw [decide_eq_false (by omega)]; rfl] at D
                  have DD := hide D
                  have cs : (s[m].toNat : Int) < 48 ∨ (48 ≤ (s[m].toNat : Int) ∧ 57 < (s[m].toNat : Int)) := by omega
                  have mb : ((m : Int) == (s.size : Int)) = false := by rw [beq_eq_false_iff_ne]; omega
                  clear hd dg D EM
                  rcases cs with c3 | ⟨c3, c4⟩
                  all_goals
                    go_wp2_with fail
                    try go_region
                    all_goals
                      try go_wp2_with fail
                      refine bodyPost_ret (by simp [results, Tryd.results49, go_sem]; try rfl) rfl ?_
                      refine takeP_of DD.out ?_
                      go_grown
              · have em : m = s.size := by omega
                have EM := num_of hkm hm hd.out (.inl em)
                have D := take_point E.out kl hlt PT.out EM
                clear hd EM
                subst em
                by_cases g : k + 1 < s.size
                · rw [show (decide (s.size = s.size) && decide (k + 1 < s.size)) = decide ((k : Int) + 1 < (s.size : Int)) by rw [decide_eq_true rfl, decide_eq_true g, decide_eq_true (by omega)]; rfl] at D
                  have DD := hide D
                  clear D
                  go_wp2_with fail
                  try go_region
                  all_goals
                    try go_wp2_with fail
                    refine bodyPost_ret (by simp [results, Tryd.results49, go_sem]; try rfl) rfl ?_
                    refine takeP_of DD.out ?_
                    go_grown
                · rw [show (decide (s.size = s.size) && decide (k + 1 < s.size)) = false by rw [decide_eq_false g]; simp] at D
                  have DD := hide D
                  have gi : ¬ (k : Int) + 1 < s.size := by omega
                  clear D
                  go_wp2_with fail
                  try go_region
                  all_goals
                    try go_wp2_with fail
                    refine bodyPost_ret (by simp [results, Tryd.results49, go_sem]; try rfl) rfl ?_
                    refine takeP_of DD.out ?_
                    go_grown
          · have pb : ((s[k].toNat : Int) != 46) = true := by
              rw [bne_iff_ne]; intro h; exact pt (UInt8.toNat_inj.1 (by show _ = 46; omega))
            have D := hide (take_bad E.out kl hlt pt)
            clear pt
            rcases cs with c1 | ⟨c1, c2⟩
            all_goals
              go_wp2_with fail
              refine bodyPost_ret (by simp [results, Tryd.results49, go_sem]; try rfl) rfl ?_
              refine takeP_of D.out ?_
              go_grown
    · have ek : k = s.size := by omega
      have E := hide (num_of hak hk hd.out (.inl ek))
      clear hd
      by_cases ka : k = 0
      · subst ka
        have D := hide (take_none E.out)
        have sz : s.size ≤ 0 := by omega
        clear ek
        exact absurd h0 (by omega)
      · have D := hide (take_whole E.out (by omega) ek)
        have ka' : ((k : Int) == (0 : Int)) = false := by rw [beq_eq_false_iff_ne]; omega
        have kb : ((k : Int) == (s.size : Int)) = true := by rw [beq_iff_eq]; omega
        clear ek
        go_wp2_with fail
        refine bodyPost_ret (by simp [results, Tryd.results49, go_sem]; try rfl) rfl ?_
        refine takeP_of D.out ?_
        go_grown
set_option maxRecDepth 100000 in
set_option maxHeartbeats 8000000 in
theorem take_neg (s : ByteArray) (w : World) (hs : s.size ≤ 140737488355328) (h0 : 0 < s.size) (z : ((s[0].toNat : Int) == 45) = true) :
    Calls Tryd.prog 49 #[.string s] w (takeP w true s 1) := by
  go_enter Tryd.func49, Tryd.ntmps49
  go_wp2_with fail
  go_loop [5] (fun i => ∃ k : Nat, 1 ≤ k ∧ k ≤ s.size ∧ i = .int .i64 k ∧ Hid (∀ j (hj : j < s.size), 1 ≤ j → j < k → Dc.isD s[j] = true)) (fun i => s.size - (intOf i).toNat)
  case atStart => exact ⟨1, by omega, by omega, rfl, fun j _ h1 h2 => by omega⟩
  case round =>
    obtain ⟨k, hak, hk, rfl, hd⟩ := hrel
    by_cases hlt : k < s.size
    · by_cases dg : 48 ≤ (s[k].toNat : Int) ∧ (s[k].toNat : Int) ≤ 57
      · obtain ⟨d1, d2⟩ := dg
        have N : Hid (∀ j (hj : j < s.size), 1 ≤ j → j < k + 1 → Dc.isD s[j] = true) := fun j hj h1 h2 => by
          by_cases e : j = k
          · subst e; exact isD_yes _ (by omega) (by omega)
          · exact hd.out j hj h1 (by omega)
        clear hd
        go_wp2_with fail
        go_round
        case rel => exact ⟨k + 1, by omega, by omega, by go_num, N⟩
        case measure => simp [intOf]; omega
      · have E := hide (num_of hak hk hd.out (.inr ⟨hlt, isD_no _ (by omega)⟩))
        have cs : (s[k].toNat : Int) < 48 ∨ (48 ≤ (s[k].toNat : Int) ∧ 57 < (s[k].toNat : Int)) := by omega
        clear hd dg
        have kn : ¬ k = s.size := by omega
        have kb : ((k : Int) == (s.size : Int)) = false := by rw [beq_eq_false_iff_ne]; omega
        by_cases ka : k = 1
        · subst ka
          have D := hide (take_none E.out)
          rcases cs with c1 | ⟨c1, c2⟩
          all_goals
            go_wp2_with fail
            refine bodyPost_ret (by simp [results, Tryd.results49, go_sem]; try rfl) rfl ?_
            refine takeP_of D.out ?_
            go_grown
        · have ka' : ((k : Int) == (1 : Int)) = false := by rw [beq_eq_false_iff_ne]; omega
          have kl : 1 < k := by omega
          by_cases pt : s[k] = 46
          · have pb : ((s[k].toNat : Int) != 46) = false := by rw [pt]; rfl
            have PT := hide pt
            have c1 : (s[k].toNat : Int) < 48 := by rw [pt]; decide
            clear pt cs
            go_wp2_with fail
            go_loop [5] (fun i => ∃ m : Nat, k + 1 ≤ m ∧ m ≤ s.size ∧ i = .int .i64 m ∧ Hid (∀ j (hj : j < s.size), k + 1 ≤ j → j < m → Dc.isD s[j] = true)) (fun i => s.size - (intOf i).toNat)
            case atStart => exact ⟨k + 1, by omega, by omega, by go_num, fun j _ h1 h2 => by omega⟩
            case round =>
              obtain ⟨m, hkm, hm, rfl, hd⟩ := hrel
              by_cases hlt2 : m < s.size
              · by_cases dg : 48 ≤ (s[m].toNat : Int) ∧ (s[m].toNat : Int) ≤ 57
                · obtain ⟨d1, d2⟩ := dg
                  have N : Hid (∀ j (hj : j < s.size), k + 1 ≤ j → j < m + 1 → Dc.isD s[j] = true) := fun j hj h1 h2 => by
                    by_cases e : j = m
                    · subst e; exact isD_yes _ (by omega) (by omega)
                    · exact hd.out j hj h1 (by omega)
                  clear hd
                  go_wp2_with fail
                  go_round
                  case rel => exact ⟨m + 1, by omega, by omega, by go_num, N⟩
                  case measure => simp [intOf]; omega
                · have EM := num_of hkm hm hd.out (.inr ⟨hlt2, isD_no _ (by omega)⟩)
                  have D := take_point E.out kl hlt PT.out EM
                  rw [show (decide (m = s.size) && decide (k + 1 < m)) = false by rw [decide_eq_false (by omega)]; rfl] at D
                  have DD := hide D
                  have cs : (s[m].toNat : Int) < 48 ∨ (48 ≤ (s[m].toNat : Int) ∧ 57 < (s[m].toNat : Int)) := by omega
                  have mb : ((m : Int) == (s.size : Int)) = false := by rw [beq_eq_false_iff_ne]; omega
                  clear hd dg D EM
                  rcases cs with c3 | ⟨c3, c4⟩
                  all_goals
                    go_wp2_with fail
                    try go_region
                    all_goals
                      try go_wp2_with fail
                      refine bodyPost_ret (by simp [results, Tryd.results49, go_sem]; try rfl) rfl ?_
                      refine takeP_of DD.out ?_
                      go_grown
              · have em : m = s.size := by omega
                have EM := num_of hkm hm hd.out (.inl em)
                have D := take_point E.out kl hlt PT.out EM
                clear hd EM
                subst em
                by_cases g : k + 1 < s.size
                · rw [show (decide (s.size = s.size) && decide (k + 1 < s.size)) = decide ((k : Int) + 1 < (s.size : Int)) by rw [decide_eq_true rfl, decide_eq_true g, decide_eq_true (by omega)]; rfl] at D
                  have DD := hide D
                  clear D
                  go_wp2_with fail
                  try go_region
                  all_goals
                    try go_wp2_with fail
                    refine bodyPost_ret (by simp [results, Tryd.results49, go_sem]; try rfl) rfl ?_
                    refine takeP_of DD.out ?_
                    go_grown
                · rw [show (decide (s.size = s.size) && decide (k + 1 < s.size)) = false by rw [decide_eq_false g]; simp] at D
                  have DD := hide D
                  have gi : ¬ (k : Int) + 1 < s.size := by omega
                  clear D
                  go_wp2_with fail
                  try go_region
                  all_goals
                    try go_wp2_with fail
                    refine bodyPost_ret (by simp [results, Tryd.results49, go_sem]; try rfl) rfl ?_
                    refine takeP_of DD.out ?_
                    go_grown
          · have pb : ((s[k].toNat : Int) != 46) = true := by
              rw [bne_iff_ne]; intro h; exact pt (UInt8.toNat_inj.1 (by show _ = 46; omega))
            have D := hide (take_bad E.out kl hlt pt)
            clear pt
            rcases cs with c1 | ⟨c1, c2⟩
            all_goals
              go_wp2_with fail
              refine bodyPost_ret (by simp [results, Tryd.results49, go_sem]; try rfl) rfl ?_
              refine takeP_of D.out ?_
              go_grown
    · have ek : k = s.size := by omega
      have E := hide (num_of hak hk hd.out (.inl ek))
      clear hd
      by_cases ka : k = 1
      · subst ka
        have D := hide (take_none E.out)
        have sz : s.size ≤ 1 := by omega
        clear ek
        go_wp2_with fail
        refine bodyPost_ret (by simp [results, Tryd.results49, go_sem]; try rfl) rfl ?_
        refine takeP_of D.out ?_
        go_grown
      · have D := hide (take_whole E.out (by omega) ek)
        have ka' : ((k : Int) == (1 : Int)) = false := by rw [beq_eq_false_iff_ne]; omega
        have kb : ((k : Int) == (s.size : Int)) = true := by rw [beq_iff_eq]; omega
        clear ek
        go_wp2_with fail
        refine bodyPost_ret (by simp [results, Tryd.results49, go_sem]; try rfl) rfl ?_
        refine takeP_of D.out ?_
        go_grown
set_option maxRecDepth 100000 in
theorem take_empty (w : World) : Calls Tryd.prog 49 #[.string ⟨#[]⟩] w (takeP w false ⟨#[]⟩ 0) := by
  have D := hide (take_none (s := ⟨#[]⟩) (a := 0) rfl)
  go_enter Tryd.func49, Tryd.ntmps49
  go_wp2_with fail
  go_loop [5] (fun i => i = .int .i64 0) (fun i => 0)
  case atStart => rfl
  case round =>
    obtain rfl := hrel
    go_wp2_with fail
    refine bodyPost_ret (by simp [results, Tryd.results49, go_sem]; try rfl) rfl ?_
    refine takeP_of D.out ?_
    go_grown
end Go.Proofs.YtdjehbagnkfkpaaDoor
