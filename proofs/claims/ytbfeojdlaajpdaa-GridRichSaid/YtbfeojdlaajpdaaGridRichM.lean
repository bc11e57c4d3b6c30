/-
  Plain arithmetic of parties that have all that is due from them.
-/
import Derived.Test.YtbfeojdlaajpdaaGridRing
namespace Go.Proofs.Ytbfeojdlaajpdaa
set_option linter.unusedVariables false

/-- what the first k dues take from a party -/
def fromS (ps : List (Int × Int × Int)) (q : Int) : Nat → Int
  | 0 => 0
  | k + 1 => fromS ps q k + (if (ps.getD k default).1 = q then (ps.getD k default).2.2 else 0)
def richN (ps : List (Int × Int × Int)) (k : Nat) : List Int := (List.range 31).map fun q : Nat => fromS ps (q : Int) k
theorem rich_len (ps : List (Int × Int × Int)) (k : Nat) : (richN ps k).length = 31 := by simp [richN]
theorem rich_zero (ps : List (Int × Int × Int)) : richN ps 0 = List.replicate 31 0 := by
  refine List.ext_getElem (by simp [richN]) fun i h1 h2 => ?_
  rw [List.getElem_replicate]
  simp only [richN, List.getElem_map, fromS]
theorem rich_get (ps : List (Int × Int × Int)) (k q : Nat) (h : q < 31) : (richN ps k).getD q 0 = fromS ps (q : Int) k := by
  rw [List.getD_eq_getElem?_getD]
  simp [richN, h]
theorem rich_set (ps : List (Int × Int × Int)) (k q : Nat) (h : q < 31) (e : (ps.getD k default).1 = (q : Int)) : (richN ps k).set q (fromS ps (q : Int) k + (ps.getD k default).2.2) = richN ps (k + 1) := by
  apply List.ext_getElem
  · simp [richN]
  · intro j h1 h2
    rw [List.getElem_set]
    by_cases hq : q = j
    · subst hq
      simp only [richN, List.getElem_map, List.getElem_range, fromS]
      rw [if_pos True.intro, if_pos e]
    · rw [if_neg hq]
      have : ¬ (ps.getD k default).1 = ((j : Nat) : Int) := by omega
      simp only [richN, List.getElem_map, List.getElem_range, fromS]
      rw [if_neg this, Int.add_zero]
theorem dues_take {l : List (Int × Int × Int)} {k : Nat} (h : k < l.length) : duesS (l.take (k + 1)) = duesS (l.take k) + (l.getD k default).2.2 := by
  rw [List.take_add_one, List.getElem?_eq_getElem h, duesS_append, List.getD_eq_getElem?_getD, List.getElem?_eq_getElem h]
  simp [duesS]
theorem rich_sum {ps : List (Int × Int × Int)} (hd : ∀ p ∈ ps, dueO p) (k : Nat) (h : k ≤ ps.length) : (richN ps k).sum = duesS (ps.take k) := by
  induction k with
  | zero => rw [rich_zero]; simp [duesS]
  | succ k ih =>
    have hb := due_t (hd _ (getP_mem (show k < ps.length by omega))).1
    obtain ⟨q, hq⟩ : ∃ q : Nat, (ps.getD k default).1 = (q : Int) := ⟨(ps.getD k default).1.toNat, by omega⟩
    rw [← rich_set ps k q (by omega) hq, set_sumI (by rw [rich_len]; omega), rich_get ps k q (by omega), ih (by omega), dues_take (by omega)]
    omega
theorem fromS_bd {ps : List (Int × Int × Int)} (hd : ∀ p ∈ ps, dueO p) (q : Int) (k : Nat) (h : k ≤ ps.length) : 0 ≤ fromS ps q k ∧ fromS ps q k ≤ duesS (ps.take k) := by
  induction k with
  | zero => simp [fromS, duesS]
  | succ k ih =>
    have hb := due_t (hd _ (getP_mem (show k < ps.length by omega))).1
    have := ih (by omega)
    rw [dues_take (by omega)]
    simp only [fromS]
    split <;> omega
theorem dues_le {ps : List (Int × Int × Int)} (hd : ∀ p ∈ ps, dueO p) (k : Nat) : 0 ≤ duesS (ps.take k) ∧ duesS (ps.take k) ≤ duesS ps := by
  have h1 := (duesS_bd (l := ps.take k) fun p hp => hd p (List.mem_of_mem_take hp)).1
  have h2 := (duesS_bd (l := ps.drop k) fun p hp => hd p (List.mem_of_mem_drop hp)).1
  have h3 : duesS ps = duesS (ps.take k) + duesS (ps.drop k) := by rw [← duesS_append, List.take_append_drop]
  omega
theorem rich_flow {ps : List (Int × Int × Int)} (hd : ∀ p ∈ ps, dueO p) (q : Nat) (k : Nat) (h : k ≤ ps.length) : 0 ≤ fromS ps (q : Int) k + flowsL q (ps.take k) := by
  induction k with
  | zero => simp [fromS, flowsL]
  | succ k ih =>
    have hk : k < ps.length := by omega
    have hb := due_t (hd _ (getP_mem hk)).1
    have := ih (by omega)
    rw [List.take_add_one, List.getElem?_eq_getElem hk]
    simp only [Option.toList_some]
    rw [flowsL_snoc]
    have e : ps[k] = ps.getD k default := by rw [List.getD_eq_getElem?_getD, List.getElem?_eq_getElem hk]; rfl
    rw [e]
    simp only [fromS]
    unfold flow
    split <;> split <;> omega
theorem rich_ok {ps : List (Int × Int × Int)} (hg : gridE (List.replicate 31 0) ps = 0) (hs : duesS ps ≤ 576460752303423488) : gridE (richN ps ps.length) ps = 0 := by
  obtain ⟨_, _, h60, hd, _⟩ := grid_0 hg
  refine grid_mk (rich_len _ _) (fun z hz => ?_) h60 hd ?_
  · obtain ⟨q, hq, rfl⟩ := List.mem_map.1 hz
    have h1 := fromS_bd hd (q : Int) ps.length (Nat.le_refl _)
    have h2 := dues_le hd ps.length
    exact decide_eq_true (by omega)
  · have h2 := dues_le hd ps.length
    rw [rich_sum hd _ (Nat.le_refl _), List.take_length]
    rw [List.take_length] at h2
    unfold amtB
    exact decide_eq_true (by omega)
theorem rich_fair {ps : List (Int × Int × Int)} (hg : gridE (List.replicate 31 0) ps = 0) (q : Nat) (hq : q < 31) : ¬ (settleF ps (richN ps ps.length) (List.range ps.length)).getD q 0 < 0 := by
  obtain ⟨_, _, h60, hd, _⟩ := grid_0 hg
  rw [settle_at hd _ (fun i hi => List.mem_range.1 hi) _ (rich_len _ _) q hq, flows_all, rich_get ps _ q hq]
  have := rich_flow hd q ps.length (Nat.le_refl _)
  rw [List.take_length] at this
  omega
/-- those of the first party -/
def outN (ps : List (Int × Int × Int)) : Nat → List (Int × Int × Int)
  | 0 => []
  | k + 1 => if (ps.getD k default).1 = 0 then outN ps k ++ [ps.getD k default] else outN ps k
theorem out_t {ps : List (Int × Int × Int)} {k : Nat} (h : (ps.getD k default).1 = 0) : outN ps (k + 1) = outN ps k ++ [ps.getD k default] := by simp only [outN]; rw [if_pos h]
theorem out_f {ps : List (Int × Int × Int)} {k : Nat} (h : ¬ (ps.getD k default).1 = 0) : outN ps (k + 1) = outN ps k := by simp only [outN]; rw [if_neg h]
theorem out_len (ps : List (Int × Int × Int)) (k : Nat) : (outN ps k).length ≤ k := by
  induction k with
  | zero => exact Nat.le_refl _
  | succ k ih =>
    by_cases h : (ps.getD k default).1 = 0
    · rw [out_t h, List.length_append, List.length_singleton]; omega
    · rw [out_f h]; omega
theorem out_mem {ps : List (Int × Int × Int)} {k : Nat} (hk : k ≤ ps.length) {p : Int × Int × Int} (h : p ∈ outN ps k) : p ∈ ps ∧ p.1 = 0 := by
  induction k with
  | zero => cases h
  | succ k ih =>
    by_cases e : (ps.getD k default).1 = 0
    · rw [out_t e, List.mem_append] at h
      rcases h with h | h
      · exact ih (by omega) h
      · obtain rfl : p = ps.getD k default := by simpa using h
        exact ⟨getP_mem (by omega), e⟩
    · rw [out_f e] at h; exact ih (by omega) h
theorem out_sum {ps : List (Int × Int × Int)} (hd : ∀ p ∈ ps, dueO p) (k : Nat) (hk : k ≤ ps.length) : 0 ≤ duesS (outN ps k) ∧ duesS (outN ps k) ≤ duesS (ps.take k) := by
  induction k with
  | zero => simp [outN, duesS]
  | succ k ih =>
    have hb := due_t (hd _ (getP_mem (show k < ps.length by omega))).1
    have := ih (by omega)
    rw [dues_take (by omega)]
    by_cases e : (ps.getD k default).1 = 0
    · rw [out_t e, duesS_append]
      simp only [duesS]; omega
    · rw [out_f e]; omega
theorem out_ok {ps : List (Int × Int × Int)} (hg : gridE (List.replicate 31 0) ps = 0) : gridE (List.replicate 31 0) (outN ps ps.length) = 0 := by
  obtain ⟨_, _, h60, hd, hs⟩ := grid_0 hg
  have h1 := out_len ps ps.length
  refine grid_mk (by simp) zero_has (by omega) (fun p hp => hd p (out_mem (Nat.le_refl _) hp).1) ?_
  have h2 := out_sum hd ps.length (Nat.le_refl _)
  have h3 := amt_t hs
  rw [List.take_length] at h2
  rw [zero_sum] at h3 ⊢
  unfold amtB
  exact decide_eq_true (by omega)
theorem out_none {ps : List (Int × Int × Int)} (hg : gridE (List.replicate 31 0) ps = 0) {ds : List Nat} (hd : ∀ i ∈ ds, i < (outN ps ps.length).length) (h : ∀ q, q < 31 → ¬ (settleF (outN ps ps.length) (List.replicate 31 0) ds).getD q 0 < 0) : ds = [] := by
  obtain ⟨_, _, _, hdu, _⟩ := grid_0 (out_ok hg)
  have h0 := h 0 (by omega)
  rw [settle_at hdu ds hd _ (by simp) 0 (by omega), zero_at] at h0
  have hfr : ∀ i ∈ ds, ((outN ps ps.length).getD i default).1 = 0 := fun i hi => (out_mem (Nat.le_refl _) (getP_mem (hd i hi))).2
  have hto : ∀ i ∈ ds, ((outN ps ps.length).getD i default).2.1 ≠ ((0 : Nat) : Int) := fun i hi e => by
    have := (hdu _ (getP_mem (hd i hi))).2
    rw [hfr i hi] at this
    exact this e.symm
  cases ds with
  | nil => rfl
  | cons i d =>
    have := (flows_neg hdu 0 (i :: d) hd hto).2 i (by simp) (hfr i (by simp))
    omega

end Go.Proofs.Ytbfeojdlaajpdaa
