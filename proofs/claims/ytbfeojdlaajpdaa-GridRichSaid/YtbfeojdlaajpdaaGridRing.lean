/-
  Plain arithmetic of a ring of dues: all are done; without one of them, none is.
-/
import Derived.Test.YtbfeojdlaajpdaaGridS
namespace Go.Proofs.Ytbfeojdlaajpdaa
set_option linter.unusedVariables false

theorem grid_mk {has : List Int} {l : List (Int × Int × Int)} (h1 : has.length = 31) (h2 : ∀ n ∈ has, hasB n = true) (h3 : l.length ≤ 60) (h4 : ∀ p ∈ l, dueO p) (h5 : amtB (has.sum + duesS l) = true) : gridE has l = 0 := by
  have hn : netE l = 0 := by unfold netE; rw [if_neg (by omega)]; exact due_mk h4
  unfold gridE
  rw [if_neg (by omega), if_pos (List.all_eq_true.2 h2), hn, if_neg (by simp), if_pos h5]
theorem duesS_small {l : List (Int × Int × Int)} {b : Int} (h : ∀ p ∈ l, 0 ≤ p.2.2 ∧ p.2.2 ≤ b) : 0 ≤ duesS l ∧ duesS l ≤ b * (l.length : Int) := by
  induction l with
  | nil => simp [duesS]
  | cons p l ih =>
    have h1 := ih fun q hq => h q (by simp [hq])
    have h2 := h p (by simp)
    have e : b * ((l.length : Int) + 1) = b * (l.length : Int) + b := by rw [Int.mul_add, Int.mul_one]
    rw [duesS, List.length_cons, Int.natCast_add, Int.natCast_one, e]; omega
/-- the due of a ring from i on -/
def rE (m : Nat) (n : Int) (i : Nat) : Int × Int × Int := ((i : Int), ((i : Int) + 1).tmod (m : Int), n)
theorem nxt_eq {m i : Nat} (h : i < m) : ((i : Int) + 1).tmod (m : Int) = if i + 1 = m then 0 else (i : Int) + 1 := by
  by_cases e : i + 1 = m
  · rw [if_pos e, show (i : Int) + 1 = (m : Int) by omega, Int.tmod_self]
  · rw [if_neg e, Int.tmod_eq_of_lt (by omega) (by omega)]
def ringL (m : Nat) (n : Int) (k : Nat) : List (Int × Int × Int) := (List.range k).map (rE m n)
theorem ring_len (m : Nat) (n : Int) (k : Nat) : (ringL m n k).length = k := by simp [ringL]
theorem ring_s (m : Nat) (n : Int) (k : Nat) : ringL m n (k + 1) = ringL m n k ++ [rE m n k] := by simp [ringL, List.range_succ]
theorem ring_get {m : Nat} {n : Int} {k i : Nat} (h : i < k) : (ringL m n k).getD i default = rE m n i := by
  rw [List.getD_eq_getElem?_getD]; simp [ringL, h]
theorem ring_mem {m : Nat} {n : Int} {k : Nat} {p : Int × Int × Int} (h : p ∈ ringL m n k) : ∃ i, i < k ∧ p = rE m n i := by
  obtain ⟨i, hi, e⟩ := List.mem_map.1 h
  exact ⟨i, List.mem_range.1 hi, e.symm⟩
def lessL (m : Nat) (n out : Int) : Nat → List (Int × Int × Int)
  | 0 => []
  | k + 1 => if (k : Int) = out then lessL m n out k else lessL m n out k ++ [rE m n k]
theorem less_t {m : Nat} {n out : Int} {k : Nat} (h : (k : Int) = out) : lessL m n out (k + 1) = lessL m n out k := by simp [lessL, h]
theorem less_f {m : Nat} {n out : Int} {k : Nat} (h : ¬ (k : Int) = out) : lessL m n out (k + 1) = lessL m n out k ++ [rE m n k] := by simp [lessL, h]
theorem less_len (m : Nat) (n out : Int) (k : Nat) : (lessL m n out k).length ≤ k := by
  induction k with
  | zero => exact Nat.le_refl _
  | succ k ih =>
    by_cases h : (k : Int) = out
    · rw [less_t h]; omega
    · rw [less_f h, List.length_append, List.length_singleton]; omega
theorem less_mem {m : Nat} {n out : Int} {k : Nat} {p : Int × Int × Int} (h : p ∈ lessL m n out k) : ∃ i : Nat, i < k ∧ (i : Int) ≠ out ∧ p = rE m n i := by
  induction k with
  | zero => cases h
  | succ k ih =>
    by_cases e : (k : Int) = out
    · rw [less_t e] at h
      obtain ⟨i, h1, h2⟩ := ih h
      exact ⟨i, by omega, h2⟩
    · rw [less_f e, List.mem_append] at h
      rcases h with h | h
      · obtain ⟨i, h1, h2⟩ := ih h
        exact ⟨i, by omega, h2⟩
      · exact ⟨k, by omega, e, by simpa using h⟩
theorem less_all {m : Nat} {n out : Int} {k : Nat} (h : out < 0 ∨ (k : Int) ≤ out) : lessL m n out k = ringL m n k := by
  induction k with
  | zero => rfl
  | succ k ih => rw [less_f (by omega), ring_s, ih (by omega)]
theorem rE_due {m i : Nat} {n : Int} (hm : 2 ≤ m) (hm1 : m ≤ 31) (hn : 1 ≤ n) (hn1 : n ≤ 1000000) (h : i < m) : dueO (rE m n i) := by
  unfold dueO dueB rE
  simp only
  rw [nxt_eq h]
  by_cases e : i + 1 = m
  · rw [if_pos e]; exact ⟨decide_eq_true (by omega), by omega⟩
  · rw [if_neg e]; exact ⟨decide_eq_true (by omega), by omega⟩
theorem zero_has : ∀ z ∈ List.replicate 31 (0 : Int), hasB z = true := fun z h => by rw [(List.mem_replicate.1 h).2]; decide
theorem zero_sum : (List.replicate 31 (0 : Int)).sum = 0 := by decide
theorem zero_at (q : Nat) : (List.replicate 31 (0 : Int)).getD q 0 = 0 := by
  rw [List.getD_eq_getElem?_getD, List.getElem?_replicate]; split <;> rfl
theorem ring_ok {m : Nat} {n : Int} {l : List (Int × Int × Int)} (hm : 2 ≤ m) (hm1 : m ≤ 31) (hn : 1 ≤ n) (hn1 : n ≤ 1000000) (hl : l.length ≤ m) (h : ∀ p ∈ l, ∃ i, i < m ∧ p = rE m n i) : gridE (List.replicate 31 0) l = 0 := by
  refine grid_mk (by simp) zero_has (by omega) (fun p hp => ?_) ?_
  · obtain ⟨i, hi, rfl⟩ := h p hp
    exact rE_due hm hm1 hn hn1 hi
  · have := duesS_small (l := l) (b := 1000000) fun p hp => by
      obtain ⟨i, hi, rfl⟩ := h p hp
      simp only [rE]; omega
    rw [zero_sum]
    unfold amtB
    exact decide_eq_true (by omega)
/-- what a list of dues brings a party -/
def flowsL (q : Nat) : List (Int × Int × Int) → Int
  | [] => 0
  | p :: l => flow p q + flowsL q l
theorem flowsL_snoc (q : Nat) (l : List (Int × Int × Int)) (p : Int × Int × Int) : flowsL q (l ++ [p]) = flowsL q l + flow p q := by
  induction l with
  | nil => simp [flowsL]
  | cons a l ih => simp only [List.cons_append, flowsL, ih]; omega
theorem flows_snoc (l : List (Int × Int × Int)) (q : Nat) (d : List Nat) (i : Nat) : flows l q (d ++ [i]) = flows l q d + flow (l.getD i default) q := by
  induction d with
  | nil => simp [flows]
  | cons a d ih => simp only [List.cons_append, flows, ih]; omega
theorem flows_range (l : List (Int × Int × Int)) (q k : Nat) (h : k ≤ l.length) : flows l q (List.range k) = flowsL q (l.take k) := by
  induction k with
  | zero => rfl
  | succ k ih =>
    rw [List.range_succ, flows_snoc, ih (by omega), List.take_add_one, List.getElem?_eq_getElem (show k < l.length by omega)]
    simp only [Option.toList_some]
    rw [flowsL_snoc, List.getD_eq_getElem?_getD, List.getElem?_eq_getElem (show k < l.length by omega)]
    rfl
theorem flows_all (l : List (Int × Int × Int)) (q : Nat) : flows l q (List.range l.length) = flowsL q l := by
  rw [flows_range l q _ (Nat.le_refl _), List.take_length]
theorem ring_flows {m : Nat} (n : Int) (q k : Nat) (hm : 2 ≤ m) (hk : k ≤ m) : flowsL q (ringL m n k) = (if (1 ≤ q ∧ q ≤ k ∧ q < m) ∨ (q = 0 ∧ k = m) then n else 0) - (if q < k then n else 0) := by
  induction k with
  | zero => rw [if_neg (by omega), if_neg (by omega)]; rfl
  | succ k ih =>
    rw [ring_s, flowsL_snoc, ih (by omega)]
    unfold flow rE
    simp only
    rw [nxt_eq (show k < m by omega)]
    by_cases e : k + 1 = m
    · rw [if_pos e]
      repeat' split
      all_goals omega
    · rw [if_neg e]
      repeat' split
      all_goals omega
theorem ring_fair {m : Nat} {n : Int} (hm : 2 ≤ m) (hm1 : m ≤ 31) (hn : 1 ≤ n) (hn1 : n ≤ 1000000) (q : Nat) (hq : q < 31) : (settleF (ringL m n m) (List.replicate 31 0) (List.range (ringL m n m).length)).getD q 0 = 0 := by
  rw [settle_at (fun p hp => by obtain ⟨i, hi, rfl⟩ := ring_mem hp; exact rE_due hm hm1 hn hn1 hi) _ (fun i hi => List.mem_range.1 hi) _ (by simp) q hq, flows_all, ring_flows n q m hm (Nat.le_refl _), zero_at]
  repeat' split
  all_goals omega
/-- one who pays and gets nothing is short -/
theorem flows_neg {l : List (Int × Int × Int)} (hl : ∀ p ∈ l, dueO p) (q : Nat) (d : List Nat) (hd : ∀ i ∈ d, i < l.length) (h1 : ∀ i ∈ d, (l.getD i default).2.1 ≠ (q : Int)) : flows l q d ≤ 0 ∧ (∀ i ∈ d, (l.getD i default).1 = (q : Int) → flows l q d < 0) := by
  induction d with
  | nil => simp [flows]
  | cons i d ih =>
    obtain ⟨h2, h3⟩ := ih (fun j hj => hd j (by simp [hj])) fun j hj => h1 j (by simp [hj])
    have h4 := h1 i (by simp)
    have h5 := due_t (hl _ (getP_mem (hd i (by simp)))).1
    have h6 : flow (l.getD i default) q ≤ 0 ∧ ((l.getD i default).1 = (q : Int) → flow (l.getD i default) q < 0) := by
      unfold flow
      rw [if_neg h4]
      split <;> omega
    refine ⟨by simp only [flows]; omega, fun j hj e => ?_⟩
    simp only [flows]
    rcases List.mem_cons.1 hj with rfl | hj
    · have := h6.2 e; omega
    · have := h3 j hj e; omega
theorem less_none {m : Nat} {n out : Int} (hm : 2 ≤ m) (hm1 : m ≤ 31) (hn : 1 ≤ n) (hn1 : n ≤ 1000000) (h0 : 0 ≤ out) (h1 : out < (m : Int)) {ds : List Nat} (hd : ∀ i ∈ ds, i < (lessL m n out m).length) (h : ∀ q, q < 31 → ¬ (settleF (lessL m n out m) (List.replicate 31 0) ds).getD q 0 < 0) : ds = [] := by
  have hdu : ∀ p ∈ lessL m n out m, dueO p := fun p hp => by obtain ⟨i, hi, _, rfl⟩ := less_mem hp; exact rE_due hm hm1 hn hn1 hi
  have hel : ∀ i ∈ ds, ∃ k : Nat, k < m ∧ (k : Int) ≠ out ∧ (lessL m n out m).getD i default = rE m n k := fun i hi => less_mem (getP_mem (hd i hi))
  have hF : ∀ q, q < 31 → 0 ≤ flows (lessL m n out m) q ds := fun q hq => by
    have := h q hq
    rw [settle_at hdu ds hd _ (by simp) q hq, zero_at] at this
    omega
  -- who pays is paid by the one ahead
  have back : ∀ q : Nat, q < m → (∃ i ∈ ds, ((lessL m n out m).getD i default).1 = (q : Int)) → ∃ k : Nat, k < m ∧ (if k + 1 = m then 0 else (k : Int) + 1) = (q : Int) ∧ ∃ i ∈ ds, ((lessL m n out m).getD i default).1 = (k : Int) := by
    rintro q hq ⟨i, hi, e⟩
    apply Classical.byContradiction
    intro hc
    have h2 := (flows_neg hdu q ds hd fun j hj e2 => hc (by
      obtain ⟨k, hk, hne, ek⟩ := hel j hj
      refine ⟨k, hk, ?_, j, hj, by rw [ek]; rfl⟩
      rw [ek] at e2
      rw [← nxt_eq hk]
      exact e2)).2 i hi e
    have := hF q (by omega)
    omega
  have down : ∀ q : Nat, q < m → (∃ i ∈ ds, ((lessL m n out m).getD i default).1 = (q : Int)) → ∀ r, r ≤ q → ∃ i ∈ ds, ((lessL m n out m).getD i default).1 = ((r : Nat) : Int) := by
    intro q
    induction q with
    | zero => intro _ hA r hr; obtain rfl : r = 0 := by omega
              exact hA
    | succ q ih =>
      intro hq hA r hr
      rcases Nat.lt_or_ge r (q + 1) with h3 | h3
      · obtain ⟨k, hk, e, hB⟩ := back (q + 1) hq hA
        have : k = q := by split at e <;> omega
        subst this
        exact ih (by omega) hB r (by omega)
      · obtain rfl : r = q + 1 := by omega
        exact hA
  cases ds with
  | nil => rfl
  | cons i d =>
    exfalso
    obtain ⟨k, hk, _, ek⟩ := hel i (by simp)
    have hA := down k hk ⟨i, by simp, by rw [ek]; rfl⟩ 0 (Nat.zero_le _)
    obtain ⟨k2, hk2, e, hB⟩ := back 0 (by omega) hA
    have : k2 + 1 = m := by
      apply Classical.byContradiction
      intro hne
      rw [if_neg hne] at e
      omega
    obtain ⟨o, ho⟩ : ∃ o : Nat, out = (o : Int) := ⟨out.toNat, by omega⟩
    obtain ⟨j, hj, e3⟩ := down k2 hk2 hB o (by omega)
    obtain ⟨k3, _, hne, e4⟩ := hel j hj
    rw [e4] at e3
    exact hne (by rw [ho]; exact e3)

end Go.Proofs.Ytbfeojdlaajpdaa
