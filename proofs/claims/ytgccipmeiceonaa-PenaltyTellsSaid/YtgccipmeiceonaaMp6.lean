/-
  Merged: MoneyMath, GridMath.
-/
import Derived.Below
-- MoneyMath
namespace Go.Proofs.Ytgccipmeiceonaa

/-- an amount: from -2^60 to 2^60 -/
def amtB (a : Int) : Bool := decide (-1152921504606846976 ≤ a ∧ a ≤ 1152921504606846976)
theorem amt_t {a : Int} (h : amtB a = true) : -1152921504606846976 ≤ a ∧ a ≤ 1152921504606846976 := of_decide_eq_true h
theorem amt_f {a : Int} (h : amtB a = false) : ¬ (-1152921504606846976 ≤ a ∧ a ≤ 1152921504606846976) := of_decide_eq_false h
theorem amt_mk {a : Int} (h1 : -1152921504606846976 ≤ a) (h2 : a ≤ 1152921504606846976) : amtB a = true := decide_eq_true ⟨h1, h2⟩
theorem amt_no {a : Int} (h : a < -1152921504606846976 ∨ 1152921504606846976 < a) : amtB a = false := decide_eq_false (by omega)

/-- the error of the first number that is no amount -/
def allE : List Int → Int
  | [] => 0
  | a :: l => if amtB a then allE l else 3
theorem allE_nil : allE [] = 0 := rfl
theorem allE_cons_t {a : Int} {l : List Int} (h : amtB a = true) : allE (a :: l) = allE l := by simp [allE, h]
theorem allE_cons_f {a : Int} {l : List Int} (h : amtB a = false) : allE (a :: l) = 3 := by simp [allE, h]
theorem allE_ok {l : List Int} (h : ∀ a ∈ l, amtB a = true) : allE l = 0 := by
  induction l with
  | nil => rfl
  | cons a l ih => rw [allE_cons_t (h a (by simp))]; exact ih fun b hb => h b (by simp [hb])
theorem allE_bad {l : List Int} {a : Int} (ha : a ∈ l) (h : amtB a = false) : allE l = 3 := by
  induction l with
  | nil => simp at ha
  | cons b l ih =>
    cases hb : amtB b with
    | false => exact allE_cons_f hb
    | true =>
      rw [allE_cons_t hb]
      rcases List.mem_cons.1 ha with rfl | h'
      · rw [h] at hb; cases hb
      · exact ih h'
theorem allE_cases (l : List Int) : (allE l = 0 ∧ ∀ a ∈ l, amtB a = true) ∨ (allE l = 3 ∧ ∃ a ∈ l, amtB a = false) := by
  induction l with
  | nil => exact .inl ⟨rfl, by simp⟩
  | cons b l ih =>
    cases hb : amtB b with
    | false => exact .inr ⟨allE_cons_f hb, b, by simp, hb⟩
    | true =>
      rw [allE_cons_t hb]
      rcases ih with ⟨h, hl⟩ | ⟨h, a, ha, h'⟩
      · exact .inl ⟨h, fun a ha => by
          rcases List.mem_cons.1 ha with e | ha
          · rw [e]; exact hb
          · exact hl a ha⟩
      · exact .inr ⟨h, a, by simp [ha], h'⟩

end Go.Proofs.Ytgccipmeiceonaa

-- GridMath
namespace Go.Proofs.Ytgccipmeiceonaa

/-- may a due stand there, its parties apart? -/
def dueB (p : Int × Int × Int) : Bool := decide (0 ≤ p.1 ∧ p.1 ≤ 30 ∧ 0 ≤ p.2.1 ∧ p.2.1 ≤ 30 ∧ 1 ≤ p.2.2 ∧ p.2.2 ≤ 1152921504606846976)
theorem due_t {p : Int × Int × Int} (h : dueB p = true) : 0 ≤ p.1 ∧ p.1 ≤ 30 ∧ 0 ≤ p.2.1 ∧ p.2.1 ≤ 30 ∧ 1 ≤ p.2.2 ∧ p.2.2 ≤ 1152921504606846976 := of_decide_eq_true h
theorem due_f {p : Int × Int × Int} (h : dueB p = false) : ¬ (0 ≤ p.1 ∧ p.1 ≤ 30 ∧ 0 ≤ p.2.1 ∧ p.2.1 ≤ 30 ∧ 1 ≤ p.2.2 ∧ p.2.2 ≤ 1152921504606846976) := of_decide_eq_false h
/-- the error of the first due that stands wrong -/
def dueE : List (Int × Int × Int) → Int
  | [] => 0
  | p :: l => if dueB p then (if p.1 = p.2.1 then 1 else dueE l) else 3
def netE (l : List (Int × Int × Int)) : Int := if 60 < l.length then 2 else dueE l
/-- a due between two parties -/
def dueO (p : Int × Int × Int) : Prop := dueB p = true ∧ p.1 ≠ p.2.1
theorem due_0 {l : List (Int × Int × Int)} (h : dueE l = 0) : ∀ p ∈ l, dueO p := by
  induction l with
  | nil => simp
  | cons p l ih =>
    unfold dueE at h
    split at h
    · next h1 =>
      split at h
      · omega
      · next h2 =>
        intro q hq
        rcases List.mem_cons.1 hq with rfl | hq
        · exact ⟨h1, h2⟩
        · exact ih h q hq
    · omega
theorem due_mk {l : List (Int × Int × Int)} (h : ∀ p ∈ l, dueO p) : dueE l = 0 := by
  induction l with
  | nil => rfl
  | cons p l ih =>
    have h1 := h p (by simp)
    unfold dueE
    rw [if_pos h1.1, if_neg h1.2]
    exact ih fun q hq => h q (by simp [hq])
theorem net_0 {l : List (Int × Int × Int)} (h : netE l = 0) : l.length ≤ 60 ∧ ∀ p ∈ l, dueO p := by
  unfold netE at h
  split at h
  · omega
  · exact ⟨by omega, due_0 h⟩
/-- all that is due -/
def duesS : List (Int × Int × Int) → Int
  | [] => 0
  | p :: l => p.2.2 + duesS l
theorem duesS_append (l m : List (Int × Int × Int)) : duesS (l ++ m) = duesS l + duesS m := by
  induction l with
  | nil => simp [duesS]
  | cons p l ih => simp only [List.cons_append, duesS, ih]; omega
theorem duesS_bd {l : List (Int × Int × Int)} (h : ∀ p ∈ l, dueO p) : 0 ≤ duesS l ∧ duesS l ≤ 1152921504606846976 * (l.length : Int) := by
  induction l with
  | nil => simp [duesS]
  | cons p l ih =>
    have h1 := ih fun q hq => h q (by simp [hq])
    have h2 := due_t (h p (by simp)).1
    rw [duesS, List.length_cons]; omega
/-- may a party have so much? -/
def hasB (n : Int) : Bool := decide (0 ≤ n ∧ n ≤ 1152921504606846976)
theorem has_t {n : Int} (h : hasB n = true) : 0 ≤ n ∧ n ≤ 1152921504606846976 := of_decide_eq_true h
theorem has_f {n : Int} (h : hasB n = false) : ¬ (0 ≤ n ∧ n ≤ 1152921504606846976) := of_decide_eq_false h
/-- the error of what all have, and of what is due -/
def gridE (has : List Int) (l : List (Int × Int × Int)) : Int :=
  if has.length ≠ 31 then 1 else if has.all hasB then (if netE l ≠ 0 then netE l else if amtB (has.sum + duesS l) then 0 else 8) else 3
theorem grid_0 {has : List Int} {l : List (Int × Int × Int)} (h : gridE has l = 0) : has.length = 31 ∧ (∀ n ∈ has, hasB n = true) ∧ l.length ≤ 60 ∧ (∀ p ∈ l, dueO p) ∧ amtB (has.sum + duesS l) = true := by
  unfold gridE at h
  split at h
  · omega
  · next h0 =>
    split at h
    · next h1 =>
      split at h
      · next h2 => exact absurd h h2
      · next h2 =>
        split at h
        · next h3 =>
          have h4 := net_0 (Classical.not_not.1 h2)
          exact ⟨Classical.not_not.1 h0, List.all_eq_true.1 h1, h4.1, h4.2, h3⟩
        · omega
    · omega

/-- what becomes of what parties have when a due is settled -/
def pay (has : List Int) (p : Int × Int × Int) : List Int := (has.set p.1.toNat (has.getD p.1.toNat 0 - p.2.2)).set p.2.1.toNat ((has.set p.1.toNat (has.getD p.1.toNat 0 - p.2.2)).getD p.2.1.toNat 0 + p.2.2)
/-- what one due brings a party -/
def flow (p : Int × Int × Int) (q : Nat) : Int := (if p.2.1 = (q : Int) then p.2.2 else 0) - (if p.1 = (q : Int) then p.2.2 else 0)
theorem pay_len (has : List Int) (p : Int × Int × Int) : (pay has p).length = has.length := by simp [pay]
theorem pay_at {has : List Int} {p : Int × Int × Int} (h : dueO p) (hn : has.length = 31) (q : Nat) (hq : q < 31) : (pay has p).getD q 0 = has.getD q 0 + flow p q := by
  have hb := due_t h.1
  have hne := h.2
  obtain ⟨f, hf⟩ : ∃ f : Nat, p.1 = (f : Int) := ⟨p.1.toNat, by omega⟩
  obtain ⟨t, ht⟩ : ∃ t : Nat, p.2.1 = (t : Int) := ⟨p.2.1.toNat, by omega⟩
  unfold pay flow
  rw [hf, ht, Int.toNat_natCast, Int.toNat_natCast]
  simp only [List.getD_eq_getElem?_getD, List.getElem?_set]
  have hft : ¬ f = t := by omega
  by_cases h1 : t = q
  · subst h1
    rw [if_pos rfl, if_pos (by simp; omega), if_neg hft, if_pos rfl, if_neg (by omega)]
    simp only [Option.getD_some]
    omega
  · rw [if_neg h1]
    by_cases h2 : f = q
    · subst h2
      rw [if_pos rfl, if_pos (by omega), if_neg (by omega), if_pos rfl]
      simp only [Option.getD_some]
      omega
    · rw [if_neg h2, if_neg (by omega), if_neg (by omega)]
      omega
/-- what all have when these dues are settled -/
def settleF (l : List (Int × Int × Int)) : List Int → List Nat → List Int
  | has, [] => has
  | has, i :: d => settleF l (pay has (l.getD i default)) d
theorem settle_len (l : List (Int × Int × Int)) (d : List Nat) (has : List Int) : (settleF l has d).length = has.length := by
  induction d generalizing has with
  | nil => rfl
  | cons i d ih => rw [settleF, ih, pay_len]
/-- what these dues bring a party -/
def flows (l : List (Int × Int × Int)) (q : Nat) : List Nat → Int
  | [] => 0
  | i :: d => flow (l.getD i default) q + flows l q d
theorem settle_at {l : List (Int × Int × Int)} (hl : ∀ p ∈ l, dueO p) (d : List Nat) (hd : ∀ i ∈ d, i < l.length) (has : List Int) (hn : has.length = 31) (q : Nat) (hq : q < 31) : (settleF l has d).getD q 0 = has.getD q 0 + flows l q d := by
  induction d generalizing has with
  | nil => simp [settleF, flows]
  | cons i d ih =>
    have hi := hd i (by simp)
    have hm : l.getD i default ∈ l := by rw [List.getD_eq_getElem?_getD, List.getElem?_eq_getElem hi]; simp
    rw [settleF, ih (fun j hj => hd j (by simp [hj])) (pay has (l.getD i default)) (by rw [pay_len]; exact hn), pay_at (hl _ hm) hn q hq, flows]
    omega
theorem settle_snoc (l : List (Int × Int × Int)) (d : List Nat) (i : Nat) (has : List Int) : settleF l has (d ++ [i]) = pay (settleF l has d) (l.getD i default) := by
  induction d generalizing has with
  | nil => rfl
  | cons j d ih => rw [List.cons_append, settleF, ih]; rfl

end Go.Proofs.Ytgccipmeiceonaa
