/-
  Plain arithmetic of amounts: what the calls of package money answer, as functions on integers. Nothing of the program is used here.
-/
import Derived.Below
namespace Go.Proofs.Ytgccipmeiceonaa

/-- an amount: from -2^60 to 2^60 -/
def amtB (a : Int) : Bool := decide (-1152921504606846976 ≤ a ∧ a ≤ 1152921504606846976)
theorem amt_t {a : Int} (h : amtB a = true) : -1152921504606846976 ≤ a ∧ a ≤ 1152921504606846976 := of_decide_eq_true h
theorem amt_f {a : Int} (h : amtB a = false) : ¬ (-1152921504606846976 ≤ a ∧ a ≤ 1152921504606846976) := of_decide_eq_false h
theorem amt_mk {a : Int} (h1 : -1152921504606846976 ≤ a) (h2 : a ≤ 1152921504606846976) : amtB a = true := decide_eq_true ⟨h1, h2⟩
theorem amt_no {a : Int} (h : a < -1152921504606846976 ∨ 1152921504606846976 < a) : amtB a = false := decide_eq_false (by omega)

/-- the error of the first number that is no amount -/
def allE : List Int → Int
  | [] => 0
  | a :: l => if amtB a then allE l else 3
theorem allE_nil : allE [] = 0 := rfl
theorem allE_cons_t {a : Int} {l : List Int} (h : amtB a = true) : allE (a :: l) = allE l := by simp [allE, h]
theorem allE_cons_f {a : Int} {l : List Int} (h : amtB a = false) : allE (a :: l) = 3 := by simp [allE, h]
theorem allE_ok {l : List Int} (h : ∀ a ∈ l, amtB a = true) : allE l = 0 := by
  induction l with
  | nil => rfl
  | cons a l ih => rw [allE_cons_t (h a (by simp))]; exact ih fun b hb => h b (by simp [hb])
theorem allE_bad {l : List Int} {a : Int} (ha : a ∈ l) (h : amtB a = false) : allE l = 3 := by
  induction l with
  | nil => simp at ha
  | cons b l ih =>
    cases hb : amtB b with
    | false => exact allE_cons_f hb
    | true =>
      rw [allE_cons_t hb]
      rcases List.mem_cons.1 ha with rfl | h'
      · rw [h] at hb; cases hb
      · exact ih h'
theorem allE_cases (l : List Int) : (allE l = 0 ∧ ∀ a ∈ l, amtB a = true) ∨ (allE l = 3 ∧ ∃ a ∈ l, amtB a = false) := by
  induction l with
  | nil => exact .inl ⟨rfl, by simp⟩
  | cons b l ih =>
    cases hb : amtB b with
    | false => exact .inr ⟨allE_cons_f hb, b, by simp, hb⟩
    | true =>
      rw [allE_cons_t hb]
      rcases ih with ⟨h, hl⟩ | ⟨h, a, ha, h'⟩
      · exact .inl ⟨h, fun a ha => by
          rcases List.mem_cons.1 ha with e | ha
          · rw [e]; exact hb
          · exact hl a ha⟩
      · exact .inr ⟨h, a, by simp [ha], h'⟩

end Go.Proofs.Ytgccipmeiceonaa
