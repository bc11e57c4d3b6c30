/-
  Plain arithmetic of dues: rising indices, and how little their flows can be.
-/
import Derived.Test.YtbfeojdlaajpdaaGridB
namespace Go.Proofs.Ytbfeojdlaajpdaa
set_option linter.unusedVariables false

/-- indices that rise, from a on -/
def incN : Nat → List Nat → Prop
  | _, [] => True
  | a, i :: d => a ≤ i ∧ incN (i + 1) d
theorem incN_take {a : Nat} {d : List Nat} (h : incN a d) (k : Nat) : incN a (d.take k) := by
  induction d generalizing a k with
  | nil => simp [incN]
  | cons i d ih =>
    cases k with
    | zero => exact trivial
    | succ k => exact ⟨h.1, ih h.2 k⟩
/-- what these dues come to -/
def amtsS (l : List (Int × Int × Int)) : List Nat → Int
  | [] => 0
  | i :: d => (l.getD i default).2.2 + amtsS l d
theorem duesS_mono {l : List (Int × Int × Int)} (hl : ∀ p ∈ l, dueO p) {a b : Nat} (h : a ≤ b) : duesS (l.drop b) ≤ duesS (l.drop a) := by
  have e : l.drop a = (l.drop a).take (b - a) ++ l.drop b := by
    have := (List.take_append_drop (b - a) (l.drop a)).symm
    rw [List.drop_drop, show a + (b - a) = b by omega] at this
    exact this
  rw [e, duesS_append]
  have := duesS_bd (l := (l.drop a).take (b - a)) fun p hp => hl p (List.mem_of_mem_drop (List.mem_of_mem_take hp))
  omega
theorem amts_bd {l : List (Int × Int × Int)} (hl : ∀ p ∈ l, dueO p) (d : List Nat) (a : Nat) (hi : incN a d) (hd : ∀ i ∈ d, i < l.length) : 0 ≤ amtsS l d ∧ amtsS l d ≤ duesS (l.drop a) := by
  induction d generalizing a with
  | nil =>
    have := duesS_bd (l := l.drop a) fun p hp => hl p (List.mem_of_mem_drop hp)
    simp only [amtsS]; omega
  | cons i d ih =>
    have h1 := ih (i + 1) hi.2 fun j hj => hd j (by simp [hj])
    have hi1 := hd i (by simp)
    have h2 := due_t (hl _ (getP_mem hi1)).1
    have h3 := due_drop hi1
    have h4 := duesS_mono hl hi.1
    rw [h3] at h4
    simp only [duesS] at h4
    simp only [amtsS]
    omega
theorem flow_bd {p : Int × Int × Int} (h : dueO p) (q : Nat) : -p.2.2 ≤ flow p q ∧ flow p q ≤ p.2.2 := by
  have := due_t h.1
  unfold flow
  split <;> split <;> omega
theorem flows_bd {l : List (Int × Int × Int)} (hl : ∀ p ∈ l, dueO p) (q : Nat) (d : List Nat) (hd : ∀ i ∈ d, i < l.length) : -amtsS l d ≤ flows l q d ∧ flows l q d ≤ amtsS l d := by
  induction d with
  | nil => simp [amtsS, flows]
  | cons i d ih =>
    have h1 := ih fun j hj => hd j (by simp [hj])
    have h2 := flow_bd (hl _ (getP_mem (hd i (by simp)))) q
    simp only [amtsS, flows]
    omega
/-- what a party has stays within twice the sum -/
theorem settle_bd {l : List (Int × Int × Int)} (hl : ∀ p ∈ l, dueO p) {d : List Nat} (hi : incN 0 d) (hd : ∀ i ∈ d, i < l.length) {has : List Int} (hn : has.length = 31) (hz : ∀ n ∈ has, hasB n = true) (hs : amtB (has.sum + duesS l) = true) (q : Nat) (hq : q < 31) :
    -1152921504606846976 ≤ (settleF l has d).getD q 0 ∧ (settleF l has d).getD q 0 ≤ 2305843009213693952 := by
  rw [settle_at hl d hd has hn q hq]
  have h1 := flows_bd hl q d hd
  have h2 := amts_bd hl d 0 hi hd
  rw [List.drop_zero] at h2
  have h3 := has_t (hz _ (getD_mem (show q < has.length by omega)))
  have h4 := amt_t hs
  have h5 : 0 ≤ has.sum := by
    clear hn hs h3 h4
    induction has with
    | nil => simp
    | cons a t ih =>
      have := ih fun n h => hz n (by simp [h])
      have := has_t (hz a (by simp))
      rw [List.sum_cons]; omega
  omega

end Go.Proofs.Ytbfeojdlaajpdaa
