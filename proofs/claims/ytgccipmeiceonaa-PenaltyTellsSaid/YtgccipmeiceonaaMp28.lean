/-
  Merged: BookMath.
-/
import Derived.Test.YtgccipmeiceonaaMp6
-- BookMath
namespace Go.Proofs.Ytgccipmeiceonaa

/-- may a posting stand there? -/
def ptB (p : Int × Int × Int) : Bool := decide (0 ≤ p.1 ∧ p.1 ≤ 100 ∧ 0 ≤ p.2.1 ∧ p.2.1 ≤ 20 ∧ p.2.2 ≠ 0 ∧ -1152921504606846976 ≤ p.2.2 ∧ p.2.2 ≤ 1152921504606846976)
theorem pt_t {p : Int × Int × Int} (h : ptB p = true) : 0 ≤ p.1 ∧ p.1 ≤ 100 ∧ 0 ≤ p.2.1 ∧ p.2.1 ≤ 20 ∧ p.2.2 ≠ 0 ∧ -1152921504606846976 ≤ p.2.2 ∧ p.2.2 ≤ 1152921504606846976 := of_decide_eq_true h
theorem pt_f {p : Int × Int × Int} (h : ptB p = false) : ¬ (0 ≤ p.1 ∧ p.1 ≤ 100 ∧ 0 ≤ p.2.1 ∧ p.2.1 ≤ 20 ∧ p.2.2 ≠ 0 ∧ -1152921504606846976 ≤ p.2.2 ∧ p.2.2 ≤ 1152921504606846976) := of_decide_eq_false h
theorem pt_mk {p : Int × Int × Int} (h : 0 ≤ p.1 ∧ p.1 ≤ 100 ∧ 0 ≤ p.2.1 ∧ p.2.1 ≤ 20 ∧ p.2.2 ≠ 0 ∧ -1152921504606846976 ≤ p.2.2 ∧ p.2.2 ≤ 1152921504606846976) : ptB p = true := decide_eq_true h
theorem pt_no {p : Int × Int × Int} (h : ¬ (0 ≤ p.1 ∧ p.1 ≤ 100 ∧ 0 ≤ p.2.1 ∧ p.2.1 ≤ 20 ∧ p.2.2 ≠ 0 ∧ -1152921504606846976 ≤ p.2.2 ∧ p.2.2 ≤ 1152921504606846976)) : ptB p = false := decide_eq_false h

/-- the number of an account and its unit in the order of a book -/
def plc (p : Int × Int × Int) : Int := p.1 * 21 + p.2.1
theorem plc_inj {p q : Int × Int × Int} (hp : ptB p = true) (hq : ptB q = true) (h : plc p = plc q) : p.1 = q.1 ∧ p.2.1 = q.2.1 := by
  have h1 := pt_t hp; have h2 := pt_t hq; unfold plc at h; omega
theorem plc_bd {p : Int × Int × Int} (hp : ptB p = true) : 0 ≤ plc p ∧ plc p ≤ 2120 := by
  have h1 := pt_t hp; unfold plc; omega

/-- the sum of a unit's amounts -/
def unitS : List (Int × Int × Int) → Nat → Int
  | [], _ => 0
  | p :: l, u => (if p.2.1 = (u : Int) then p.2.2 else 0) + unitS l u
theorem unitS_append (l m : List (Int × Int × Int)) (u : Nat) : unitS (l ++ m) u = unitS l u + unitS m u := by
  induction l with
  | nil => simp [unitS]
  | cons p l ih => simp only [List.cons_append, unitS, ih]; omega
theorem unitS_bd {l : List (Int × Int × Int)} (h : ∀ p ∈ l, ptB p = true) (u : Nat) : -(1152921504606846976 * (l.length : Int)) ≤ unitS l u ∧ unitS l u ≤ 1152921504606846976 * (l.length : Int) := by
  induction l with
  | nil => simp [unitS]
  | cons p l ih =>
    have h1 := ih fun z hz => h z (by simp [hz])
    have h2 := pt_t (h p (by simp))
    rw [unitS, List.length_cons]
    split <;> omega
/-- all units come out even -/
def evnB (l : List (Int × Int × Int)) : Bool := (List.range 21).all fun u => decide (unitS l u = 0)
theorem evn_t {l : List (Int × Int × Int)} (h : evnB l = true) (u : Nat) (hu : u < 21) : unitS l u = 0 := by
  have := List.all_eq_true.1 h u (List.mem_range.2 hu)
  exact of_decide_eq_true this
theorem evn_mk {l : List (Int × Int × Int)} (h : ∀ u, u < 21 → unitS l u = 0) : evnB l = true :=
  List.all_eq_true.2 fun u hu => decide_eq_true (h u (List.mem_range.1 hu))
theorem evn_f {l : List (Int × Int × Int)} (h : evnB l = false) : ∃ u, u < 21 ∧ unitS l u ≠ 0 := by
  obtain ⟨u, hu, h'⟩ := List.all_eq_false.1 h
  exact ⟨u, List.mem_range.1 hu, fun e => h' (decide_eq_true e)⟩

/-- what checkEven answers -/
def evnE (l : List (Int × Int × Int)) : Int := if evnB l then 0 else 4
theorem evnE_t {l : List (Int × Int × Int)} (h : evnB l = true) : evnE l = 0 := by unfold evnE; rw [h]; rfl
theorem evnE_f {l : List (Int × Int × Int)} (h : evnB l = false) : evnE l = 4 := by unfold evnE; rw [h]; rfl
/-- the error of postings -/
def chkE (l : List (Int × Int × Int)) : Int := if l = [] then 1 else if 60 < l.length then 2 else if l.all ptB then (if evnB l then 0 else 4) else 3
/-- the error of the first line that stands wrong behind a place -/
def ordE : Int → List (Int × Int × Int) → Int
  | _, [] => 0
  | b, p :: l => if ptB p then (if plc p ≤ b then 4 else ordE (plc p) l) else 3
/-- the error of a book -/
def linE (l : List (Int × Int × Int)) : Int := if 400 < l.length then 2 else if ordE (-1) l = 0 then (if evnB l then 0 else 4) else ordE (-1) l

theorem chk_0 {l : List (Int × Int × Int)} (h : chkE l = 0) : 0 < l.length ∧ l.length ≤ 60 ∧ (∀ p ∈ l, ptB p = true) ∧ evnB l = true := by
  unfold chkE at h
  split at h
  · omega
  · next h0 =>
    split at h
    · omega
    · next h1 =>
      split at h
      · next h2 =>
        split at h
        · next h3 => exact ⟨List.length_pos_iff.2 h0, by omega, List.all_eq_true.1 h2, h3⟩
        · omega
      · omega
theorem chk_mk {l : List (Int × Int × Int)} (h0 : 0 < l.length) (h1 : l.length ≤ 60) (h2 : ∀ p ∈ l, ptB p = true) (h3 : evnB l = true) : chkE l = 0 := by
  unfold chkE
  rw [if_neg (List.length_pos_iff.1 h0), if_neg (by omega), if_pos (List.all_eq_true.2 h2), if_pos h3]
theorem chk_bd (l : List (Int × Int × Int)) : 0 ≤ chkE l ∧ chkE l ≤ 4 := by
  unfold chkE; split <;> (try split) <;> (try split) <;> (try split) <;> omega
theorem ord_bd (b : Int) (l : List (Int × Int × Int)) : ordE b l = 0 ∨ ordE b l = 3 ∨ ordE b l = 4 := by
  induction l generalizing b with
  | nil => exact .inl rfl
  | cons p l ih =>
    unfold ordE
    split
    · split
      · simp
      · exact ih _
    · simp
theorem lin_bd (l : List (Int × Int × Int)) : 0 ≤ linE l ∧ linE l ≤ 4 := by
  unfold linE
  rcases ord_bd (-1) l with h | h | h <;> rw [h] <;> split <;> (try split) <;> (try split) <;> omega
/-- each stands behind the ones ahead of it, and behind place b -/
def Strict : Int → List (Int × Int × Int) → Prop
  | _, [] => True
  | b, p :: l => ptB p = true ∧ b < plc p ∧ Strict (plc p) l
theorem ord_0 {b : Int} {l : List (Int × Int × Int)} : ordE b l = 0 ↔ Strict b l := by
  induction l generalizing b with
  | nil => simp [ordE, Strict]
  | cons p l ih =>
    unfold ordE Strict
    split
    · next h =>
      split
      · next h2 => simp [h]; omega
      · next h2 => simp only [h, true_and]; rw [ih]; exact ⟨fun q => ⟨by omega, q⟩, fun q => q.2⟩
    · next h => simp [h]
theorem strict_pt {b : Int} {l : List (Int × Int × Int)} (h : Strict b l) : ∀ p ∈ l, ptB p = true := by
  induction l generalizing b with
  | nil => simp
  | cons p l ih =>
    intro q hq
    rcases List.mem_cons.1 hq with rfl | hq
    · exact h.1
    · exact ih h.2.2 q hq
theorem strict_lo {b : Int} {l : List (Int × Int × Int)} (h : Strict b l) : ∀ p ∈ l, b < plc p := by
  induction l generalizing b with
  | nil => simp
  | cons p l ih =>
    intro q hq
    rcases List.mem_cons.1 hq with rfl | hq
    · exact h.2.1
    · exact Int.lt_trans h.2.1 (ih h.2.2 q hq)
theorem lin_0 {l : List (Int × Int × Int)} (h : linE l = 0) : l.length ≤ 400 ∧ Strict (-1) l ∧ evnB l = true := by
  unfold linE at h
  split at h
  · omega
  · split at h
    · next h1 =>
      split at h
      · next h2 => exact ⟨by omega, ord_0.1 h1, h2⟩
      · omega
    · omega
theorem lin_mk {l : List (Int × Int × Int)} (h0 : l.length ≤ 400) (h1 : Strict (-1) l) (h2 : evnB l = true) : linE l = 0 := by
  unfold linE
  rw [if_neg (by omega), if_pos (ord_0.2 h1), if_pos h2]

end Go.Proofs.Ytgccipmeiceonaa
