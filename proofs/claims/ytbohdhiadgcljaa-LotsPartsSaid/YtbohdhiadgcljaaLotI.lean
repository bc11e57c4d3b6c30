/-
  By the dearest no less cost goes than by another way. Nothing of the program is used here.
-/
import Derived.Test.YtbohdhiadgcljaaLotH
namespace Go.Proofs.Ytbohdhiadgcljaa
set_option linter.unusedVariables false

/-- a ratio is no more than another one, and that one than a third -/
theorem ratio_trans {a b c d e f : Int} (hd : 0 < d) (hb : 0 < b) (hf : 0 < f) (h1 : a * d ≤ c * b) (h2 : c * f ≤ e * d) : a * f ≤ e * b := by
  have h3 : a * d * f ≤ c * b * f := Int.mul_le_mul_of_nonneg_right h1 (by omega)
  have h4 : c * f * b ≤ e * d * b := Int.mul_le_mul_of_nonneg_right h2 (by omega)
  have e1 : a * d * f = a * f * d := by rw [Int.mul_assoc, Int.mul_comm d f, ← Int.mul_assoc]
  have e2 : c * b * f = c * f * b := by rw [Int.mul_assoc, Int.mul_comm b f, ← Int.mul_assoc]
  have e3 : e * d * b = e * b * d := by rw [Int.mul_assoc, Int.mul_comm d b, ← Int.mul_assoc]
  exact Int.le_of_mul_le_mul_right (a := d) (by omega) hd
/-- none of the first k lots is dearer than the one that was found -/
theorem dearK_best {l : List (Int × Int × Int)} (h : ∀ p ∈ l, lotB p = true) (h0 : 0 < l.length) (k : Nat) (hk : k ≤ l.length) : ∀ i, i < k → (l.getD i default).2.2 * (l.getD (dearK l k) default).2.1 ≤ (l.getD (dearK l k) default).2.2 * (l.getD i default).2.1 := by
  induction k with
  | zero => intro i hi; omega
  | succ k ih =>
    intro i hi
    have hf := dearK_in h0 (k := k) (by omega)
    have lf := lot_t (h _ (getD_memL hf))
    have lk := lot_t (h _ (getD_memL (show k < l.length by omega)))
    have li := lot_t (h _ (getD_memL (show i < l.length by omega)))
    rw [dearK]
    cases hd : dearB (l.getD k default) (l.getD (dearK l k) default) with
    | true =>
      have hd' := of_decide_eq_true hd
      rw [if_pos rfl]
      rcases Nat.lt_or_ge i k with hik | hik
      · exact ratio_trans (by omega) (by omega) (by omega) (ih (by omega) i hik) (Int.le_of_lt hd')
      · obtain rfl : i = k := by omega
        exact Int.le_refl _
    | false =>
      have hd' := of_decide_eq_false hd
      rw [if_neg (by decide)]
      rcases Nat.lt_or_ge i k with hik | hik
      · exact ih (by omega) i hik
      · obtain rfl : i = k := by omega
        omega
theorem dear_best {l : List (Int × Int × Int)} (h : ∀ p ∈ l, lotB p = true) (h0 : 0 < l.length) : ∀ p ∈ l, p.2.2 * (l.getD (pickK 3 l) default).2.1 ≤ (l.getD (pickK 3 l) default).2.2 * p.2.1 := by
  have e : pickK 3 l = dearK l l.length := by unfold pickK; rw [if_neg (by decide), if_neg (by decide)]
  intro p hp
  obtain ⟨i, hi, rfl⟩ := List.mem_iff_getElem.1 hp
  have := dearK_best h h0 l.length (Nat.le_refl _) i hi
  rw [e]
  rwa [show l.getD i default = l[i] by rw [List.getD_eq_getElem?_getD, List.getElem?_eq_getElem hi]; rfl] at this

/-- what lots cost above a price -/
def over (q m : Int) (p : Int × Int × Int) : Int := max 0 (p.2.2 * m - q * p.2.1)
def phi (q m : Int) : List (Int × Int × Int) → Int
  | [] => 0
  | p :: l => over q m p + phi q m l
theorem over_0 (q m : Int) (p : Int × Int × Int) : 0 ≤ over q m p := Int.le_max_left _ _
theorem phi_0 (q m : Int) (l : List (Int × Int × Int)) : 0 ≤ phi q m l := by
  induction l with
  | nil => exact Int.le_refl _
  | cons p l ih => have := over_0 q m p; rw [phi]; omega
theorem phi_erase (q m : Int) {l : List (Int × Int × Int)} {i : Nat} (hi : i < l.length) : phi q m l = over q m (l.getD i default) + phi q m (l.eraseIdx i) := by
  induction l generalizing i with
  | nil => simp at hi
  | cons p l ih =>
    cases i with
    | zero => rfl
    | succ i =>
      have := ih (by simpa using hi)
      simp only [List.eraseIdx_cons_succ, phi, getD_cons_succ']
      omega
theorem phi_none (q m : Int) {l : List (Int × Int × Int)} (h : ∀ p ∈ l, p.2.2 * m ≤ q * p.2.1) : phi q m l = 0 := by
  induction l with
  | nil => rfl
  | cons p l ih =>
    have h1 := h p (by simp)
    rw [phi, ih fun r hr => h r (by simp [hr])]
    unfold over
    omega
theorem part_up {Q U u q m : Int} (hU : 0 < U) (h0 : 0 ≤ u) (h1 : u ≤ U) (hm : 0 ≤ m) : m * (Q * u / U) ≤ q * u + max 0 (Q * m - q * U) := by
  obtain ⟨t, ht⟩ : ∃ t, t = Q * u / U := ⟨_, rfl⟩
  obtain ⟨M, hM⟩ : ∃ M, M = max 0 (Q * m - q * U) := ⟨_, rfl⟩
  rw [← ht, ← hM]
  have t1 : t * U ≤ Q * u := by rw [ht]; exact Int.ediv_mul_le _ (by omega)
  have M0 : 0 ≤ M := by omega
  have M1 : Q * m - q * U ≤ M := by omega
  have k1 : m * (t * U) ≤ m * (Q * u) := Int.mul_le_mul_of_nonneg_left t1 hm
  have k2 : (Q * m - q * U) * u ≤ M * u := Int.mul_le_mul_of_nonneg_right M1 h0
  have k3 : M * u ≤ M * U := Int.mul_le_mul_of_nonneg_left h1 M0
  have e1 : (Q * m - q * U) * u = m * (Q * u) - q * u * U := by
    rw [Int.sub_mul]
    congr 1
    · rw [Int.mul_comm Q m, Int.mul_assoc]
    · rw [Int.mul_assoc, Int.mul_comm U u, ← Int.mul_assoc]
  have e2 : m * (t * U) = m * t * U := by rw [Int.mul_assoc]
  have e3 : (q * u + M) * U = q * u * U + M * U := Int.add_mul _ _ _
  exact Int.le_of_mul_le_mul_right (a := U) (by omega) hU

theorem cost_le (pick : List (Int × Int × Int) → Nat) (hp : ∀ l : List (Int × Int × Int), 0 < l.length → pick l < l.length) (q m : Int) (hm : 0 < m) (hq : 0 ≤ q) (n : Nat) (l : List (Int × Int × Int)) (u : Int) (hB : ∀ p ∈ l, lotB p = true) (h0 : 0 ≤ u) (h1 : u ≤ unitsOf l) : m * (sellL pick n l u).2 ≤ q * u + phi q m l := by
  induction n generalizing l u with
  | zero =>
    have := phi_0 q m l
    have := Int.mul_nonneg hq h0
    simp only [sellL, Int.mul_zero]
    omega
  | succ n ih =>
    have hph := phi_0 q m l
    rw [sellL]
    by_cases hu : u ≤ 0
    · have := Int.mul_nonneg hq h0
      rw [if_pos hu]
      simp only [Int.mul_zero]
      omega
    · rw [if_neg hu]
      have hl : 0 < l.length := by
        cases l with
        | nil => simp [unitsOf] at h1; omega
        | cons _ _ => simp
      have hi := hp l hl
      have hlot := lot_t (hB _ (getD_memL hi))
      have he := phi_erase q m hi
      have hue := units_erase hi
      by_cases h2 : u < (l.getD (pick l) default).2.1
      · rw [if_pos h2]
        simp only
        have := part_up (Q := (l.getD (pick l) default).2.2) (U := (l.getD (pick l) default).2.1) (u := u) (q := q) (m := m) (by omega) h0 (by omega) (by omega)
        have h3 := phi_0 q m (l.eraseIdx (pick l))
        unfold partC
        unfold over at he
        omega
      · rw [if_neg h2]
        simp only
        have := ih (l.eraseIdx (pick l)) (u - (l.getD (pick l) default).2.1) (all_erase hB _) (by omega) (by omega)
        have e1 : q * (u - (l.getD (pick l) default).2.1) = q * u - q * (l.getD (pick l) default).2.1 := Int.mul_sub _ _ _
        have e2 : m * ((sellL pick n (l.eraseIdx (pick l)) (u - (l.getD (pick l) default).2.1)).2 + (l.getD (pick l) default).2.2) = m * (sellL pick n (l.eraseIdx (pick l)) (u - (l.getD (pick l) default).2.1)).2 + (l.getD (pick l) default).2.2 * m := by rw [Int.mul_add, Int.mul_comm m (l.getD (pick l) default).2.2]
        have h4 : (l.getD (pick l) default).2.2 * m - q * (l.getD (pick l) default).2.1 ≤ over q m (l.getD (pick l) default) := Int.le_max_right _ _
        omega

theorem cost_ge (n : Nat) (l : List (Int × Int × Int)) (u : Int) (hB : ∀ p ∈ l, lotB p = true) (hn : l.length ≤ n) (h0 : 0 < u) (h1 : u ≤ unitsOf l) : ∃ p ∈ l, p.2.2 * u + phi p.2.2 p.2.1 l < p.2.1 * ((sellL (pickK 3) n l u).2 + 1) := by
  induction n generalizing l u with
  | zero =>
    obtain rfl : l = [] := List.eq_nil_of_length_eq_zero (by omega)
    simp [unitsOf] at h1; omega
  | succ n ih =>
    have hl : 0 < l.length := by
      cases l with
      | nil => simp [unitsOf] at h1; omega
      | cons _ _ => simp
    have hi := pick_in 3 hl
    have hmem := getD_memL hi
    have hbest := dear_best hB hl
    have hue := units_erase hi
    have hlen := List.length_eraseIdx_of_lt hi
    rw [sellL, if_neg (by omega)]
    obtain ⟨i, hie⟩ : ∃ i, i = pickK 3 l := ⟨_, rfl⟩
    rw [← hie] at hi hmem hbest hue hlen ⊢
    obtain ⟨p, hpe⟩ : ∃ p, p = l.getD i default := ⟨_, rfl⟩
    rw [← hpe] at hmem hbest hue ⊢
    have hlot := lot_t (hB p hmem)
    have hnone := phi_none p.2.2 p.2.1 hbest
    by_cases h2 : u < p.2.1
    · rw [if_pos h2]
      refine ⟨p, hmem, ?_⟩
      have := Int.lt_ediv_add_one_mul_self (p.2.2 * u) (show 0 < p.2.1 by omega)
      rw [hnone]
      unfold partC
      simp only
      rw [Int.mul_comm p.2.1]
      omega
    · rw [if_neg h2]
      simp only
      by_cases h3 : u = p.2.1
      · refine ⟨p, hmem, ?_⟩
        rw [hnone, h3, Int.sub_self, sell_nil _ _ _ _ (Int.le_refl _)]
        simp only
        rw [Int.zero_add, Int.mul_add, Int.mul_one, Int.mul_comm p.2.2]
        omega
      · obtain ⟨r, hr, hlt⟩ := ih (l.eraseIdx i) (u - p.2.1) (all_erase hB _) (by omega) (by omega) (by omega)
        have hrl : r ∈ l := List.mem_of_mem_eraseIdx hr
        refine ⟨r, hrl, ?_⟩
        have he := phi_erase r.2.2 r.2.1 hi
        rw [← hpe] at he
        have hov : over r.2.2 r.2.1 p = p.2.2 * r.2.1 - r.2.2 * p.2.1 := by
          have := hbest r hrl
          unfold over
          omega
        have e1 : r.2.2 * (u - p.2.1) = r.2.2 * u - r.2.2 * p.2.1 := Int.mul_sub _ _ _
        have e2 : r.2.1 * ((sellL (pickK 3) n (l.eraseIdx i) (u - p.2.1)).2 + p.2.2 + 1) = r.2.1 * ((sellL (pickK 3) n (l.eraseIdx i) (u - p.2.1)).2 + 1) + p.2.2 * r.2.1 := by
          rw [show (sellL (pickK 3) n (l.eraseIdx i) (u - p.2.1)).2 + p.2.2 + 1 = (sellL (pickK 3) n (l.eraseIdx i) (u - p.2.1)).2 + 1 + p.2.2 by omega, Int.mul_add, Int.mul_comm r.2.1 p.2.2]
        omega
theorem sell_dear (k : Int) {l : List (Int × Int × Int)} {u : Int} (h : lotsE l = 0) (h0 : 0 < u) (h1 : u ≤ unitsOf l) : (sellL (pickK k) l.length l u).2 ≤ (sellL (pickK 3) l.length l u).2 := by
  have hB := (lots_0 h).2.2
  obtain ⟨p, hp, hlt⟩ := cost_ge l.length l u hB (Nat.le_refl _) h0 h1
  have hlot := lot_t (hB p hp)
  have hle := cost_le (pickK k) (fun l hl => pick_in k hl) p.2.2 p.2.1 (by omega) (by omega) l.length l u hB (by omega) h1
  have : (sellL (pickK k) l.length l u).2 < (sellL (pickK 3) l.length l u).2 + 1 := Int.lt_of_mul_lt_mul_left (a := p.2.1) (by omega) (by omega)
  omega

end Go.Proofs.Ytbohdhiadgcljaa
