/-
  Plain arithmetic of lots: triples of day, units and cost; what is sold of them. Nothing of the program is used here.
-/
import Derived.Test.YtbohdhiadgcljaaMoneyMath
namespace Go.Proofs.Ytbohdhiadgcljaa

/-- may a lot stand there? -/
def lotB (p : Int × Int × Int) : Bool := decide (0 ≤ p.1 ∧ p.1 ≤ 3652058 ∧ 1 ≤ p.2.1 ∧ p.2.1 ≤ 1073741824 ∧ 0 ≤ p.2.2 ∧ p.2.2 ≤ 4294967296)
theorem lot_t {p : Int × Int × Int} (h : lotB p = true) : 0 ≤ p.1 ∧ p.1 ≤ 3652058 ∧ 1 ≤ p.2.1 ∧ p.2.1 ≤ 1073741824 ∧ 0 ≤ p.2.2 ∧ p.2.2 ≤ 4294967296 := of_decide_eq_true h
theorem lot_f {p : Int × Int × Int} (h : lotB p = false) : ¬ (0 ≤ p.1 ∧ p.1 ≤ 3652058 ∧ 1 ≤ p.2.1 ∧ p.2.1 ≤ 1073741824 ∧ 0 ≤ p.2.2 ∧ p.2.2 ≤ 4294967296) := of_decide_eq_false h
theorem lot_mk {p : Int × Int × Int} (h : 0 ≤ p.1 ∧ p.1 ≤ 3652058 ∧ 1 ≤ p.2.1 ∧ p.2.1 ≤ 1073741824 ∧ 0 ≤ p.2.2 ∧ p.2.2 ≤ 4294967296) : lotB p = true := decide_eq_true h
/-- the error of lots behind a day -/
def dayE : Int → List (Int × Int × Int) → Int
  | _, [] => 0
  | b, p :: l => if lotB p then (if p.1 < b then 4 else dayE p.1 l) else 3
def lotsE (l : List (Int × Int × Int)) : Int := if 40 < l.length then 2 else dayE 0 l
theorem day_bd (b : Int) (l : List (Int × Int × Int)) : dayE b l = 0 ∨ dayE b l = 3 ∨ dayE b l = 4 := by
  induction l generalizing b with
  | nil => exact .inl rfl
  | cons p l ih =>
    unfold dayE
    split
    · split
      · simp
      · exact ih _
    · simp
theorem lots_bd (l : List (Int × Int × Int)) : 0 ≤ lotsE l ∧ lotsE l ≤ 4 := by
  unfold lotsE
  rcases day_bd 0 l with h | h | h <;> rw [h] <;> split <;> omega
theorem day_all {b : Int} {l : List (Int × Int × Int)} (h : dayE b l = 0) : ∀ p ∈ l, lotB p = true := by
  induction l generalizing b with
  | nil => simp
  | cons p l ih =>
    unfold dayE at h
    split at h
    · next h1 =>
      split at h
      · omega
      · intro q hq
        rcases List.mem_cons.1 hq with rfl | hq
        · exact h1
        · exact ih h q hq
    · omega
theorem lots_0 {l : List (Int × Int × Int)} (h : lotsE l = 0) : l.length ≤ 40 ∧ dayE 0 l = 0 ∧ ∀ p ∈ l, lotB p = true := by
  unfold lotsE at h
  split at h
  · omega
  · exact ⟨by omega, h, day_all h⟩
theorem lots_mk {l : List (Int × Int × Int)} (h : l.length ≤ 40) (k : dayE 0 l = 0) : lotsE l = 0 := by unfold lotsE; rw [if_neg (by omega), k]

def unitsOf : List (Int × Int × Int) → Int
  | [] => 0
  | p :: l => p.2.1 + unitsOf l
def costsOf : List (Int × Int × Int) → Int
  | [] => 0
  | p :: l => p.2.2 + costsOf l
theorem units_bd {l : List (Int × Int × Int)} (h : ∀ p ∈ l, lotB p = true) : (l.length : Int) ≤ unitsOf l ∧ unitsOf l ≤ 1073741824 * (l.length : Int) := by
  induction l with
  | nil => simp [unitsOf]
  | cons p l ih =>
    have h1 := ih fun q hq => h q (by simp [hq])
    have h2 := lot_t (h p (by simp))
    rw [unitsOf, List.length_cons]; omega
theorem costs_bd {l : List (Int × Int × Int)} (h : ∀ p ∈ l, lotB p = true) : 0 ≤ costsOf l ∧ costsOf l ≤ 4294967296 * (l.length : Int) := by
  induction l with
  | nil => simp [costsOf]
  | cons p l ih =>
    have h1 := ih fun q hq => h q (by simp [hq])
    have h2 := lot_t (h p (by simp))
    rw [costsOf, List.length_cons]; omega
theorem units_append (l m : List (Int × Int × Int)) : unitsOf (l ++ m) = unitsOf l + unitsOf m := by
  induction l with
  | nil => simp [unitsOf]
  | cons p l ih => simp only [List.cons_append, unitsOf, ih]; omega
theorem costs_append (l m : List (Int × Int × Int)) : costsOf (l ++ m) = costsOf l + costsOf m := by
  induction l with
  | nil => simp [costsOf]
  | cons p l ih => simp only [List.cons_append, costsOf, ih]; omega
theorem getD_cons_succ' {p : Int × Int × Int} {l : List (Int × Int × Int)} (i : Nat) : (p :: l).getD (i + 1) default = l.getD i default := rfl
theorem units_erase {l : List (Int × Int × Int)} {i : Nat} (hi : i < l.length) : unitsOf (l.eraseIdx i) = unitsOf l - (l.getD i default).2.1 := by
  induction l generalizing i with
  | nil => simp at hi
  | cons p l ih =>
    cases i with
    | zero => simp only [List.eraseIdx_cons_zero, unitsOf, List.getD_cons_zero]; omega
    | succ i => simp only [List.eraseIdx_cons_succ, unitsOf, getD_cons_succ', ih (by simpa using hi)]; omega
theorem costs_erase {l : List (Int × Int × Int)} {i : Nat} (hi : i < l.length) : costsOf (l.eraseIdx i) = costsOf l - (l.getD i default).2.2 := by
  induction l generalizing i with
  | nil => simp at hi
  | cons p l ih =>
    cases i with
    | zero => simp only [List.eraseIdx_cons_zero, costsOf, List.getD_cons_zero]; omega
    | succ i => simp only [List.eraseIdx_cons_succ, costsOf, getD_cons_succ', ih (by simpa using hi)]; omega
theorem units_set {l : List (Int × Int × Int)} {i : Nat} (hi : i < l.length) (q : Int × Int × Int) : unitsOf (l.set i q) = unitsOf l - (l.getD i default).2.1 + q.2.1 := by
  induction l generalizing i with
  | nil => simp at hi
  | cons p l ih =>
    cases i with
    | zero => simp only [List.set_cons_zero, unitsOf, List.getD_cons_zero]; omega
    | succ i => simp only [List.set_cons_succ, unitsOf, getD_cons_succ', ih (by simpa using hi)]; omega
theorem costs_set {l : List (Int × Int × Int)} {i : Nat} (hi : i < l.length) (q : Int × Int × Int) : costsOf (l.set i q) = costsOf l - (l.getD i default).2.2 + q.2.2 := by
  induction l generalizing i with
  | nil => simp at hi
  | cons p l ih =>
    cases i with
    | zero => simp only [List.set_cons_zero, costsOf, List.getD_cons_zero]; omega
    | succ i => simp only [List.set_cons_succ, costsOf, getD_cons_succ', ih (by simpa using hi)]; omega
theorem getD_memL {l : List (Int × Int × Int)} {i : Nat} (hi : i < l.length) : l.getD i default ∈ l := by
  rw [List.getD_eq_getElem?_getD, List.getElem?_eq_getElem hi]; simp

/-- does a unit of the one cost more than one of the other? -/
def dearB (p q : Int × Int × Int) : Bool := decide (q.2.2 * p.2.1 < p.2.2 * q.2.1)
/-- the first of the dearest of the first k lots -/
def dearK (l : List (Int × Int × Int)) : Nat → Nat
  | 0 => 0
  | k + 1 => if dearB (l.getD k default) (l.getD (dearK l k) default) then k else dearK l k
theorem dearK_lt (l : List (Int × Int × Int)) (k : Nat) : dearK l (k + 1) ≤ k := by
  induction k with
  | zero => unfold dearK; split <;> simp [dearK]
  | succ k ih => rw [dearK]; split <;> omega
theorem dearK_in {l : List (Int × Int × Int)} (h : 0 < l.length) {k : Nat} (hk : k ≤ l.length) : dearK l k < l.length := by
  cases k with
  | zero => exact h
  | succ k => have := dearK_lt l k; omega
def pickK (kind : Int) (l : List (Int × Int × Int)) : Nat := if kind = 1 then 0 else if kind = 2 then l.length - 1 else dearK l l.length
theorem pick_in (kind : Int) {l : List (Int × Int × Int)} (h : 0 < l.length) : pickK kind l < l.length := by
  unfold pickK
  split
  · exact h
  · split
    · omega
    · exact dearK_in h (Nat.le_refl _)

/-- the cost of so many units of a lot -/
def partC (p : Int × Int × Int) (u : Int) : Int := p.2.2 * u / p.2.1
/-- what is left of lots, and what goes, when so many units are sold: one lot, and then the rest -/
def sellL (pick : List (Int × Int × Int) → Nat) : Nat → List (Int × Int × Int) → Int → List (Int × Int × Int) × Int
  | 0, l, _ => (l, 0)
  | n + 1, l, u =>
    if u ≤ 0 then (l, 0)
    else if u < (l.getD (pick l) default).2.1 then (l.set (pick l) ((l.getD (pick l) default).1, (l.getD (pick l) default).2.1 - u, (l.getD (pick l) default).2.2 - partC (l.getD (pick l) default) u), partC (l.getD (pick l) default) u)
    else ((sellL pick n (l.eraseIdx (pick l)) (u - (l.getD (pick l) default).2.1)).1, (sellL pick n (l.eraseIdx (pick l)) (u - (l.getD (pick l) default).2.1)).2 + (l.getD (pick l) default).2.2)
theorem sell_nil (pick : List (Int × Int × Int) → Nat) (n : Nat) (l : List (Int × Int × Int)) (u : Int) (h : u ≤ 0) : sellL pick n l u = (l, 0) := by
  cases n with
  | zero => rfl
  | succ n => rw [sellL, if_pos h]
theorem part_bd {p : Int × Int × Int} (h : lotB p = true) {u : Int} (h0 : 0 ≤ u) (h1 : u ≤ p.2.1) : 0 ≤ partC p u ∧ partC p u ≤ p.2.2 := by
  have hb := lot_t h
  unfold partC
  refine ⟨Int.ediv_nonneg (Int.mul_nonneg (by omega) h0) (by omega), ?_⟩
  exact Int.ediv_le_of_le_mul (by omega) (Int.mul_le_mul_of_nonneg_left h1 (by omega))
theorem part_all {p : Int × Int × Int} (h : lotB p = true) : partC p p.2.1 = p.2.2 := by
  have hb := lot_t h
  unfold partC
  exact Int.mul_ediv_cancel _ (by omega)
theorem left_lot {p : Int × Int × Int} (h : lotB p = true) {u : Int} (h0 : 0 ≤ u) (h1 : u < p.2.1) : lotB (p.1, p.2.1 - u, p.2.2 - partC p u) = true := by
  have hb := lot_t h
  have := part_bd h h0 (by omega)
  exact lot_mk ⟨hb.1, hb.2.1, by simp only; omega, by simp only; omega, by simp only; omega, by simp only; omega⟩
theorem all_erase {l : List (Int × Int × Int)} (h : ∀ p ∈ l, lotB p = true) (i : Nat) : ∀ p ∈ l.eraseIdx i, lotB p = true := fun p hp => h p (List.mem_of_mem_eraseIdx hp)
theorem all_set {l : List (Int × Int × Int)} (h : ∀ p ∈ l, lotB p = true) (i : Nat) {q : Int × Int × Int} (hq : lotB q = true) : ∀ p ∈ l.set i q, lotB p = true := fun p hp => by
  rcases List.mem_or_eq_of_mem_set hp with h1 | rfl
  · exact h p h1
  · exact hq

/-- how far a sale has come: what is to be left, and to go, in the end -/
structure Sold (pick : List (Int × Int × Int) → Nat) (k : Nat) (cur : List (Int × Int × Int)) (u c : Int) (R : List (Int × Int × Int)) (C : Int) : Prop where
  ok : ∀ p ∈ cur, lotB p = true
  few : cur.length ≤ 40
  len : cur.length ≤ k
  u0 : 0 ≤ u
  uU : u ≤ unitsOf cur
  c0 : 0 ≤ c
  cC : c + costsOf cur ≤ 171798691840
  res : R = (sellL pick k cur u).1
  sum : C = c + (sellL pick k cur u).2
theorem sold_start {pick : List (Int × Int × Int) → Nat} {l : List (Int × Int × Int)} {u : Int} (h : ∀ p ∈ l, lotB p = true) (hn : l.length ≤ 40) (h0 : 0 ≤ u) (h1 : u ≤ unitsOf l) : Sold pick l.length l u 0 (sellL pick l.length l u).1 (sellL pick l.length l u).2 :=
  ⟨h, hn, Nat.le_refl _, h0, h1, Int.le_refl _, by have := costs_bd h; omega, rfl, by omega⟩
theorem Sold.full {pick : List (Int × Int × Int) → Nat} {k : Nat} {cur : List (Int × Int × Int)} {u c : Int} {R : List (Int × Int × Int)} {C : Int} (h : Sold pick k cur u c R C) (hu : 0 < u) : 0 < cur.length ∧ 0 < k := by
  have h1 : 0 < cur.length := by
    cases cur with
    | nil => have := h.uU; simp [unitsOf] at this; omega
    | cons _ _ => simp
  exact ⟨h1, by have := h.len; omega⟩
theorem Sold.stop {pick : List (Int × Int × Int) → Nat} {k : Nat} {cur : List (Int × Int × Int)} {u c : Int} {R : List (Int × Int × Int)} {C : Int} (h : Sold pick k cur u c R C) (hu : ¬ 0 < u) : R = cur ∧ C = c := by
  have := sell_nil pick k cur u (by omega)
  exact ⟨by rw [h.res, this], by rw [h.sum, this]; simp⟩
theorem Sold.some {pick : List (Int × Int × Int) → Nat} {k : Nat} {cur : List (Int × Int × Int)} {u c : Int} {R : List (Int × Int × Int)} {C : Int} (h : Sold pick k cur u c R C) (hp : ∀ l : List (Int × Int × Int), 0 < l.length → pick l < l.length) (hu : 0 < u) {D U Q : Int} (hd : cur.getD (pick cur) default = (D, U, Q)) (hl : u < U) :
    Sold pick k (cur.set (pick cur) (D, U - u, Q - partC (D, U, Q) u)) 0 (c + partC (D, U, Q) u) R C := by
  obtain ⟨h1, h2⟩ := h.full hu
  have hi := hp cur h1
  have hlot : lotB (D, U, Q) = true := hd ▸ h.ok _ (getD_memL hi)
  have hb := part_bd hlot h.u0 (Int.le_of_lt hl)
  have hs := costs_set hi (D, U - u, Q - partC (D, U, Q) u)
  have hcC := h.cC
  have hc0 := h.c0
  rw [hd] at hs
  simp only at hs
  have hL : lotB (D, U - u, Q - partC (D, U, Q) u) = true := left_lot hlot h.u0 hl
  obtain ⟨k, rfl⟩ : ∃ j, k = j + 1 := ⟨k - 1, by omega⟩
  have e : sellL pick (k + 1) cur u = (cur.set (pick cur) (D, U - u, Q - partC (D, U, Q) u), partC (D, U, Q) u) := by rw [sellL, if_neg (by omega), hd, if_pos hl]
  have hU := units_bd (all_set h.ok (pick cur) hL)
  refine ⟨all_set h.ok _ hL, by rw [List.length_set]; exact h.few, by rw [List.length_set]; exact h.len, Int.le_refl _, by omega, by omega, by omega, ?_, ?_⟩
  · rw [h.res, e, sell_nil _ _ _ _ (Int.le_refl _)]
  · rw [h.sum, e, sell_nil _ _ _ _ (Int.le_refl _)]; simp
theorem Sold.whole {pick : List (Int × Int × Int) → Nat} {k : Nat} {cur : List (Int × Int × Int)} {u c : Int} {R : List (Int × Int × Int)} {C : Int} (h : Sold pick k cur u c R C) (hp : ∀ l : List (Int × Int × Int), 0 < l.length → pick l < l.length) (hu : 0 < u) {D U Q : Int} (hd : cur.getD (pick cur) default = (D, U, Q)) (hl : U ≤ u) :
    Sold pick (k - 1) (cur.eraseIdx (pick cur)) (u - U) (c + Q) R C := by
  obtain ⟨h1, h2⟩ := h.full hu
  have hi := hp cur h1
  have hlot : lotB (D, U, Q) = true := hd ▸ h.ok _ (getD_memL hi)
  have hs := costs_erase hi
  have hq := units_erase hi
  have hcC := h.cC
  have hc0 := h.c0
  have huU := h.uU
  have hb := lot_t hlot
  rw [hd] at hs hq
  simp only at hs hq hb
  obtain ⟨k, rfl⟩ : ∃ j, k = j + 1 := ⟨k - 1, by omega⟩
  have e : sellL pick (k + 1) cur u = ((sellL pick k (cur.eraseIdx (pick cur)) (u - U)).1, (sellL pick k (cur.eraseIdx (pick cur)) (u - U)).2 + Q) := by rw [sellL, if_neg (by omega), hd, if_neg (by simp only; omega)]
  have hlen := List.length_eraseIdx_of_lt hi
  have := h.few; have := h.len
  refine ⟨all_erase h.ok _, by omega, by omega, by omega, by omega, by omega, by omega, ?_, ?_⟩
  · rw [h.res, e]; rfl
  · rw [h.sum, e, Nat.add_sub_cancel]; simp only; omega

end Go.Proofs.Ytbohdhiadgcljaa
