/-
  The plain arithmetic of weights and seats. Nothing of the program is used here.
-/
import Derived.Below
import Derived.Lib.Slices
namespace Go.Proofs.Ytmoanndonfmihaa
set_option linter.unusedVariables false

/-- a weight: from 0 to 2^40 -/
def wtB (a : Int) : Bool := decide (0 ≤ a ∧ a ≤ 1099511627776)
theorem wt_t {a : Int} (h : wtB a = true) : 0 ≤ a ∧ a ≤ 1099511627776 := of_decide_eq_true h
theorem wt_f {a : Int} (h : wtB a = false) : ¬ (0 ≤ a ∧ a ≤ 1099511627776) := of_decide_eq_false h
/-- what is wrong with weights -/
def wtsE (zs : List Int) : Int := if zs = [] then 1 else if 40 < zs.length then 2 else if zs.all wtB = false then 3 else if Lib.maxOf zs = 0 then 4 else 0
theorem wtsE_nil : wtsE [] = 1 := rfl
theorem wtsE_many {zs : List Int} (h : 40 < zs.length) : wtsE zs = 2 := by
  unfold wtsE; rw [if_neg (by rintro rfl; simp at h), if_pos h]
theorem wtsE_rng {zs : List Int} (h0 : zs ≠ []) (h : zs.length ≤ 40) (hb : zs.all wtB = false) : wtsE zs = 3 := by
  unfold wtsE; rw [if_neg h0, if_neg (by omega), if_pos hb]
theorem wtsE_zero {zs : List Int} (h0 : zs ≠ []) (h : zs.length ≤ 40) (hb : zs.all wtB = true) (hm : Lib.maxOf zs = 0) : wtsE zs = 4 := by
  unfold wtsE; rw [if_neg h0, if_neg (by omega), if_neg (by rw [hb]; decide), if_pos hm]
theorem wtsE_ok {zs : List Int} (h0 : zs ≠ []) (h : zs.length ≤ 40) (hb : zs.all wtB = true) (hm : Lib.maxOf zs ≠ 0) : wtsE zs = 0 := by
  unfold wtsE; rw [if_neg h0, if_neg (by omega), if_neg (by rw [hb]; decide), if_neg hm]
theorem wtsE_cases (zs : List Int) : (wtsE zs = 0 ∧ zs ≠ [] ∧ zs.length ≤ 40 ∧ zs.all wtB = true ∧ Lib.maxOf zs ≠ 0) ∨ (1 ≤ wtsE zs ∧ wtsE zs ≤ 4) := by
  by_cases h0 : zs = []
  · subst h0; right; decide
  · by_cases h : 40 < zs.length
    · right; rw [wtsE_many h]; decide
    · cases hb : zs.all wtB with
      | false => right; rw [wtsE_rng h0 (by omega) hb]; decide
      | true =>
        by_cases hm : Lib.maxOf zs = 0
        · right; rw [wtsE_zero h0 (by omega) hb hm]; decide
        · left; exact ⟨wtsE_ok h0 (by omega) hb hm, h0, by omega, rfl, hm⟩
theorem wt_at {zs : List Int} (h : zs.all wtB = true) (k : Nat) : 0 ≤ zs.getD k 0 ∧ zs.getD k 0 ≤ 1099511627776 := by
  by_cases hk : k < zs.length
  · refine wt_t ?_
    rw [List.getD_eq_getElem?_getD, List.getElem?_eq_getElem hk]
    exact List.all_eq_true.1 h _ (by simp)
  · rw [List.getD_eq_getElem?_getD, List.getElem?_eq_none (by omega)]
    decide

/-- the first of those whose weight, divided, is greatest, of the first k -/
def nx (dv : Int → Int) (ws ss : List Int) : Nat → Nat
  | 0 => 0
  | k + 1 => if ws.getD k 0 * dv (ss.getD (nx dv ws ss k) 0) > ws.getD (nx dv ws ss k) 0 * dv (ss.getD k 0) then k else nx dv ws ss k
theorem nx_le (dv : Int → Int) (ws ss : List Int) (k : Nat) : nx dv ws ss k ≤ k ∧ (0 < k → nx dv ws ss k < k) := by
  induction k with
  | zero => exact ⟨Nat.le_refl _, fun h => absurd h (by omega)⟩
  | succ k ih =>
    unfold nx
    split
    · omega
    · refine ⟨by omega, fun _ => by omega⟩
theorem nx_lt (dv : Int → Int) (ws ss : List Int) {n : Nat} (h : 0 < n) {k : Nat} (hk : k ≤ n) : nx dv ws ss k < n := by
  have := nx_le dv ws ss k
  rcases Nat.eq_zero_or_pos k with rfl | h'
  · unfold nx; exact h
  · have := this.2 h'; omega
theorem nx_t {dv : Int → Int} {ws ss : List Int} {k : Nat} (h : ws.getD k 0 * dv (ss.getD (nx dv ws ss k) 0) > ws.getD (nx dv ws ss k) 0 * dv (ss.getD k 0)) : nx dv ws ss (k + 1) = k := by rw [nx, if_pos h]
theorem nx_f {dv : Int → Int} {ws ss : List Int} {k : Nat} (h : ¬ ws.getD k 0 * dv (ss.getD (nx dv ws ss k) 0) > ws.getD (nx dv ws ss k) 0 * dv (ss.getD k 0)) : nx dv ws ss (k + 1) = nx dv ws ss k := by rw [nx, if_neg h]

/-- one seat more -/
def give (ss : List Int) (i : Nat) : List Int := ss.set i (ss.getD i 0 + 1)
/-- the seats, one behind the other -/
def sts (dv : Int → Int) (ws : List Int) : Nat → List Int
  | 0 => List.replicate ws.length 0
  | t + 1 => give (sts dv ws t) (nx dv ws (sts dv ws t) ws.length)
theorem give_len (ss : List Int) (i : Nat) : (give ss i).length = ss.length := List.length_set
theorem sts_len (dv : Int → Int) (ws : List Int) (t : Nat) : (sts dv ws t).length = ws.length := by
  induction t with
  | zero => exact List.length_replicate
  | succ t ih => rw [sts, give_len, ih]
theorem give_at (ss : List Int) (i k : Nat) (hi : i < ss.length) : (give ss i).getD k 0 = if k = i then ss.getD k 0 + 1 else ss.getD k 0 := by
  unfold give
  rw [List.getD_eq_getElem?_getD, List.getElem?_set]
  by_cases h : i = k
  · subst h; rw [if_pos rfl, if_pos hi, if_pos rfl]; rfl
  · rw [if_neg h, if_neg (fun e => h e.symm), ← List.getD_eq_getElem?_getD]
theorem sts_bd (dv : Int → Int) (ws : List Int) (hw : ws ≠ []) (t : Nat) (k : Nat) : 0 ≤ (sts dv ws t).getD k 0 ∧ (sts dv ws t).getD k 0 ≤ t := by
  have hp : 0 < ws.length := List.length_pos_iff.2 hw
  induction t with
  | zero =>
    have e : (sts dv ws 0).getD k 0 = 0 := by
      show (List.replicate ws.length 0).getD k 0 = 0
      rw [List.getD_eq_getElem?_getD, List.getElem?_replicate]; split <;> rfl
    rw [e]; omega
  | succ t ih =>
    rw [sts, give_at _ _ _ (by rw [sts_len]; exact nx_lt _ _ _ hp (Nat.le_refl _))]
    split <;> omega
theorem give_sum (ss : List Int) (i : Nat) (hi : i < ss.length) : (give ss i).sum = ss.sum + 1 := by
  unfold give
  induction ss generalizing i with
  | nil => simp at hi
  | cons a ss ih =>
    cases i with
    | zero => simp; omega
    | succ i =>
      have := ih i (by simpa using hi)
      simp only [List.set_cons_succ, List.sum_cons, List.getD_cons_succ]
      omega
theorem sts_sum (dv : Int → Int) (ws : List Int) (hw : ws ≠ []) (t : Nat) : (sts dv ws t).sum = t := by
  have hp : 0 < ws.length := List.length_pos_iff.2 hw
  induction t with
  | zero =>
    show (List.replicate ws.length 0).sum = 0
    generalize ws.length = m
    induction m with
    | zero => rfl
    | succ m ih => rw [List.replicate_succ, List.sum_cons, ih]; rfl
  | succ t ih =>
    rw [sts, give_sum _ _ (by rw [sts_len]; exact nx_lt _ _ _ hp (Nat.le_refl _)), ih]
    omega

/-- the one that is found is the greatest -/
theorem nx_best {dv : Int → Int} {ws ss : List Int} (hd : ∀ x, 0 ≤ x → 0 < dv x) (hw : ∀ k, 0 ≤ ws.getD k 0) (hs : ∀ k, 0 ≤ ss.getD k 0) (k j : Nat) (hj : j < k) :
    ws.getD j 0 * dv (ss.getD (nx dv ws ss k) 0) ≤ ws.getD (nx dv ws ss k) 0 * dv (ss.getD j 0) := by
  induction k with
  | zero => omega
  | succ k ih =>
    have hb := hd _ (hs (nx dv ws ss k))
    have hk := hd _ (hs k)
    have hj' := hd _ (hs j)
    by_cases h : ws.getD k 0 * dv (ss.getD (nx dv ws ss k) 0) > ws.getD (nx dv ws ss k) 0 * dv (ss.getD k 0)
    · rw [nx_t h]
      by_cases e : j = k
      · subst e; exact Int.le_refl _
      · have i1 := ih (by omega)
        have w1 := hw j
        have w2 := hw k
        generalize ws.getD j 0 = wj at *
        generalize ws.getD k 0 = wk at *
        generalize ws.getD (nx dv ws ss k) 0 = wb at *
        generalize dv (ss.getD (nx dv ws ss k) 0) = db at *
        generalize dv (ss.getD k 0) = dk at *
        generalize dv (ss.getD j 0) = dj at *
        refine Int.le_of_mul_le_mul_right ?_ hb
        calc wj * dk * db = wj * db * dk := by rw [Int.mul_assoc, Int.mul_comm dk, ← Int.mul_assoc]
          _ ≤ wb * dj * dk := Int.mul_le_mul_of_nonneg_right i1 (by omega)
          _ = wb * dk * dj := by rw [Int.mul_assoc, Int.mul_comm dj, ← Int.mul_assoc]
          _ ≤ wk * db * dj := Int.mul_le_mul_of_nonneg_right (by omega) (by omega)
          _ = wk * dj * db := by rw [Int.mul_assoc, Int.mul_comm db, ← Int.mul_assoc]
    · rw [nx_f h]
      by_cases e : j = k
      · subst e; omega
      · exact ih (by omega)

/-- who has a seat has no less for it than any would have with one more -/
theorem sts_least {dv : Int → Int} {ws : List Int} (hd : ∀ x, 0 ≤ x → 0 < dv x) (hm : ∀ x y, 0 ≤ x → x ≤ y → dv x ≤ dv y) (hw0 : ws ≠ []) (hw : ∀ k, 0 ≤ ws.getD k 0) (t i k : Nat) (hi : i < ws.length) (hk : k < ws.length)
    (hs : 0 < (sts dv ws t).getD i 0) : ws.getD k 0 * dv ((sts dv ws t).getD i 0 - 1) ≤ ws.getD i 0 * dv ((sts dv ws t).getD k 0) := by
  have hp : 0 < ws.length := List.length_pos_iff.2 hw0
  induction t with
  | zero =>
    have e : (sts dv ws 0).getD i 0 = 0 := by
      show (List.replicate ws.length 0).getD i 0 = 0
      rw [List.getD_eq_getElem?_getD, List.getElem?_replicate]; split <;> rfl
    omega
  | succ t ih =>
    have hb := nx_lt dv ws (sts dv ws t) hp (Nat.le_refl ws.length)
    have best := nx_best hd hw (fun k => (sts_bd dv ws hw0 t k).1) ws.length
    have g1 := give_at (sts dv ws t) (nx dv ws (sts dv ws t) ws.length) i (by rw [sts_len]; exact hb)
    have g2 := give_at (sts dv ws t) (nx dv ws (sts dv ws t) ws.length) k (by rw [sts_len]; exact hb)
    have b1 := (sts_bd dv ws hw0 t i).1
    have b2 := (sts_bd dv ws hw0 t k).1
    have up : dv ((sts dv ws t).getD k 0) ≤ dv ((sts dv ws t).getD k 0 + 1) := hm _ _ b2 (by omega)
    rw [sts, g1] at hs
    rw [sts, g1, g2]
    generalize nx dv ws (sts dv ws t) ws.length = b at *
    by_cases e1 : i = b
    · subst e1
      rw [if_pos rfl, show (sts dv ws t).getD i 0 + 1 - 1 = (sts dv ws t).getD i 0 by omega]
      have := best k hk
      by_cases e2 : k = i
      · subst e2
        rw [if_pos rfl]
        exact Int.mul_le_mul_of_nonneg_left up (hw k)
      · rw [if_neg e2]; exact this
    · rw [if_neg e1] at hs ⊢
      have := ih hs
      by_cases e2 : k = b
      · subst e2
        rw [if_pos rfl]
        exact Int.le_trans this (Int.mul_le_mul_of_nonneg_left up (hw i))
      · rw [if_neg e2]; exact this

def byOnes (x : Int) : Int := x + 1
def byOdds (x : Int) : Int := 2 * x + 1
/-- the number for a kind -/
def dvOf (kind : Int) : Int → Int := if kind = 1 then byOnes else byOdds
theorem dv_pos (kind : Int) : ∀ x, 0 ≤ x → 0 < dvOf kind x := by
  intro x h; unfold dvOf; split
  · unfold byOnes; omega
  · unfold byOdds; omega
theorem dv_mono (kind : Int) : ∀ x y, 0 ≤ x → x ≤ y → dvOf kind x ≤ dvOf kind y := by
  intro x y h h'; unfold dvOf; split
  · unfold byOnes; omega
  · unfold byOdds; omega
/-- of weights so many times as great -/
theorem nx_times (dv : Int → Int) (ws ss : List Int) (by_ : Int) (hb : 0 < by_) (k : Nat) : nx dv (ws.map (by_ * ·)) ss k = nx dv ws ss k := by
  have at_ : ∀ j, (ws.map (by_ * ·)).getD j 0 = by_ * ws.getD j 0 := by
    intro j
    rw [List.getD_eq_getElem?_getD, List.getElem?_map, List.getD_eq_getElem?_getD]
    cases ws[j]? <;> simp
  induction k with
  | zero => rfl
  | succ k ih =>
    rw [nx, ih, nx, at_, at_, Int.mul_assoc, Int.mul_assoc]
    have : (by_ * (ws.getD k 0 * dv (ss.getD (nx dv ws ss k) 0)) > by_ * (ws.getD (nx dv ws ss k) 0 * dv (ss.getD k 0))) ↔ (ws.getD k 0 * dv (ss.getD (nx dv ws ss k) 0) > ws.getD (nx dv ws ss k) 0 * dv (ss.getD k 0)) :=
      ⟨fun h => Int.lt_of_mul_lt_mul_left h (by omega), fun h => Int.mul_lt_mul_of_pos_left h hb⟩
    by_cases h : ws.getD k 0 * dv (ss.getD (nx dv ws ss k) 0) > ws.getD (nx dv ws ss k) 0 * dv (ss.getD k 0)
    · rw [if_pos h, if_pos (this.2 h)]
    · rw [if_neg h, if_neg (fun g => h (this.1 g))]
theorem sts_times (dv : Int → Int) (ws : List Int) (by_ : Int) (hb : 0 < by_) (t : Nat) : sts dv (ws.map (by_ * ·)) t = sts dv ws t := by
  induction t with
  | zero => show List.replicate _ _ = List.replicate _ _; rw [List.length_map]
  | succ t ih => rw [sts, sts, ih, nx_times _ _ _ _ hb, List.length_map]

end Go.Proofs.Ytmoanndonfmihaa
