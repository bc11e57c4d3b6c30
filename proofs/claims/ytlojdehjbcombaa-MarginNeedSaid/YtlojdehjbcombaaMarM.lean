/-
  Stakes, told as lists: what may stand there, what it counts.
-/
import Derived.Test.YtlojdehjbcombaaPrices
import Derived.Test.YtlojdehjbcombaaTrip
import Derived.Test.YtlojdehjbcombaaExactOf
namespace Go.Proofs.Ytlojdehjbcombaa
open Go.RowKit
set_option linter.unusedVariables false

/-- a stake that may stand there: paper, units, counts -/
def stkB (p : Int × Int × Int) : Bool := decide (1 ≤ p.1 ∧ p.1 ≤ 20 ∧ 1 ≤ p.2.1 ∧ p.2.1 ≤ 1073741824 ∧ 0 ≤ p.2.2 ∧ p.2.2 ≤ 10000)
theorem stk_t {p : Int × Int × Int} (h : stkB p = true) : 1 ≤ p.1 ∧ p.1 ≤ 20 ∧ 1 ≤ p.2.1 ∧ p.2.1 ≤ 1073741824 ∧ 0 ≤ p.2.2 ∧ p.2.2 ≤ 10000 := of_decide_eq_true h
/-- the place of the first that may not stand there, or -1 -/
def stkI : List (Int × Int × Int) → Nat → Int
  | [], _ => -1
  | p :: l, k => if stkB p = true then stkI l (k + 1) else (k : Int)
theorem stkI_all {l : List (Int × Int × Int)} {k : Nat} (h : l.all stkB = true) : stkI l k = -1 := by
  induction l generalizing k with
  | nil => rfl
  | cons p l ih =>
    simp only [List.all_cons, Bool.and_eq_true] at h
    rw [stkI, if_pos h.1]; exact ih h.2
theorem stkI_some {l : List (Int × Int × Int)} {k : Nat} (h : l.all stkB = false) : (k : Int) ≤ stkI l k ∧ stkI l k < k + l.length := by
  induction l generalizing k with
  | nil => cases h
  | cons p l ih =>
    rw [stkI]
    by_cases hp : stkB p = true
    · rw [if_pos hp]
      have : l.all stkB = false := by simpa [hp] using h
      have := ih (k := k + 1) this
      simp only [List.length_cons]; omega
    · rw [if_neg hp]
      simp only [List.length_cons]; omega
/-- the error of stakes -/
def stkE (l : List (Int × Int × Int)) : Int := if 40 < l.length then 2 else if l.all stkB = true then 0 else 3
theorem stkE_0 {l : List (Int × Int × Int)} (h : stkE l = 0) : l.length ≤ 40 ∧ ∀ p ∈ l, stkB p = true := by
  unfold stkE at h
  by_cases a : 40 < l.length
  · rw [if_pos a] at h; cases h
  · rw [if_neg a] at h
    by_cases b : l.all stkB = true
    · exact ⟨by omega, by simpa using b⟩
    · rw [if_neg b] at h; cases h
theorem stkE_mk {l : List (Int × Int × Int)} (h : l.length ≤ 40) (g : ∀ p ∈ l, stkB p = true) : stkE l = 0 := by
  unfold stkE
  rw [if_neg (by omega), if_pos (by simpa using g)]
/-- what a stake counts -/
def wrt (ps : List Int) (s : Int × Int × Int) : Int := s.2.1 * ps.getD (s.1 - 1).toNat 0 / 10000 * s.2.2 / 10000
theorem wrt_bd0 {u p c : Int} (h1 : 0 ≤ u ∧ u ≤ 1073741824) (h2 : 0 ≤ c ∧ c ≤ 10000) (h3 : 0 ≤ p ∧ p ≤ 1099511627776) : 0 ≤ u * p / 10000 * c / 10000 ∧ u * p / 10000 * c / 10000 ≤ 118059162071741130 := by
  have b := cost_bd h1 h3
  have a : 0 ≤ u * p / 10000 * c := Int.mul_nonneg b.1 h2.1
  have d : u * p / 10000 * c ≤ 118059162071741130 * 10000 := Int.mul_le_mul b.2 h2.2 h2.1 (by omega)
  omega
/-- prices of all papers -/
def PrsOk (ps : List Int) : Prop := ps.length = 20 ∧ ∀ p ∈ ps, 0 ≤ p ∧ p ≤ 1099511627776
theorem prsOk {ps : List Int} (h : prsE ps = 0) : PrsOk ps := by
  unfold prsE at h
  by_cases a : ps.length = 20
  · rw [if_pos a] at h
    exact ⟨a, fun p hp => prc_t (prs_0 h p hp)⟩
  · rw [if_neg a] at h; cases h
theorem PrsOk.at_ {ps : List Int} (h : PrsOk ps) (k : Nat) : 0 ≤ ps.getD k 0 ∧ ps.getD k 0 ≤ 1099511627776 := by
  rw [List.getD_eq_getElem?_getD]
  cases e : ps[k]? with
  | none => simp
  | some p => exact h.2 p (List.mem_of_getElem? e)
theorem wrt_bd {ps : List Int} (h : PrsOk ps) {s : Int × Int × Int} (h1 : 0 ≤ s.2.1 ∧ s.2.1 ≤ 1073741824) (h2 : 0 ≤ s.2.2 ∧ s.2.2 ≤ 10000) : 0 ≤ wrt ps s ∧ wrt ps s ≤ 118059162071741130 := wrt_bd0 h1 h2 (h.at_ _)
theorem wrt_stk {ps : List Int} (h : PrsOk ps) {s : Int × Int × Int} (hs : stkB s = true) : 0 ≤ wrt ps s ∧ wrt ps s ≤ 118059162071741130 := by
  have := stk_t hs
  exact wrt_bd h (by omega) (by omega)
theorem wrt_mono {ps : List Int} (h : PrsOk ps) {P U V C : Int} (h0 : 0 ≤ C) (hu : U ≤ V) : wrt ps (P, U, C) ≤ wrt ps (P, V, C) := by
  unfold wrt
  have a := h.at_ (P - 1).toNat
  have b : U * ps.getD (P - 1).toNat 0 ≤ V * ps.getD (P - 1).toNat 0 := Int.mul_le_mul_of_nonneg_right hu a.1
  have c : U * ps.getD (P - 1).toNat 0 / 10000 * C ≤ V * ps.getD (P - 1).toNat 0 / 10000 * C := Int.mul_le_mul_of_nonneg_right (by omega) h0
  show U * ps.getD (P - 1).toNat 0 / 10000 * C / 10000 ≤ V * ps.getD (P - 1).toNat 0 / 10000 * C / 10000
  omega
theorem wrt_0 {ps : List Int} {P C : Int} : wrt ps (P, 0, C) = 0 := by
  unfold wrt
  show 0 * ps.getD (P - 1).toNat 0 / 10000 * C / 10000 = 0
  rw [Int.zero_mul]; simp
theorem wrt_c {ps : List Int} {P U : Int} : wrt ps (P, U, 0) = 0 := by
  unfold wrt
  show U * ps.getD (P - 1).toNat 0 / 10000 * 0 / 10000 = 0
  rw [Int.mul_zero]; rfl
/-- what stakes count, together -/
def wsum (ps : List Int) (l : List (Int × Int × Int)) : Int := (l.map (wrt ps)).sum
theorem wsum_app (ps : List Int) (a b : List (Int × Int × Int)) : wsum ps (a ++ b) = wsum ps a + wsum ps b := by unfold wsum; rw [List.map_append, List.sum_append]
theorem wsum_cons (ps : List Int) (p : Int × Int × Int) (b : List (Int × Int × Int)) : wsum ps (p :: b) = wrt ps p + wsum ps b := by unfold wsum; rw [List.map_cons, List.sum_cons]
theorem wsum_bd {ps : List Int} (h : PrsOk ps) {l : List (Int × Int × Int)} (hl : ∀ p ∈ l, stkB p = true) : 0 ≤ wsum ps l ∧ wsum ps l ≤ 118059162071741130 * (l.length : Int) := by
  induction l with
  | nil => exact ⟨Int.le_refl _, Int.le_refl _⟩
  | cons p l ih =>
    have a := wrt_stk h (hl p (by simp))
    have b := ih (fun q hq => hl q (by simp [hq]))
    rw [wsum_cons, List.length_cons]
    omega
theorem wsum_take {ps : List Int} {l : List (Int × Int × Int)} {k : Nat} (hk : k < l.length) : wsum ps (l.take (k + 1)) = wsum ps (l.take k) + wrt ps (l.getD k default) := by
  rw [List.take_succ_eq_append_getElem hk, wsum_app, List.getD_eq_getElem?_getD, List.getElem?_eq_getElem hk]
  simp [wsum]
theorem wsum_ok {ps : List Int} (h : PrsOk ps) {l : List (Int × Int × Int)} (hl : ∀ p ∈ l, stkB p = true) (h40 : l.length ≤ 60) : okS (wsum ps l) := by
  have b := wsum_bd h hl
  exact okS_mk (k := 60) (by decide) (by omega) (by omega)
/-- a sum as an amount, and its error -/
def amV (S : Int) : Int := if amtB S = true then S else 0
def amE (S : Int) : Int := if amtB S = true then 0 else 8
theorem am_ok {S : Int} (h : amtB S = true) : amV S = S ∧ amE S = 0 := ⟨if_pos h, if_pos h⟩
theorem am_no {S : Int} (h : amtB S = false) : amV S = 0 ∧ amE S = 8 := ⟨if_neg (by rw [h]; decide), if_neg (by rw [h]; decide)⟩
theorem amount_any (S : Int) (w : World) : Calls Try.prog 106 #[.agg #[.int .i64 (hiOf S), .int .u64 (loOf S)]] w fun e w' => e = .returned (.tuple #[.int .i64 (amV S), .int .i64 (amE S)]) ∧ Kpt w w' := by
  cases h : amtB S with
  | true => rw [(am_ok h).1, (am_ok h).2]; exact (amount_ok S w h).mono fun e w' g => ⟨g.1, g.2.kpt⟩
  | false => rw [(am_no h).1, (am_no h).2]; exact (amount_no S w h).mono fun e w' g => ⟨g.1, g.2.kpt⟩
/-- the error of stakes and prices -/
def mcE (l : List (Int × Int × Int)) (ps : List Int) : Int := orE (stkE l) (prsE ps)
theorem mcE_0 {l : List (Int × Int × Int)} {ps : List Int} (h : mcE l ps = 0) : (l.length ≤ 40 ∧ ∀ p ∈ l, stkB p = true) ∧ PrsOk ps := ⟨stkE_0 (orE_0 h).1, prsOk (orE_0 h).2⟩
/-- what Value answers -/
def valE (l : List (Int × Int × Int)) (ps : List Int) : Int := orE (mcE l ps) (amE (wsum ps l))
def valV (l : List (Int × Int × Int)) (ps : List Int) : Int := if mcE l ps = 0 then amV (wsum ps l) else 0
def sumB (n : Int) : Bool := decide (0 ≤ n ∧ n ≤ 1152921504606846976)
theorem sum_t {n : Int} (h : sumB n = true) : 0 ≤ n ∧ n ≤ 1152921504606846976 := of_decide_eq_true h
theorem sum_f {n : Int} (h : sumB n = false) : ¬ (0 ≤ n ∧ n ≤ 1152921504606846976) := of_decide_eq_false h
/-- what Call answers -/
def callE (has need least : Int) : Int := if sumB has = true ∧ sumB need = true ∧ sumB least = true then 0 else 3
def callV (has need least : Int) : Int := if sumB has = true ∧ sumB need = true ∧ sumB least = true then (if need - has < least then 0 else need - has) else 0

end Go.Proofs.Ytlojdehjbcombaa
