/-
  Merged: MarM, MarA, MarB, MarC, MarD, MarE.
-/
import Derived.Test.YtgccipmeiceonaaMm17
import Derived.Test.YtgccipmeiceonaaMm14
import Derived.Test.YtgccipmeiceonaaMm20
import Derived.Test.YtgccipmeiceonaaMm0
import Derived.Test.YtgccipmeiceonaaMm21
import Derived.Deep.RegionWith
-- MarM
namespace Go.Proofs.Ytgccipmeiceonaa
open Go.RowKit
set_option linter.unusedVariables false

/-- a stake that may stand there: paper, units, counts -/
def stkB (p : Int × Int × Int) : Bool := decide (1 ≤ p.1 ∧ p.1 ≤ 20 ∧ 1 ≤ p.2.1 ∧ p.2.1 ≤ 1073741824 ∧ 0 ≤ p.2.2 ∧ p.2.2 ≤ 10000)
theorem stk_t {p : Int × Int × Int} (h : stkB p = true) : 1 ≤ p.1 ∧ p.1 ≤ 20 ∧ 1 ≤ p.2.1 ∧ p.2.1 ≤ 1073741824 ∧ 0 ≤ p.2.2 ∧ p.2.2 ≤ 10000 := of_decide_eq_true h
/-- the place of the first that may not stand there, or -1 -/
def stkI : List (Int × Int × Int) → Nat → Int
  | [], _ => -1
  | p :: l, k => if stkB p = true then stkI l (k + 1) else (k : Int)
theorem stkI_all {l : List (Int × Int × Int)} {k : Nat} (h : l.all stkB = true) : stkI l k = -1 := by
  induction l generalizing k with
  | nil => rfl
  | cons p l ih =>
    simp only [List.all_cons, Bool.and_eq_true] at h
    rw [stkI, if_pos h.1]; exact ih h.2
theorem stkI_some {l : List (Int × Int × Int)} {k : Nat} (h : l.all stkB = false) : (k : Int) ≤ stkI l k ∧ stkI l k < k + l.length := by
  induction l generalizing k with
  | nil => cases h
  | cons p l ih =>
    rw [stkI]
    by_cases hp : stkB p = true
    · rw [if_pos hp]
      have : l.all stkB = false := by simpa [hp] using h
      have := ih (k := k + 1) this
      simp only [List.length_cons]; omega
    · rw [if_neg hp]
      simp only [List.length_cons]; omega
/-- the error of stakes -/
def stkE (l : List (Int × Int × Int)) : Int := if 40 < l.length then 2 else if l.all stkB = true then 0 else 3
theorem stkE_0 {l : List (Int × Int × Int)} (h : stkE l = 0) : l.length ≤ 40 ∧ ∀ p ∈ l, stkB p = true := by
  unfold stkE at h
  by_cases a : 40 < l.length
  · rw [if_pos a] at h; cases h
  · rw [if_neg a] at h
    by_cases b : l.all stkB = true
    · exact ⟨by omega, by simpa using b⟩
    · rw [if_neg b] at h; cases h
theorem stkE_mk {l : List (Int × Int × Int)} (h : l.length ≤ 40) (g : ∀ p ∈ l, stkB p = true) : stkE l = 0 := by
  unfold stkE
  rw [if_neg (by omega), if_pos (by simpa using g)]
/-- what a stake counts -/
def wrt (ps : List Int) (s : Int × Int × Int) : Int := s.2.1 * ps.getD (s.1 - 1).toNat 0 / 10000 * s.2.2 / 10000
theorem wrt_bd0 {u p c : Int} (h1 : 0 ≤ u ∧ u ≤ 1073741824) (h2 : 0 ≤ c ∧ c ≤ 10000) (h3 : 0 ≤ p ∧ p ≤ 1099511627776) : 0 ≤ u * p / 10000 * c / 10000 ∧ u * p / 10000 * c / 10000 ≤ 118059162071741130 := by
  have b := cost_bd h1 h3
  have a : 0 ≤ u * p / 10000 * c := Int.mul_nonneg b.1 h2.1
  have d : u * p / 10000 * c ≤ 118059162071741130 * 10000 := Int.mul_le_mul b.2 h2.2 h2.1 (by omega)
  omega
/-- prices of all papers -/
def PrsOk (ps : List Int) : Prop := ps.length = 20 ∧ ∀ p ∈ ps, 0 ≤ p ∧ p ≤ 1099511627776
theorem prsOk {ps : List Int} (h : prsE ps = 0) : PrsOk ps := by
  unfold prsE at h
  by_cases a : ps.length = 20
  · rw [if_pos a] at h
    exact ⟨a, fun p hp => prc_t (prs_0 h p hp)⟩
  · rw [if_neg a] at h; cases h
theorem PrsOk.at_ {ps : List Int} (h : PrsOk ps) (k : Nat) : 0 ≤ ps.getD k 0 ∧ ps.getD k 0 ≤ 1099511627776 := by
  rw [List.getD_eq_getElem?_getD]
  cases e : ps[k]? with
  | none => simp
  | some p => exact h.2 p (List.mem_of_getElem? e)
theorem wrt_bd {ps : List Int} (h : PrsOk ps) {s : Int × Int × Int} (h1 : 0 ≤ s.2.1 ∧ s.2.1 ≤ 1073741824) (h2 : 0 ≤ s.2.2 ∧ s.2.2 ≤ 10000) : 0 ≤ wrt ps s ∧ wrt ps s ≤ 118059162071741130 := wrt_bd0 h1 h2 (h.at_ _)
theorem wrt_stk {ps : List Int} (h : PrsOk ps) {s : Int × Int × Int} (hs : stkB s = true) : 0 ≤ wrt ps s ∧ wrt ps s ≤ 118059162071741130 := by
  have := stk_t hs
  exact wrt_bd h (by omega) (by omega)
theorem wrt_mono {ps : List Int} (h : PrsOk ps) {P U V C : Int} (h0 : 0 ≤ C) (hu : U ≤ V) : wrt ps (P, U, C) ≤ wrt ps (P, V, C) := by
  unfold wrt
  have a := h.at_ (P - 1).toNat
  have b : U * ps.getD (P - 1).toNat 0 ≤ V * ps.getD (P - 1).toNat 0 := Int.mul_le_mul_of_nonneg_right hu a.1
  have c : U * ps.getD (P - 1).toNat 0 / 10000 * C ≤ V * ps.getD (P - 1).toNat 0 / 10000 * C := Int.mul_le_mul_of_nonneg_right (by omega) h0
  show U * ps.getD (P - 1).toNat 0 / 10000 * C / 10000 ≤ V * ps.getD (P - 1).toNat 0 / 10000 * C / 10000
  omega
theorem wrt_0 {ps : List Int} {P C : Int} : wrt ps (P, 0, C) = 0 := by
  unfold wrt
  show 0 * ps.getD (P - 1).toNat 0 / 10000 * C / 10000 = 0
  rw [Int.zero_mul]; simp
theorem wrt_c {ps : List Int} {P U : Int} : wrt ps (P, U, 0) = 0 := by
  unfold wrt
  show U * ps.getD (P - 1).toNat 0 / 10000 * 0 / 10000 = 0
  rw [Int.mul_zero]; rfl
/-- what stakes count, together -/
def wsum (ps : List Int) (l : List (Int × Int × Int)) : Int := (l.map (wrt ps)).sum
theorem wsum_app (ps : List Int) (a b : List (Int × Int × Int)) : wsum ps (a ++ b) = wsum ps a + wsum ps b := by unfold wsum; rw [List.map_append, List.sum_append]
theorem wsum_cons (ps : List Int) (p : Int × Int × Int) (b : List (Int × Int × Int)) : wsum ps (p :: b) = wrt ps p + wsum ps b := by unfold wsum; rw [List.map_cons, List.sum_cons]
theorem wsum_bd {ps : List Int} (h : PrsOk ps) {l : List (Int × Int × Int)} (hl : ∀ p ∈ l, stkB p = true) : 0 ≤ wsum ps l ∧ wsum ps l ≤ 118059162071741130 * (l.length : Int) := by
  induction l with
  | nil => exact ⟨Int.le_refl _, Int.le_refl _⟩
  | cons p l ih =>
    have a := wrt_stk h (hl p (by simp))
    have b := ih (fun q hq => hl q (by simp [hq]))
    rw [wsum_cons, List.length_cons]
    omega
theorem wsum_take {ps : List Int} {l : List (Int × Int × Int)} {k : Nat} (hk : k < l.length) : wsum ps (l.take (k + 1)) = wsum ps (l.take k) + wrt ps (l.getD k default) := by
  rw [List.take_succ_eq_append_getElem hk, wsum_app, List.getD_eq_getElem?_getD, List.getElem?_eq_getElem hk]
  simp [wsum]
theorem wsum_ok {ps : List Int} (h : PrsOk ps) {l : List (Int × Int × Int)} (hl : ∀ p ∈ l, stkB p = true) (h40 : l.length ≤ 60) : okS (wsum ps l) := by
  have b := wsum_bd h hl
  exact okS_mk (k := 60) (by decide) (by omega) (by omega)
/-- a sum as an amount, and its error -/
def amV (S : Int) : Int := if amtB S = true then S else 0
def amE (S : Int) : Int := if amtB S = true then 0 else 8
theorem am_ok {S : Int} (h : amtB S = true) : amV S = S ∧ amE S = 0 := ⟨if_pos h, if_pos h⟩
theorem am_no {S : Int} (h : amtB S = false) : amV S = 0 ∧ amE S = 8 := ⟨if_neg (by rw [h]; decide), if_neg (by rw [h]; decide)⟩
theorem amount_any (S : Int) (w : World) : Calls Try.prog 121 #[.agg #[.int .i64 (hiOf S), .int .u64 (loOf S)]] w fun e w' => e = .returned (.tuple #[.int .i64 (amV S), .int .i64 (amE S)]) ∧ Kpt w w' := by
  cases h : amtB S with
  | true => rw [(am_ok h).1, (am_ok h).2]; exact (amount_ok S w h).mono fun e w' g => ⟨g.1, g.2.kpt⟩
  | false => rw [(am_no h).1, (am_no h).2]; exact (amount_no S w h).mono fun e w' g => ⟨g.1, g.2.kpt⟩
/-- the error of stakes and prices -/
def mcE (l : List (Int × Int × Int)) (ps : List Int) : Int := orE (stkE l) (prsE ps)
theorem mcE_0 {l : List (Int × Int × Int)} {ps : List Int} (h : mcE l ps = 0) : (l.length ≤ 40 ∧ ∀ p ∈ l, stkB p = true) ∧ PrsOk ps := ⟨stkE_0 (orE_0 h).1, prsOk (orE_0 h).2⟩
/-- what Value answers -/
def valE (l : List (Int × Int × Int)) (ps : List Int) : Int := orE (mcE l ps) (amE (wsum ps l))
def valV (l : List (Int × Int × Int)) (ps : List Int) : Int := if mcE l ps = 0 then amV (wsum ps l) else 0
def sumB (n : Int) : Bool := decide (0 ≤ n ∧ n ≤ 1152921504606846976)
theorem sum_t {n : Int} (h : sumB n = true) : 0 ≤ n ∧ n ≤ 1152921504606846976 := of_decide_eq_true h
theorem sum_f {n : Int} (h : sumB n = false) : ¬ (0 ≤ n ∧ n ≤ 1152921504606846976) := of_decide_eq_false h
/-- what Call answers -/
def callE (has need least : Int) : Int := if sumB has = true ∧ sumB need = true ∧ sumB least = true then 0 else 3
def callV (has need least : Int) : Int := if sumB has = true ∧ sumB need = true ∧ sumB least = true then (if need - has < least then 0 else need - has) else 0

end Go.Proofs.Ytgccipmeiceonaa

-- MarA
namespace Go.Proofs.Ytgccipmeiceonaa
open Go.RowKit
set_option linter.unusedVariables false

def StkIs (P U C : Int) (b : Bool) : Prop := ∀ w, Calls Try.prog 88 #[.agg #[.int .i64 P, .int .i64 U, .int .i64 C]] w fun e w' => e = .returned (.bool b) ∧ Kpt w w'
theorem StkIs.run {P U C : Int} {b : Bool} (h : StkIs P U C b) (w : World) : Calls Try.prog 88 #[.agg #[.int .i64 P, .int .i64 U, .int .i64 C]] w fun e w' => e = .returned (.bool b) ∧ Kpt w w' := h w
set_option maxHeartbeats 1000000 in
theorem wrong_run (P U C : Int) : StkIs P U C (!stkB (P, U, C)) := by
  intro w
  have no : ¬ (1 ≤ P ∧ P ≤ 20 ∧ 1 ≤ U ∧ U ≤ 1073741824 ∧ 0 ≤ C ∧ C ≤ 10000) → (!stkB (P, U, C)) = true := fun h => by rw [show stkB (P, U, C) = false from decide_eq_false h]; rfl
  by_cases h1 : P < 1
  · rw [no (by omega)]
    have d1 : decide (P < 1) = true := decide_eq_true h1
    clear no
    go_enter Try.func88, Try.ntmps88
    go_wp2
    go_ret
    exact ⟨rfl, (Kpt.refl w).alloc _⟩
  have d1 : decide (P < 1) = false := decide_eq_false h1
  by_cases h2 : 20 < P
  · rw [no (by omega)]
    have d2 : decide (20 < P) = true := decide_eq_true h2
    clear no
    go_enter Try.func88, Try.ntmps88
    go_wp2
    go_ret
    exact ⟨rfl, (Kpt.refl w).alloc _⟩
  have d2 : decide (20 < P) = false := decide_eq_false h2
  by_cases h3 : U < 1
  · rw [no (by omega)]
    have d3 : decide (U < 1) = true := decide_eq_true h3
    clear no
    go_enter Try.func88, Try.ntmps88
    go_wp2
    go_ret
    exact ⟨rfl, (Kpt.refl w).alloc _⟩
  have d3 : decide (U < 1) = false := decide_eq_false h3
  by_cases h4 : 1073741824 < U
  · rw [no (by omega)]
    have d4 : decide (1073741824 < U) = true := decide_eq_true h4
    clear no
    go_enter Try.func88, Try.ntmps88
    go_wp2
    go_ret
    exact ⟨rfl, (Kpt.refl w).alloc _⟩
  have d4 : decide (1073741824 < U) = false := decide_eq_false h4
  by_cases h5 : C < 0
  · rw [no (by omega)]
    have d5 : decide (C < 0) = true := decide_eq_true h5
    clear no
    go_enter Try.func88, Try.ntmps88
    go_wp2
    go_ret
    exact ⟨rfl, (Kpt.refl w).alloc _⟩
  have d5 : decide (C < 0) = false := decide_eq_false h5
  by_cases h6 : 10000 < C
  · rw [no (by omega)]
    have d6 : decide (10000 < C) = true := decide_eq_true h6
    clear no
    go_enter Try.func88, Try.ntmps88
    go_wp2
    go_ret
    exact ⟨rfl, (Kpt.refl w).alloc _⟩
  have d6 : decide (10000 < C) = false := decide_eq_false h6
  rw [show (!stkB (P, U, C)) = false by rw [show stkB (P, U, C) = true from decide_eq_true (show 1 ≤ P ∧ P ≤ 20 ∧ 1 ≤ U ∧ U ≤ 1073741824 ∧ 0 ≤ C ∧ C ≤ 10000 by omega)]; rfl]
  clear no
  go_enter Try.func88, Try.ntmps88
  go_wp2
  go_ret
  exact ⟨rfl, (Kpt.refl w).alloc _⟩

theorem drop_p {l : List (Int × Int × Int)} {k : Nat} (hk : k < l.length) : l.drop k = l.getD k default :: l.drop (k + 1) := by
  rw [List.drop_eq_getElem_cons hk, List.getD_eq_getElem?_getD, List.getElem?_eq_getElem hk]; rfl
set_option maxHeartbeats 2000000 in
theorem stkI_run (v : Value) (l : List (Int × Int × Int)) (w : World) (hr : ReadsP w v l) :
    Calls Try.prog 124 #[v, .func (.func 88) #[] #[]] w fun e w' => e = .returned (.int .i64 (stkI l 0)) ∧ Kpt w w' := by
  obtain ⟨a, cap, rfl, -, hm, -, hc⟩ := hr
  unfold maxLen at hm
  have HC := Lib.hid hc
  have DR := Lib.hid (fun k (h : k < l.length) => drop_p h)
  have HX : Hid (stkI l 0 = stkI (l.drop 0) 0) := rfl
  have DA : Hid (l.drop l.length = []) := List.drop_length
  obtain ⟨n, hn⟩ : ∃ n, n = l.length := ⟨_, rfl⟩
  rw [← hn] at HC hm DR DA ⊢
  clear hc hn
  go_enter Try.func124, Try.ntmps124
  go_wp2
  go_loopw [8] (fun ii wr => ∃ k : Nat, k ≤ n ∧ ii = .int .i64 (k : Int) ∧ Hid (stkI l 0 = stkI (l.drop k) k) ∧ Hid (Kpt w wr)) (fun ii _ => n - (intOf ii).toNat)
  case atStart => exact ⟨0, Nat.zero_le _, rfl, HX.out, Kpt.refl _⟩
  case round =>
    obtain ⟨k, hk, rfl, HE, HK⟩ := hrel
    by_cases hlt : k < n
    · obtain ⟨g, off, rfl, hp⟩ := HC.out k hlt
      obtain ⟨c0, c1, c2⟩ := hp.kpt HK.out
      have he : stkI l 0 = (if stkB (l.getD k default) = true then stkI (l.drop (k + 1)) (k + 1) else (k : Int)) := HE.out.trans (by rw [DR.out k hlt]; rfl)
      clear hp HE
      generalize l.getD k default = p at c0 c1 c2 he
      obtain ⟨P, U, C⟩ := p
      simp only at c0 c1 c2
      have F1 := Lib.hid (wrong_run P U C)
      cases hB : stkB (P, U, C) with
      | false =>
        rw [hB] at he F1
        rw [if_neg (by decide)] at he
        have HE2 := Lib.hid he
        clear he hB
        go_wp2_with (go_at_call 88; (with_reducible refine (F1.out.run _).mono ?_); rintro e w1 ⟨rfl, k1⟩; have K1 := Lib.hid (ktr HK.out k1); clear k1)
        go_ret
        exact ⟨ret_int HE2.out.symm, K1.out⟩
      | true =>
        rw [hB] at he F1
        rw [if_pos rfl] at he
        have HE2 := Lib.hid he
        clear he hB
        go_wp2_with (go_at_call 88; (with_reducible refine (F1.out.run _).mono ?_); rintro e w1 ⟨rfl, k1⟩; have K1 := Lib.hid (ktr HK.out k1); clear k1)
        go_roundw
        case rel => exact ⟨k + 1, by omega, by go_num, HE2.out, K1.out⟩
        case measure => simp [intOf]; omega
    · obtain rfl : k = n := by omega
      rw [DA.out] at HE
      go_wp2
      go_ret
      exact ⟨ret_int HE.out.symm, HK.out⟩

def hasI (r : Int) : Bool := decide (0 ≤ r)
theorem stkC_run (v : Value) (l : List (Int × Int × Int)) (w : World) (hr : ReadsP w v l) :
    Calls Try.prog 89 #[v, .func (.func 88) #[] #[]] w fun e w' => e = .returned (.bool (!l.all stkB)) ∧ Kpt w w' := by
  have C := Lib.hid (stkI_run v l w hr)
  obtain ⟨a, cap, rfl, -, hm, -, -⟩ := hr
  cases h : l.all stkB with
  | true =>
    rw [stkI_all h] at C
    clear h
    generalize l.length = n at *
    go_enter Try.func89, Try.ntmps89
    go_wp2_with (go_at_call 124; (with_reducible refine C.out.mono ?_); rintro e w1 ⟨rfl, k1⟩)
    go_ret
    exact ⟨rfl, k1⟩
  | false =>
    have b := (stkI_some (k := 0) h).1
    clear h
    generalize stkI l 0 = r at *
    generalize l.length = n at *
    have d : decide (0 ≤ r) = true := decide_eq_true (by omega)
    go_enter Try.func89, Try.ntmps89
    go_wp2_with (go_at_call 124; (with_reducible refine C.out.mono ?_); rintro e w1 ⟨rfl, k1⟩)
    go_ret
    exact ⟨rfl, k1⟩

theorem stkE_run (v : Value) (l : List (Int × Int × Int)) (w : World) (hr : ReadsP w v l) :
    Calls Try.prog 34 #[v] w fun e w' => e = .returned (.int .i64 (stkE l)) ∧ Kpt w w' := by
  have C := Lib.hid (stkC_run v l w hr)
  obtain ⟨a, cap, rfl, -, hm, -, -⟩ := hr
  unfold maxLen at hm
  unfold stkE
  by_cases h : 40 < l.length
  · rw [if_pos h]
    have h1 : (40 : Int) < (l.length : Int) := by omega
    clear C h
    generalize l.length = n at *
    go_enter Try.func34, Try.ntmps34
    go_wp2
    go_ret
    exact ⟨rfl, Kpt.refl _⟩
  · rw [if_neg h]
    have h1 : ¬ (40 : Int) < (l.length : Int) := by omega
    clear h
    cases hB : l.all stkB with
    | true =>
      rw [hB] at C
      rw [if_pos rfl]
      clear hB
      generalize l.length = n at *
      go_enter Try.func34, Try.ntmps34
      go_wp2_with (go_at_call 89; (with_reducible refine C.out.mono ?_); rintro e w1 ⟨rfl, k1⟩)
      go_ret
      exact ⟨rfl, k1⟩
    | false =>
      rw [hB] at C
      rw [if_neg (by decide)]
      clear hB
      generalize l.length = n at *
      go_enter Try.func34, Try.ntmps34
      go_wp2_with (go_at_call 89; (with_reducible refine C.out.mono ?_); rintro e w1 ⟨rfl, k1⟩)
      go_ret
      exact ⟨rfl, k1⟩

end Go.Proofs.Ytgccipmeiceonaa

-- MarB
namespace Go.Proofs.Ytgccipmeiceonaa
open Go.RowKit
set_option linter.unusedVariables false

theorem pt_priced {U p C : Int} (h1 : 0 ≤ U ∧ U ≤ 1073741824) (h2 : 0 ≤ C ∧ C ≤ 10000) (h3 : 0 ≤ p ∧ p ≤ 1099511627776) (w : World) : Calls Try.prog 49 #[.int .i64 (U * p / 10000), .int .i64 C, .int .i64 10000] w fun e w' => e = .returned (.tuple #[.int .i64 (U * p / 10000 * C / 10000), .int .i64 (U * p / 10000 * C % 10000), .int .i64 0]) ∧ Grew w w' := by
  have c := cost_bd h1 h3
  have b := wrt_bd0 h1 h2 h3
  exact part_ok _ _ _ (amt_mk (by omega) (by omega)) (rng_mk h2.1 (by omega) (by decide) (by decide)) (amt_mk (by omega) (by omega)) w
theorem cost_priced {U p : Int} (h1 : 0 ≤ U ∧ U ≤ 1073741824) (h3 : 0 ≤ p ∧ p ≤ 1099511627776) (w : World) : Calls Try.prog 48 #[.int .i64 U, .int .i64 p] w fun e w' => e = .returned (.tuple #[.int .i64 (U * p / 10000), .int .i64 (cosR U p), .int .i64 0]) ∧ Kpt w w' := by
  have c := cost_any U p w
  have d := cos_dly (p := p) h1
  have hp : prcB p = true := prc_mk h3.1 h3.2
  rw [d.1, d.2, hp, if_pos rfl, if_pos rfl] at c
  exact c

set_option maxHeartbeats 1000000 in
theorem worth_run (P U C : Int) (v : Value) (ps : List Int) (w : World) (hr : Reads w v ps) (hps : PrsOk ps) (hP : 1 ≤ P ∧ P ≤ 20) (h1 : 0 ≤ U ∧ U ≤ 1073741824) (h2 : 0 ≤ C ∧ C ≤ 10000) :
    Calls Try.prog 120 #[.agg #[.int .i64 P, .int .i64 U, .int .i64 C], v] w fun e w' => e = .returned (.int .i64 (wrt ps (P, U, C))) ∧ Kpt w w' := by
  obtain ⟨a, cap, rfl, hm, hc⟩ := hr
  have h20 := hps.1
  obtain ⟨g, off, rfl, c0⟩ := hc (P - 1).toNat (by omega)
  have hp := hps.at_ (P - 1).toNat
  obtain ⟨R, hR⟩ : ∃ R, R = wrt ps (P, U, C) := ⟨_, rfl⟩
  rw [← hR]
  have HR : Hid (U * ps.getD (P - 1).toNat 0 / 10000 * C / 10000 = R) := hR.symm
  clear hR
  generalize ps.getD (P - 1).toNat 0 = p at *
  have CO := Lib.hid (fun w => cost_priced h1 hp w)
  have PT := Lib.hid (fun w => pt_priced h1 h2 hp w)
  rw [HR.out] at PT
  generalize U * p / 10000 = k at *
  generalize cosR U p = m at *
  generalize k * C % 10000 = o at *
  have KA : Hid (Kpt w (w.alloc (.cells #[.int .i64 P, .int .i64 U, .int .i64 C] 107))) := (Kpt.refl w).alloc _
  have DA : Hid (Blk (w.alloc (.cells #[.int .i64 P, .int .i64 U, .int .i64 C] 107)) w.heap.size #[.int .i64 P, .int .i64 U, .int .i64 C] 107) := Blk.made _ _ _
  obtain ⟨j, hj⟩ : ∃ j, (P - 1).toNat = j := ⟨_, rfl⟩
  have C0 : Hid (w.cell? ⟨g, off + j, none⟩ = some (.int .i64 p)) := by rw [← hj]; exact c0
  clear hc c0
  have n2 : 1 ≤ P := hP.1
  have n3 : 0 ≤ P - 1 := by omega
  have n4 : P - 1 < (ps.length : Int) := by omega
  have n5 : -9223372036854775808 ≤ P - 1 := by omega
  have n6 : P - 1 ≤ 9223372036854775807 := by omega
  have n7 : IntKind.i64.wrap (P - 1) = P - 1 := IntWalk.i64_in _ (by omega)
  clear hP h1 h2 hp h20 hps HR
  unfold maxLen at hm
  generalize ps.length = n at *
  go_enter Try.func120, Try.ntmps120
  go_upto_region 1 with fail
  have r0 := cell_k (q := w.alloc (.cells #[.int .i64 P, .int .i64 U, .int .i64 C] 107)) (a := ⟨w.heap.size, 0, none⟩) (v := .int .i64 P) (DA.out.cell 0)
  have r1 := cell_k (q := w.alloc (.cells #[.int .i64 P, .int .i64 U, .int .i64 C] 107)) (a := ⟨w.heap.size, 1, none⟩) (v := .int .i64 U) (DA.out.cell 1)
  have p0 := cell_k (q := w.alloc (.cells #[.int .i64 P, .int .i64 U, .int .i64 C] 107)) (a := ⟨g, off + j, none⟩) (v := .int .i64 p) (KA.out.cell C0.out)
  have mixed : Try.prog.follows .mixedOrders = true := by kernel_rfl
  refine quiet_k (q := w.alloc (.cells #[.int .i64 P, .int .i64 U, .int .i64 C] 107)) mixed (by kernel_rfl) ?_
  repeat (quiet_step (first | (go_at_call 48; with_reducible refine calls_k (CO.out _))))
  refine wpQuiet_nil ?_
  intro w8 hw1
  obtain ⟨⟨wz, kz⟩, hw2⟩ := hw1
  have hw3 : w8 = wz := hw2
  clear hw2
  subst hw3
  have KZ := Lib.hid (ktr KA.out kz)
  have c2 : w8.cell? ⟨w.heap.size, 2, none⟩ = some (.int .i64 C) := (DA.out.kpt kz).cell 2
  clear kz
  go_wp2_with (go_at_call 49; (with_reducible refine (PT.out _).mono ?_); rintro e w9 ⟨rfl, g9⟩; have K9 := Lib.hid (ktr KZ.out g9.kpt); clear g9)
  go_ret
  exact ⟨rfl, K9.out⟩

theorem isSum_run (n : Int) (w : World) : Calls Try.prog 82 #[.int .i64 n] w fun e w' => e = .returned (.bool (sumB n)) ∧ w = w' := by
  by_cases h : 0 ≤ n
  · by_cases h2 : n ≤ 1152921504606846976
    · rw [show sumB n = true from decide_eq_true ⟨h, h2⟩]
      have d := decide_eq_true h
      have d2 := decide_eq_true h2
      go_enter Try.func82, Try.ntmps82
      go_wp2
      go_ret
      exact ⟨rfl, rfl⟩
    · rw [show sumB n = false from decide_eq_false (by omega)]
      have d := decide_eq_true h
      have d2 := decide_eq_false h2
      go_enter Try.func82, Try.ntmps82
      go_wp2
      go_ret
      exact ⟨rfl, rfl⟩
  · rw [show sumB n = false from decide_eq_false (by omega)]
    have d := decide_eq_false h
    go_enter Try.func82, Try.ntmps82
    go_wp2
    go_ret
    exact ⟨rfl, rfl⟩

theorem checkAt_run (v u : Value) (l : List (Int × Int × Int)) (ps : List Int) (w : World) (hl : ReadsP w v l) (hr : Reads w u ps) :
    Calls Try.prog 79 #[v, u] w fun e w' => e = .returned (.int .i64 (mcE l ps)) ∧ Kpt w w' := by
  have SC := Lib.hid (stkE_run v l w hl)
  have PC := Lib.hid (fun w' (k : Kpt w w') => prices_run u ps w' (hr.kpt k))
  unfold mcE
  by_cases h : stkE l = 0
  · rw [orE_r h]
    rw [h] at SC
    clear h
    generalize prsE ps = E at *
    go_enter Try.func79, Try.ntmps79
    go_wp2_with (first
      | (go_at_call 34; (with_reducible refine SC.out.mono ?_); rintro e w1 ⟨rfl, k1⟩; have K1 := Lib.hid k1; clear k1)
      | (go_at_call 12; (with_reducible refine (PC.out _ K1.out).mono ?_); rintro e w2 ⟨rfl, rfl⟩))
    go_ret
    exact ⟨rfl, K1.out⟩
  · rw [orE_l _ h]
    have z : (stkE l != 0) = true := bne_iff_ne.2 h
    clear h
    generalize stkE l = E at *
    go_enter Try.func79, Try.ntmps79
    go_wp2_with (go_at_call 34; (with_reducible refine SC.out.mono ?_); rintro e w1 ⟨rfl, k1⟩; have K1 := Lib.hid k1; clear k1)
    go_ret
    exact ⟨rfl, K1.out⟩

end Go.Proofs.Ytgccipmeiceonaa

-- MarC
namespace Go.Proofs.Ytgccipmeiceonaa
open Go.RowKit
set_option linter.unusedVariables false

set_option maxHeartbeats 4000000 in
theorem total_run (v u : Value) (l : List (Int × Int × Int)) (ps : List Int) (w : World) (hl : ReadsP w v l) (hr : Reads w u ps) (hps : PrsOk ps) (hs : ∀ p ∈ l, stkB p = true) (h40 : l.length ≤ 60) :
    Calls Try.prog 80 #[v, u] w fun e w' => e = .returned (.tuple #[.int .i64 (amV (wsum ps l)), .int .i64 (amE (wsum ps l))]) ∧ Kpt w w' := by
  obtain ⟨a, cap, rfl, -, hm, -, hc⟩ := hl
  have HR := Lib.hid hr
  obtain ⟨a2, cap2, rfl, -, -⟩ := hr
  unfold maxLen at hm
  have HC := Lib.hid hc
  have HS := Lib.hid hs
  have HW := Lib.hid (fun k (h : k < l.length) => wsum_take (ps := ps) h)
  have HO := Lib.hid (fun k => wsum_ok hps (l := l.take k) (fun p hp => hs p (List.mem_of_mem_take hp)) (by rw [List.length_take]; omega))
  have HP := Lib.hid hps
  have DA : Hid (l.take l.length = l) := List.take_of_length_le (Nat.le_refl _)
  have AM := Lib.hid (fun w' => amount_any (wsum ps l) w')
  generalize amV (wsum ps l) = av at *
  generalize amE (wsum ps l) = ae at *
  have HM := Lib.hid (fun k (h : k < l.length) => (getP_mem h : l.getD k default ∈ l))
  obtain ⟨n, hn⟩ : ∃ n, n = l.length := ⟨_, rfl⟩
  rw [← hn] at HC hm HW DA HM ⊢
  clear hc hn hs hps h40
  go_enter Try.func80, Try.ntmps80
  go_wp2
  go_loopw [11] (fun ii wr => ∃ k : Nat, k ≤ n ∧ ii = .int .i64 (k : Int) ∧ Hid (Blk wr w.heap.size #[.int .i64 (hiOf (wsum ps (l.take k))), .int .u64 (loOf (wsum ps (l.take k)))] 145) ∧ Hid (Kpt w wr)) (fun ii _ => n - (intOf ii).toNat)
  case atStart => exact ⟨0, Nat.zero_le _, rfl, Blk.made _ _ _, (Kpt.refl w).alloc _⟩
  case round =>
    obtain ⟨k, hk, rfl, HB, HK⟩ := hrel
    by_cases hlt : k < n
    · obtain ⟨g, off, rfl, hp⟩ := HC.out k hlt
      obtain ⟨c0, c1, c2⟩ := hp.kpt HK.out
      have hw := HW.out k hlt
      have hst := HS.out _ (HM.out k hlt)
      have ok := Lib.hid (HO.out k)
      clear hp
      generalize l.getD k default = p at c0 c1 c2 hw hst
      obtain ⟨P, U, C⟩ := p
      simp only at c0 c1 c2
      have st := stk_t hst
      simp only at st
      have bd := wrt_stk HP.out hst
      have WO := Lib.hid (fun w' (k : Kpt w w') => worth_run P U C _ ps w' (HR.out.kpt k) HP.out (by omega) (by omega) (by omega))
      have HW2 := Lib.hid hw
      clear hw hst st
      generalize wrt ps (P, U, C) = q at *
      generalize wsum ps (l.take k) = S at *
      have hne : w.heap.size < wr.heap.size := HB.out.lt
      go_upto_region 5 with fail
      have GA := Lib.hid (HK.out.alloc (.cells #[.int .i64 P, .int .i64 U, .int .i64 C] 107))
      have WA := Lib.hid (HB.out.alloc (.cells #[.int .i64 P, .int .i64 U, .int .i64 C] 107))
      have DA := Lib.hid (Blk.made wr #[.int .i64 P, .int .i64 U, .int .i64 C] 107)
      clear c0 c1 c2
      generalize wr.alloc (.cells #[.int .i64 P, .int .i64 U, .int .i64 C] 107) = W1 at *
      generalize wr.heap.size = D at *
      have e0 : W1.cell? ⟨D, 0, none⟩ = some (.int .i64 P) := DA.out.cell 0
      have e1 : W1.cell? ⟨D, 1, none⟩ = some (.int .i64 U) := DA.out.cell 1
      have e2 : W1.cell? ⟨D, 2, none⟩ = some (.int .i64 C) := DA.out.cell 2
      have d0 : W1.cell? ⟨w.heap.size, 0, none⟩ = some (.int .i64 (hiOf S)) := WA.out.cell 0
      have d1 : W1.cell? ⟨w.heap.size, 1, none⟩ = some (.int .u64 (loOf S)) := WA.out.cell 1
      have GD : Hid (Kpt w W1.drew) := Below.drew (show Below w.heap.size w W1 from GA.out)
      go_region_with (first
        | (go_at_call 120; ((with_reducible refine (WO.out _ GD.out).mono ?_); rintro e w1 ⟨rfl, k1⟩; have B1 := Lib.hid ((WA.out.drew).kpt k1); have d2 : w1.cell? ⟨w.heap.size, 0, none⟩ = some (.int .i64 (hiOf S)) := B1.out.cell 0; have d3 : w1.cell? ⟨w.heap.size, 1, none⟩ = some (.int .u64 (loOf S)) := B1.out.cell 1; have G1 := Lib.hid (ktr GD.out k1); clear k1))
        | (go_at_call 119; (with_reducible refine (plus_at S q _ ok.out (by omega) (by omega)).mono ?_); rintro e w2 ⟨rfl, g1⟩; have B2 := Lib.hid (B1.out.grew g1); have d4 : w2.cell? ⟨w.heap.size, 0, none⟩ = some (.int .i64 (hiOf S)) := B2.out.cell 0; have d5 : w2.cell? ⟨w.heap.size, 1, none⟩ = some (.int .u64 (loOf S)) := B2.out.cell 1; have f0 := B2.out.frozen 0; have f1 := B2.out.frozen 1; have G2 := Lib.hid (ktr G1.out g1.kpt); clear g1))
      all_goals go_wp2
      all_goals go_roundw
      all_goals first
        | (case rel => exact ⟨k + 1, by omega, by go_num, by unfold Hid; rw [HW2.out]; exact (B2.out.put 0 _).put 1 _, (G2.out.setCell (Nat.le_refl _) _).setCell (Nat.le_refl _) _⟩)
        | (case measure => simp [intOf]; omega)
    · obtain rfl : k = n := by omega
      rw [DA.out] at HB
      have c0 : wr.cell? ⟨w.heap.size, 0, none⟩ = some (.int .i64 (hiOf (wsum ps l))) := HB.out.cell 0
      have c1 : wr.cell? ⟨w.heap.size, 1, none⟩ = some (.int .u64 (loOf (wsum ps l))) := HB.out.cell 1
      generalize wsum ps l = S at *
      go_wp2_with (go_at_call 121; (with_reducible refine (AM.out _).mono ?_); rintro e w2 ⟨rfl, k2⟩; have K2 := Lib.hid (ktr HK.out k2); clear k2)
      go_ret2
      exact ⟨rfl, K2.out⟩

theorem value_run (v u : Value) (l : List (Int × Int × Int)) (ps : List Int) (w : World) (hl : ReadsP w v l) (hr : Reads w u ps) :
    Calls Try.prog 25 #[v, u] w fun e w' => e = .returned (.tuple #[.int .i64 (valV l ps), .int .i64 (valE l ps)]) ∧ Kpt w w' := by
  have CA := Lib.hid (checkAt_run v u l ps w hl hr)
  unfold valV valE
  by_cases h : mcE l ps = 0
  · obtain ⟨⟨h40, hs⟩, hps⟩ := mcE_0 h
    rw [if_pos h, orE_r h]
    rw [h] at CA
    have TO := Lib.hid (fun w' (k : Kpt w w') => total_run v u l ps w' (hl.kpt k) (hr.kpt k) hps hs (by omega))
    clear hl hr h hs hps
    generalize amV (wsum ps l) = av at *
    generalize amE (wsum ps l) = ae at *
    go_enter Try.func25, Try.ntmps25
    go_wp2_with (first
      | (go_at_call 79; (with_reducible refine CA.out.mono ?_); rintro e w1 ⟨rfl, k1⟩; have K1 := Lib.hid k1; clear k1)
      | (go_at_call 80; (with_reducible refine (TO.out _ K1.out).mono ?_); rintro e w2 ⟨rfl, k2⟩; have K2 := Lib.hid (ktr K1.out k2); clear k2))
    go_ret2
    exact ⟨rfl, K2.out⟩
  · rw [if_neg h, orE_l _ h]
    have z : (mcE l ps != 0) = true := bne_iff_ne.2 h
    clear h hl hr
    generalize mcE l ps = E at *
    go_enter Try.func25, Try.ntmps25
    go_wp2_with (go_at_call 79; (with_reducible refine CA.out.mono ?_); rintro e w1 ⟨rfl, k1⟩; have K1 := Lib.hid k1; clear k1)
    go_ret2
    exact ⟨rfl, K1.out⟩

theorem call_no (has need least : Int) (h : ¬ (sumB has = true ∧ sumB need = true ∧ sumB least = true)) (w : World) :
    Calls Try.prog 27 #[.int .i64 has, .int .i64 need, .int .i64 least] w fun e w' => e = .returned (.tuple #[.int .i64 0, .int .i64 3]) ∧ Kpt w w' := by
  have I1 := Lib.hid (fun w => isSum_run has w)
  have I2 := Lib.hid (fun w => isSum_run need w)
  have I3 := Lib.hid (fun w => isSum_run least w)
  have h1 : (!sumB has || (!sumB need || !sumB least)) = true := by
    cases ha : sumB has <;> cases hb : sumB need <;> cases hc : sumB least <;> simp_all
  clear h
  cases ha : sumB has with
  | false =>
    rw [ha] at I1
    clear h1 ha
    go_enter Try.func27, Try.ntmps27
    go_wp2_with (go_at_call 82; (with_reducible refine (I1.out _).mono ?_); rintro e w1 ⟨rfl, rfl⟩)
    go_ret2
    exact ⟨rfl, Kpt.refl _⟩
  | true =>
    rw [ha] at I1 h1
    cases hb : sumB need with
    | false =>
      rw [hb] at I2
      clear h1 ha hb
      go_enter Try.func27, Try.ntmps27
      go_wp2_with (first
        | (go_at_call 82; (with_reducible refine (I1.out _).mono ?_); rintro e w1 ⟨rfl, rfl⟩)
        | (go_at_call 82; (with_reducible refine (I2.out _).mono ?_); rintro e w1 ⟨rfl, rfl⟩))
      go_ret2
      exact ⟨rfl, Kpt.refl _⟩
    | true =>
      rw [hb] at I2 h1
      have hc : sumB least = false := by simpa using h1
      rw [hc] at I3
      clear h1 ha hb hc
      go_enter Try.func27, Try.ntmps27
      go_wp2_with (first
        | (go_at_call 82; (with_reducible refine (I1.out _).mono ?_); rintro e w1 ⟨rfl, rfl⟩)
        | (go_at_call 82; (with_reducible refine (I2.out _).mono ?_); rintro e w1 ⟨rfl, rfl⟩)
        | (go_at_call 82; (with_reducible refine (I3.out _).mono ?_); rintro e w1 ⟨rfl, rfl⟩))
      go_ret2
      exact ⟨rfl, Kpt.refl _⟩
theorem call_run (has need least : Int) (w : World) :
    Calls Try.prog 27 #[.int .i64 has, .int .i64 need, .int .i64 least] w fun e w' => e = .returned (.tuple #[.int .i64 (callV has need least), .int .i64 (callE has need least)]) ∧ Kpt w w' := by
  unfold callV callE
  by_cases h : sumB has = true ∧ sumB need = true ∧ sumB least = true
  · rw [if_pos h, if_pos h]
    have I1 := Lib.hid (fun w => isSum_run has w)
    have I2 := Lib.hid (fun w => isSum_run need w)
    have I3 := Lib.hid (fun w => isSum_run least w)
    rw [h.1] at I1
    rw [h.2.1] at I2
    rw [h.2.2] at I3
    have a1 := sum_t h.1
    have a2 := sum_t h.2.1
    have a3 := sum_t h.2.2
    have wn : IntKind.i64.wrap (need - has) = need - has := IntWalk.i64_in _ (by omega)
    clear h
    by_cases hl : need - has < least
    · rw [if_pos hl]
      go_enter Try.func27, Try.ntmps27
      go_wp2_with (first
        | (go_at_call 82; (with_reducible refine (I1.out _).mono ?_); rintro e w1 ⟨rfl, rfl⟩)
        | (go_at_call 82; (with_reducible refine (I2.out _).mono ?_); rintro e w1 ⟨rfl, rfl⟩)
        | (go_at_call 82; (with_reducible refine (I3.out _).mono ?_); rintro e w1 ⟨rfl, rfl⟩))
      go_ret2
      exact ⟨rfl, Kpt.refl _⟩
    · rw [if_neg hl]
      go_enter Try.func27, Try.ntmps27
      go_wp2_with (first
        | (go_at_call 82; (with_reducible refine (I1.out _).mono ?_); rintro e w1 ⟨rfl, rfl⟩)
        | (go_at_call 82; (with_reducible refine (I2.out _).mono ?_); rintro e w1 ⟨rfl, rfl⟩)
        | (go_at_call 82; (with_reducible refine (I3.out _).mono ?_); rintro e w1 ⟨rfl, rfl⟩))
      go_ret2
      exact ⟨rfl, Kpt.refl _⟩
  · rw [if_neg h, if_neg h]
    exact call_no has need least h w

end Go.Proofs.Ytgccipmeiceonaa

-- MarD
namespace Go.Proofs.Ytgccipmeiceonaa
open Go.RowKit
set_option linter.unusedVariables false

/-- what Search answers: the first place behind which it is so -/
def SrchOk (n : Nat) (p : Nat → Bool) (k : Nat) : Prop := k ≤ n ∧ (k < n → p k = true) ∧ (0 < k → p (k - 1) = false)
theorem half_bit (x : Int) (h0 : 0 ≤ x) : x / 2 ^ 1 = x / 2 := by rfl
set_option maxHeartbeats 4000000 in
theorem search_run (n : Nat) (x0 x1 x2 : Value) (p : Nat → Bool) (w : World) (hn : n ≤ 1073741824)
    (hf : ∀ (i : Nat) w', i < n → Kpt w w' → Calls Try.prog 123 #[.int .i64 i, x0, x1, x2] w' fun e w'' => e = .returned (.bool (p i)) ∧ Kpt w' w'') :
    Calls Try.prog 122 #[.int .i64 n, .func (.func 123) #[] #[x0, x1, x2]] w fun e w' => ∃ k : Nat, e = .returned (.int .i64 k) ∧ SrchOk n p k ∧ Kpt w w' := by
  have HF := Lib.hid hf
  clear hf
  have HN := Lib.hid hn
  go_enter Try.func122, Try.ntmps122
  go_wp2
  go_loopw [5, 6, 7] (fun ii jj hh wr => ∃ i j : Nat, ii = .int .i64 (i : Int) ∧ jj = .int .i64 (j : Int) ∧ i ≤ j ∧ j ≤ n ∧ Hid ((j < n → p j = true) ∧ (0 < i → p (i - 1) = false)) ∧ Hid (Kpt w wr)) (fun ii jj _ _ => (intOf jj).toNat - (intOf ii).toNat)
  case atStart => exact ⟨0, n, rfl, rfl, Nat.zero_le _, Nat.le_refl _, ⟨fun h => absurd h (Nat.lt_irrefl _), fun h => absurd h (Nat.lt_irrefl _)⟩, Kpt.refl w⟩
  case round =>
    obtain ⟨i, j, rfl, rfl, hij, hjn, HP, HK⟩ := hrel
    by_cases hlt : i < j
    · have y1 : (i : Int) < (j : Int) := by omega
      have w1 : IntKind.i64.wrap ((i : Int) + (j : Int)) = (i : Int) + (j : Int) := IntWalk.i64_in _ (by omega)
      have w2 : IntKind.u64.wrap ((i : Int) + (j : Int)) = (i : Int) + (j : Int) := IntWalk.u64_in _ (by omega)
      obtain ⟨h, hh⟩ : ∃ h : Nat, (h : Int) = ((i : Int) + (j : Int)) / 2 := ⟨((i + j) / 2 : Nat), by omega⟩
      have h1 : i ≤ h := by omega
      have h2 : h < j := by omega
      have FC := Lib.hid (fun w' (k : Kpt w w') => HF.out h w' (by omega) k)
      rw [hh] at FC
      have HH := Lib.hid hh
      clear hh
      cases hp : p h with
      | true =>
        rw [hp] at FC
        have HP2 : Hid ((h < n → p h = true) ∧ (0 < i → p (i - 1) = false)) := ⟨fun _ => hp, HP.out.2⟩
        clear HP hp
        go_wp2_with (go_at_call 123; (with_reducible refine (FC.out _ HK.out).mono ?_); rintro e wa ⟨rfl, k1⟩; have K1 := Lib.hid (ktr HK.out k1); clear k1)
        go_roundw
        case rel => exact ⟨i, h, rfl, congrArg (Value.int .i64) HH.out.symm, h1, by omega, HP2.out, K1.out⟩
        case measure => have := HH.out; simp [intOf]; omega
      | false =>
        rw [hp] at FC
        have HP2 : Hid ((j < n → p j = true) ∧ (0 < h + 1 → p (h + 1 - 1) = false)) := ⟨HP.out.1, fun _ => hp⟩
        clear HP hp
        go_wp2_with (go_at_call 123; (with_reducible refine (FC.out _ HK.out).mono ?_); rintro e wa ⟨rfl, k1⟩; have K1 := Lib.hid (ktr HK.out k1); clear k1)
        go_roundw
        case rel => exact ⟨h + 1, j, congrArg (Value.int .i64) (by have := HH.out; omega), rfl, by omega, hjn, HP2.out, K1.out⟩
        case measure => have := HH.out; simp [intOf]; omega
    · obtain rfl : i = j := by omega
      go_wp2
      go_ret
      exact ⟨i, rfl, ⟨hjn, HP.out⟩, HK.out⟩

end Go.Proofs.Ytgccipmeiceonaa

-- MarE
namespace Go.Proofs.Ytgccipmeiceonaa
open Go.RowKit
set_option linter.unusedVariables false

theorem blk_second (w : World) (cs ds : Array Value) (T T' : TypeId) : Blk ((w.alloc (.cells cs T)).alloc (.cells ds T')) (w.heap.size + 1) ds T' := by
  have := Blk.made (w.alloc (.cells cs T)) ds T'
  rwa [World.size_alloc] at this
theorem srch_one {n : Nat} {p : Nat → Bool} (hm : ∀ a b, a ≤ b → b < n → p a = true → p b = true) {k j : Nat} (hk : SrchOk n p k) (hj : SrchOk n p j) : k = j := by
  obtain ⟨a1, a2, a3⟩ := hk
  obtain ⟨b1, b2, b3⟩ := hj
  rcases Nat.lt_trichotomy k j with h | h | h
  · have h1 := a2 (by omega)
    have h2 := hm k (j - 1) (by omega) (by omega) h1
    rw [b3 (by omega)] at h2; cases h2
  · exact h
  · have h1 := b2 (by omega)
    have h2 := hm j (k - 1) (by omega) (by omega) h1
    rw [a3 (by omega)] at h2; cases h2
open Classical in
noncomputable def srchV (n : Nat) (p : Nat → Bool) : Nat := if h : ∃ k, SrchOk n p k then Classical.choose h else 0
theorem srchV_is {n : Nat} {p : Nat → Bool} (hm : ∀ a b, a ≤ b → b < n → p a = true → p b = true) {k : Nat} (hk : SrchOk n p k) : srchV n p = k := by
  have h : ∃ k, SrchOk n p k := ⟨k, hk⟩
  unfold srchV
  rw [dif_pos h]
  exact srch_one hm (Classical.choose_spec h) hk
/-- so many of a stake that it counts at least so much -/
def kpP (ps : List Int) (P U C most : Int) (i : Nat) : Bool := decide (wrt ps (P, U, C) - most ≤ wrt ps (P, (i : Int), C))
theorem kpP_mono {ps : List Int} (h : PrsOk ps) {P U C most : Int} (h0 : 0 ≤ C) {n : Nat} : ∀ a b, a ≤ b → b < n → kpP ps P U C most a = true → kpP ps P U C most b = true := fun a b hab _ ha => by
  have m := wrt_mono h (P := P) (U := (a : Int)) (V := (b : Int)) h0 (by omega)
  have := of_decide_eq_true ha
  exact decide_eq_true (by omega)
noncomputable def kpV (ps : List Int) (P U C most : Int) : Nat := srchV U.toNat (kpP ps P U C most)
theorem kpV_is {ps : List Int} (h : PrsOk ps) {P U C most : Int} (h0 : 0 ≤ C) {k : Nat} (hk : SrchOk U.toNat (kpP ps P U C most) k) : kpV ps P U C most = k := srchV_is (kpP_mono h h0) hk

set_option maxHeartbeats 1000000 in
theorem keptC_run (P U C L : Int) (b1 b2 b3 : Nat) (v : Value) (ps : List Int) (i : Nat) (w : World) (hr : Reads w v ps) (hps : PrsOk ps) (hP : 1 ≤ P ∧ P ≤ 20) (hi : i ≤ 1073741824) (h2 : 0 ≤ C ∧ C ≤ 10000)
    (B1 : Blk w b1 #[.int .i64 P, .int .i64 U, .int .i64 C] 107) (B2 : Blk w b2 #[v] 22) (B3 : Blk w b3 #[.int .i64 L] 3) :
    Calls Try.prog 123 #[.int .i64 i, .pointer (some ⟨b1, 0, none⟩), .pointer (some ⟨b2, 0, none⟩), .pointer (some ⟨b3, 0, none⟩)] w fun e w' => e = .returned (.bool (decide (L ≤ wrt ps (P, (i : Int), C)))) ∧ Kpt w w' := by
  have WO := Lib.hid (fun w' (k : Kpt w w') => worth_run P (i : Int) C v ps w' (hr.kpt k) hps hP (by omega) h2)
  obtain ⟨a, cap, rfl, -⟩ := hr
  generalize wrt ps (P, (i : Int), C) = q at *
  generalize ps.length = n at *
  have A0 := B1.cell 0
  have A1 := B1.cell 1
  have A2 := B1.cell 2
  have LT1 := B1.lt
  have LT2 := B2.lt
  have LT3 := B3.lt
  have H1 := Lib.hid B1
  have H2 := Lib.hid B2
  have H3 := Lib.hid B3
  clear B1 B2 B3 hps hP hi h2
  obtain ⟨W1, hW1⟩ : ∃ W1, W1 = w.alloc (.cells #[.int .i64 P, .int .i64 i, .int .i64 C] 107) := ⟨_, rfl⟩
  have KW : Hid (Kpt w W1) := by rw [hW1]; exact (Kpt.refl w).alloc _
  have DW : Hid (Blk W1 w.heap.size #[.int .i64 P, .int .i64 i, .int .i64 C] 107) := by rw [hW1]; exact Blk.made _ _ _
  have HW1 := Lib.hid hW1
  clear hW1
  have r0 := cell_k (q := W1) (a := ⟨w.heap.size, 0, none⟩) (v := .int .i64 P) (DW.out.cell 0)
  have r1 := cell_k (q := W1) (a := ⟨w.heap.size, 1, none⟩) (v := .int .i64 i) (DW.out.cell 1)
  have r2 := cell_k (q := W1) (a := ⟨w.heap.size, 2, none⟩) (v := .int .i64 C) (DW.out.cell 2)
  have r3 := cell_k (q := W1) (a := ⟨b2, 0, none⟩) (v := .slice a n cap) (KW.out.cell (H2.out.cell 0))
  have r4 := cell_k (q := W1) (a := ⟨b3, 0, none⟩) (v := .int .i64 L) (KW.out.cell (H3.out.cell 0))
  have WQ := Lib.hid (fun p : KptTo W1 => WO.out p.w (ktr KW.out p.h))
  go_enter Try.func123, Try.ntmps123
  go_upto_region 3 with fail
  rw [← HW1.out]
  have mixed : Try.prog.follows .mixedOrders = true := by kernel_rfl
  refine quiet_k (q := W1) mixed (by kernel_rfl) ?_
  repeat (quiet_step (first | (go_at_call 120; with_reducible refine calls_k (WQ.out _))))
  refine wpQuiet_nil ?_
  intro w8 hw1
  obtain ⟨⟨wz, kz⟩, hw2⟩ := hw1
  have hw3 : w8 = wz := hw2
  clear hw2
  subst hw3
  go_wp2
  go_ret
  exact ⟨rfl, ktr KW.out kz⟩

set_option maxHeartbeats 1000000 in
theorem kept_run (P U C most : Int) (v : Value) (ps : List Int) (w : World) (hr : Reads w v ps) (hps : PrsOk ps) (hP : 1 ≤ P ∧ P ≤ 20) (h1 : 0 ≤ U ∧ U ≤ 1073741824) (h2 : 0 ≤ C ∧ C ≤ 10000) (hm : 0 ≤ most ∧ most ≤ 1152921504606846976) :
    Calls Try.prog 83 #[.agg #[.int .i64 P, .int .i64 U, .int .i64 C], v, .int .i64 most] w fun e w' => e = .returned (.int .i64 (kpV ps P U C most)) ∧ Kpt w w' := by
  have HR := Lib.hid hr
  have WO := Lib.hid (fun w' (k : Kpt w w') => worth_run P U C v ps w' (hr.kpt k) hps hP h1 h2)
  have bd := wrt_bd hps (s := (P, U, C)) h1 h2
  have CL := Lib.hid (fun (b1 b2 b3 i : Nat) w' (k : Kpt w w') (hi : i ≤ 1073741824) B1 B2 B3 => keptC_run P U C (wrt ps (P, U, C) - most) b1 b2 b3 v ps i w' (hr.kpt k) hps hP hi h2 B1 B2 B3)
  have KI := Lib.hid (fun k => kpV_is hps (P := P) (U := U) (C := C) (most := most) h2.1 (k := k))
  obtain ⟨a, cap, rfl, -⟩ := hr
  obtain ⟨u, rfl⟩ : ∃ u : Nat, U = (u : Int) := ⟨U.toNat, by omega⟩
  have EQ : Hid (∀ i, kpP ps P (u : Int) C most i = decide (wrt ps (P, (u : Int), C) - most ≤ wrt ps (P, (i : Int), C))) := fun _ => rfl
  obtain ⟨q, hq⟩ : ∃ q, wrt ps (P, (u : Int), C) = q := ⟨_, rfl⟩
  rw [hq] at WO bd CL EQ
  clear hq
  have wn : IntKind.i64.wrap (q - most) = q - most := IntWalk.i64_in _ (by omega)
  have hu : u ≤ 1073741824 := by omega
  rw [Int.toNat_natCast] at KI
  generalize kpP ps P (u : Int) C most = p at *
  generalize kpV ps P (u : Int) C most = kv at *
  generalize ps.length = n at *
  have DA : Hid (Blk (w.alloc (.cells #[.int .i64 P, .int .i64 u, .int .i64 C] 107)) w.heap.size #[.int .i64 P, .int .i64 u, .int .i64 C] 107) := Blk.made _ _ _
  have DB : Hid (Blk ((w.alloc (.cells #[.int .i64 P, .int .i64 u, .int .i64 C] 107)).alloc (.cells #[.slice a n cap] 22)) (w.heap.size + 1) #[.slice a n cap] 22) := blk_second _ _ _ _ _
  have KB : Hid (Kpt w ((w.alloc (.cells #[.int .i64 P, .int .i64 u, .int .i64 C] 107)).alloc (.cells #[.slice a n cap] 22))) := ((Kpt.refl w).alloc _).alloc _
  have DC : Hid (Blk ((w.alloc (.cells #[.int .i64 P, .int .i64 u, .int .i64 C] 107)).alloc (.cells #[.slice a n cap] 22)) w.heap.size #[.int .i64 P, .int .i64 u, .int .i64 C] 107) := DA.out.alloc _
  clear DA hps hP h1 h2 hm bd
  go_enter Try.func83, Try.ntmps83
  go_wp2_with (first
    | (go_at_call 120; (with_reducible refine (WO.out _ KB.out).mono ?_); rintro e w1 ⟨rfl, k1⟩; have K1 := Lib.hid (ktr KB.out k1); have A1 := Lib.hid (DC.out.kpt k1); have A2 := Lib.hid (DB.out.kpt k1); have K2 : Hid (Kpt w (w1.alloc (.cells #[.int .i64 (q - most)] 3))) := K1.out.alloc _; have a1 : (w1.alloc (.cells #[.int .i64 (q - most)] 3)).cell? ⟨w.heap.size, 1, none⟩ = some (.int .i64 u) := (A1.out.alloc _).cell 1; clear k1)
    | (go_at_call 122; (with_reducible refine (search_run u _ _ _ p _ hu (fun i w' hi k => by
          rw [EQ.out]
          exact CL.out _ _ _ i w' (ktr K2.out k) (by omega) ((A1.out.alloc _).kpt k) ((A2.out.alloc _).kpt k) ((Blk.made _ _ _).kpt k))).mono ?_); rintro e w2 ⟨k, rfl, so, k2⟩; have K3 := Lib.hid (ktr K2.out k2); have SO := Lib.hid so; clear k2 so))
  go_ret
  exact ⟨by rw [KI.out k SO.out]; rfl, K3.out⟩

end Go.Proofs.Ytgccipmeiceonaa
