/-
  What Check of package margin does.
-/
import Derived.Test.YtlojdehjbcombaaMarM
import Derived.Test.YtlojdehjbcombaaKept
namespace Go.Proofs.Ytlojdehjbcombaa
open Go.RowKit
set_option linter.unusedVariables false

def StkIs (P U C : Int) (b : Bool) : Prop := ∀ w, Calls Try.prog 83 #[.agg #[.int .i64 P, .int .i64 U, .int .i64 C]] w fun e w' => e = .returned (.bool b) ∧ Kpt w w'
theorem StkIs.run {P U C : Int} {b : Bool} (h : StkIs P U C b) (w : World) : Calls Try.prog 83 #[.agg #[.int .i64 P, .int .i64 U, .int .i64 C]] w fun e w' => e = .returned (.bool b) ∧ Kpt w w' := h w
set_option maxHeartbeats 1000000 in
theorem wrong_run (P U C : Int) : StkIs P U C (!stkB (P, U, C)) := by
  intro w
  have no : ¬ (1 ≤ P ∧ P ≤ 20 ∧ 1 ≤ U ∧ U ≤ 1073741824 ∧ 0 ≤ C ∧ C ≤ 10000) → (!stkB (P, U, C)) = true := fun h => by rw [show stkB (P, U, C) = false from decide_eq_false h]; rfl
  by_cases h1 : P < 1
  · rw [no (by omega)]
    have d1 : decide (P < 1) = true := decide_eq_true h1
    clear no
    go_enter Try.func83, Try.ntmps83
    go_wp2
    go_ret
    exact ⟨rfl, (Kpt.refl w).alloc _⟩
  have d1 : decide (P < 1) = false := decide_eq_false h1
  by_cases h2 : 20 < P
  · rw [no (by omega)]
    have d2 : decide (20 < P) = true := decide_eq_true h2
    clear no
    go_enter Try.func83, Try.ntmps83
    go_wp2
    go_ret
    exact ⟨rfl, (Kpt.refl w).alloc _⟩
  have d2 : decide (20 < P) = false := decide_eq_false h2
  by_cases h3 : U < 1
  · rw [no (by omega)]
    have d3 : decide (U < 1) = true := decide_eq_true h3
    clear no
    go_enter Try.func83, Try.ntmps83
    go_wp2
    go_ret
    exact ⟨rfl, (Kpt.refl w).alloc _⟩
  have d3 : decide (U < 1) = false := decide_eq_false h3
  by_cases h4 : 1073741824 < U
  · rw [no (by omega)]
    have d4 : decide (1073741824 < U) = true := decide_eq_true h4
    clear no
    go_enter Try.func83, Try.ntmps83
    go_wp2
    go_ret
    exact ⟨rfl, (Kpt.refl w).alloc _⟩
  have d4 : decide (1073741824 < U) = false := decide_eq_false h4
  by_cases h5 : C < 0
  · rw [no (by omega)]
    have d5 : decide (C < 0) = true := decide_eq_true h5
    clear no
    go_enter Try.func83, Try.ntmps83
    go_wp2
    go_ret
    exact ⟨rfl, (Kpt.refl w).alloc _⟩
  have d5 : decide (C < 0) = false := decide_eq_false h5
  by_cases h6 : 10000 < C
  · rw [no (by omega)]
    have d6 : decide (10000 < C) = true := decide_eq_true h6
    clear no
    go_enter Try.func83, Try.ntmps83
    go_wp2
    go_ret
    exact ⟨rfl, (Kpt.refl w).alloc _⟩
  have d6 : decide (10000 < C) = false := decide_eq_false h6
  rw [show (!stkB (P, U, C)) = false by rw [show stkB (P, U, C) = true from decide_eq_true (show 1 ≤ P ∧ P ≤ 20 ∧ 1 ≤ U ∧ U ≤ 1073741824 ∧ 0 ≤ C ∧ C ≤ 10000 by omega)]; rfl]
  clear no
  go_enter Try.func83, Try.ntmps83
  go_wp2
  go_ret
  exact ⟨rfl, (Kpt.refl w).alloc _⟩

theorem drop_p {l : List (Int × Int × Int)} {k : Nat} (hk : k < l.length) : l.drop k = l.getD k default :: l.drop (k + 1) := by
  rw [List.drop_eq_getElem_cons hk, List.getD_eq_getElem?_getD, List.getElem?_eq_getElem hk]; rfl
set_option maxHeartbeats 2000000 in
theorem stkI_run (v : Value) (l : List (Int × Int × Int)) (w : World) (hr : ReadsP w v l) :
    Calls Try.prog 115 #[v, .func (.func 83) #[] #[]] w fun e w' => e = .returned (.int .i64 (stkI l 0)) ∧ Kpt w w' := by
  obtain ⟨a, cap, rfl, -, hm, -, hc⟩ := hr
  unfold maxLen at hm
  have HC := Lib.hid hc
  have DR := Lib.hid (fun k (h : k < l.length) => drop_p h)
  have HX : Hid (stkI l 0 = stkI (l.drop 0) 0) := rfl
  have DA : Hid (l.drop l.length = []) := List.drop_length
  obtain ⟨n, hn⟩ : ∃ n, n = l.length := ⟨_, rfl⟩
  rw [← hn] at HC hm DR DA ⊢
  clear hc hn
  go_enter Try.func115, Try.ntmps115
  go_wp2
  go_loopw [8] (fun ii wr => ∃ k : Nat, k ≤ n ∧ ii = .int .i64 (k : Int) ∧ Hid (stkI l 0 = stkI (l.drop k) k) ∧ Hid (Kpt w wr)) (fun ii _ => n - (intOf ii).toNat)
  case atStart => exact ⟨0, Nat.zero_le _, rfl, HX.out, Kpt.refl _⟩
  case round =>
    obtain ⟨k, hk, rfl, HE, HK⟩ := hrel
    by_cases hlt : k < n
    · obtain ⟨g, off, rfl, hp⟩ := HC.out k hlt
      obtain ⟨c0, c1, c2⟩ := hp.kpt HK.out
      have he : stkI l 0 = (if stkB (l.getD k default) = true then stkI (l.drop (k + 1)) (k + 1) else (k : Int)) := HE.out.trans (by rw [DR.out k hlt]; rfl)
      clear hp HE
      generalize l.getD k default = p at c0 c1 c2 he
      obtain ⟨P, U, C⟩ := p
      simp only at c0 c1 c2
      have F1 := Lib.hid (wrong_run P U C)
      cases hB : stkB (P, U, C) with
      | false =>
        rw [hB] at he F1
        rw [if_neg (by decide)] at he
        have HE2 := Lib.hid he
        clear he hB
        go_wp2_with (go_at_call 83; (with_reducible refine (F1.out.run _).mono ?_); rintro e w1 ⟨rfl, k1⟩; have K1 := Lib.hid (ktr HK.out k1); clear k1)
        go_ret
        exact ⟨ret_int HE2.out.symm, K1.out⟩
      | true =>
        rw [hB] at he F1
        rw [if_pos rfl] at he
        have HE2 := Lib.hid he
        clear he hB
        go_wp2_with (go_at_call 83; (with_reducible refine (F1.out.run _).mono ?_); rintro e w1 ⟨rfl, k1⟩; have K1 := Lib.hid (ktr HK.out k1); clear k1)
        go_roundw
        case rel => exact ⟨k + 1, by omega, by go_num, HE2.out, K1.out⟩
        case measure => simp [intOf]; omega
    · obtain rfl : k = n := by omega
      rw [DA.out] at HE
      go_wp2
      go_ret
      exact ⟨ret_int HE.out.symm, HK.out⟩

def hasI (r : Int) : Bool := decide (0 ≤ r)
theorem stkC_run (v : Value) (l : List (Int × Int × Int)) (w : World) (hr : ReadsP w v l) :
    Calls Try.prog 84 #[v, .func (.func 83) #[] #[]] w fun e w' => e = .returned (.bool (!l.all stkB)) ∧ Kpt w w' := by
  have C := Lib.hid (stkI_run v l w hr)
  obtain ⟨a, cap, rfl, -, hm, -, -⟩ := hr
  cases h : l.all stkB with
  | true =>
    rw [stkI_all h] at C
    clear h
    generalize l.length = n at *
    go_enter Try.func84, Try.ntmps84
    go_wp2_with (go_at_call 115; (with_reducible refine C.out.mono ?_); rintro e w1 ⟨rfl, k1⟩)
    go_ret
    exact ⟨rfl, k1⟩
  | false =>
    have b := (stkI_some (k := 0) h).1
    clear h
    generalize stkI l 0 = r at *
    generalize l.length = n at *
    have d : decide (0 ≤ r) = true := decide_eq_true (by omega)
    go_enter Try.func84, Try.ntmps84
    go_wp2_with (go_at_call 115; (with_reducible refine C.out.mono ?_); rintro e w1 ⟨rfl, k1⟩)
    go_ret
    exact ⟨rfl, k1⟩

theorem stkE_run (v : Value) (l : List (Int × Int × Int)) (w : World) (hr : ReadsP w v l) :
    Calls Try.prog 44 #[v] w fun e w' => e = .returned (.int .i64 (stkE l)) ∧ Kpt w w' := by
  have C := Lib.hid (stkC_run v l w hr)
  obtain ⟨a, cap, rfl, -, hm, -, -⟩ := hr
  unfold maxLen at hm
  unfold stkE
  by_cases h : 40 < l.length
  · rw [if_pos h]
    have h1 : (40 : Int) < (l.length : Int) := by omega
    clear C h
    generalize l.length = n at *
    go_enter Try.func44, Try.ntmps44
    go_wp2
    go_ret
    exact ⟨rfl, Kpt.refl _⟩
  · rw [if_neg h]
    have h1 : ¬ (40 : Int) < (l.length : Int) := by omega
    clear h
    cases hB : l.all stkB with
    | true =>
      rw [hB] at C
      rw [if_pos rfl]
      clear hB
      generalize l.length = n at *
      go_enter Try.func44, Try.ntmps44
      go_wp2_with (go_at_call 84; (with_reducible refine C.out.mono ?_); rintro e w1 ⟨rfl, k1⟩)
      go_ret
      exact ⟨rfl, k1⟩
    | false =>
      rw [hB] at C
      rw [if_neg (by decide)]
      clear hB
      generalize l.length = n at *
      go_enter Try.func44, Try.ntmps44
      go_wp2_with (go_at_call 84; (with_reducible refine C.out.mono ?_); rintro e w1 ⟨rfl, k1⟩)
      go_ret
      exact ⟨rfl, k1⟩

end Go.Proofs.Ytlojdehjbcombaa
