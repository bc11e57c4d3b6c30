/-
  Lists that the laws of books collect, and their sums.
-/
import Derived.Test.YtcpfldlcocencaaBookQ
import Derived.Test.YtcpfldlcocencaaSumOfW
namespace Go.Proofs.Ytcpfldlcocencaa
open Go.RowKit
set_option linter.unusedVariables false

/-- what stands below nought, the other way round -/
def negU (l : List (Int × Int × Int)) (u : Nat) : List Int := (l.filter fun p => decide (p.2.1 = (u : Int)) && decide (p.2.2 < 0)).map fun p => -p.2.2
/-- the amounts of a place -/
def amtsOf (l : List (Int × Int × Int)) (a u : Int) : List Int := (l.filter fun p => decide (p.1 = a) && decide (p.2.1 = u)).map fun p => p.2.2

theorem take_one {l : List (Int × Int × Int)} {k : Nat} (hk : k < l.length) : l.take (k + 1) = l.take k ++ [l.getD k default] := by
  rw [List.take_succ_eq_append_getElem hk, List.getD_eq_getElem?_getD, List.getElem?_eq_getElem hk]; rfl
theorem negU_more {l : List (Int × Int × Int)} {k : Nat} (hk : k < l.length) (u : Nat) (h1 : (l.getD k default).2.1 = (u : Int)) (h2 : (l.getD k default).2.2 < 0) : negU (l.take (k + 1)) u = negU (l.take k) u ++ [-(l.getD k default).2.2] := by
  unfold negU
  have e := take_one hk
  generalize l.getD k default = q at *
  rw [e, List.filter_append, List.filter_cons_of_pos (by simp [h1, h2]), List.map_append]
  rfl
theorem negU_stay {l : List (Int × Int × Int)} {k : Nat} (hk : k < l.length) (u : Nat) (h : ¬ ((l.getD k default).2.1 = (u : Int) ∧ (l.getD k default).2.2 < 0)) : negU (l.take (k + 1)) u = negU (l.take k) u := by
  unfold negU
  have e := take_one hk
  generalize l.getD k default = q at *
  rw [e, List.filter_append, List.filter_cons_of_neg (by simpa using h)]
  simp
theorem amtsOf_more {l : List (Int × Int × Int)} {k : Nat} (hk : k < l.length) (a u : Int) (h1 : (l.getD k default).1 = a) (h2 : (l.getD k default).2.1 = u) : amtsOf (l.take (k + 1)) a u = amtsOf (l.take k) a u ++ [(l.getD k default).2.2] := by
  unfold amtsOf
  have e := take_one hk
  generalize l.getD k default = q at *
  rw [e, List.filter_append, List.filter_cons_of_pos (by simp [h1, h2]), List.map_append]
  rfl
theorem amtsOf_stay {l : List (Int × Int × Int)} {k : Nat} (hk : k < l.length) (a u : Int) (h : ¬ ((l.getD k default).1 = a ∧ (l.getD k default).2.1 = u)) : amtsOf (l.take (k + 1)) a u = amtsOf (l.take k) a u := by
  unfold amtsOf
  have e := take_one hk
  generalize l.getD k default = q at *
  rw [e, List.filter_append, List.filter_cons_of_neg (by simpa using h)]
  simp
theorem negU_sum {l : List (Int × Int × Int)} (u : Nat) : posS l u - (negU l u).sum = unitS l u := by
  induction l with
  | nil => rfl
  | cons p l ih =>
    unfold posS posP negU at *
    rw [List.filter_cons, List.filter_cons, unitS]
    by_cases h1 : p.2.1 = (u : Int)
    · by_cases h2 : 0 < p.2.2
      · rw [if_pos (by simpa using h2), if_neg (by simp; omega), unitS, if_pos h1]; omega
      · by_cases h3 : p.2.2 < 0
        · rw [if_neg (by simpa using h2), if_pos (by simp [h1, h3]), List.map_cons, List.sum_cons, if_pos h1]; omega
        · rw [if_neg (by simpa using h2), if_neg (by simp; omega), if_pos h1]; omega
    · by_cases h2 : 0 < p.2.2
      · rw [if_pos (by simpa using h2), if_neg (by simp [h1]), unitS, if_neg h1]; omega
      · rw [if_neg (by simpa using h2), if_neg (by simp [h1]), if_neg h1]; omega
theorem amtsOf_sum (l : List (Int × Int × Int)) (a u : Int) : (amtsOf l a u).sum = sumAt l a u := by
  induction l with
  | nil => rfl
  | cons p l ih =>
    unfold amtsOf at *
    rw [List.filter_cons, sumAt]
    by_cases h : p.1 = a ∧ p.2.1 = u
    · rw [if_pos (by simp [h.1, h.2]), if_pos h, List.map_cons, List.sum_cons]; omega
    · rw [if_neg (by simpa using h), if_neg h]; omega
theorem negU_len (l : List (Int × Int × Int)) (k u : Nat) : (negU (l.take k) u).length ≤ l.length := by
  unfold negU
  rw [List.length_map]
  have h := List.length_filter_le (fun p : Int × Int × Int => decide (p.2.1 = (u : Int)) && decide (p.2.2 < 0)) (l.take k)
  rw [List.length_take] at h
  omega
theorem amtsOf_len (l : List (Int × Int × Int)) (k : Nat) (a u : Int) : (amtsOf (l.take k) a u).length ≤ l.length := by
  unfold amtsOf
  rw [List.length_map]
  have h := List.length_filter_le (fun p : Int × Int × Int => decide (p.1 = a) && decide (p.2.1 = u)) (l.take k)
  rw [List.length_take] at h
  omega
theorem negU_amt {l : List (Int × Int × Int)} (h : ∀ p ∈ l, ptB p = true) (u : Nat) : ∀ z ∈ negU l u, amtB z = true := fun z hz => by
  obtain ⟨p, hp, rfl⟩ := List.mem_map.1 hz
  have := pt_t (h p (List.mem_filter.1 hp).1)
  exact amt_mk (by omega) (by omega)
theorem amtsOf_amt {l : List (Int × Int × Int)} (h : ∀ p ∈ l, ptB p = true) (a u : Int) : ∀ z ∈ amtsOf l a u, amtB z = true := fun z hz => by
  obtain ⟨p, hp, rfl⟩ := List.mem_map.1 hz
  have := pt_t (h p (List.mem_filter.1 hp).1)
  exact amt_mk (by omega) (by omega)
/-- the balances of the first accounts -/
def balsOf (l : List (Int × Int × Int)) (u k : Nat) : List Int := (List.range k).map fun a : Nat => sumAt l (a : Int) (u : Int)
theorem balsOf_more (l : List (Int × Int × Int)) (u k : Nat) : balsOf l u (k + 1) = balsOf l u k ++ [sumAt l (k : Int) (u : Int)] := by
  unfold balsOf
  rw [List.range_succ, List.map_append]
  rfl
theorem balsOf_len (l : List (Int × Int × Int)) (u k : Nat) : (balsOf l u k).length = k := by simp [balsOf]
theorem balsOf_sum (l : List (Int × Int × Int)) (u k : Nat) : (balsOf l u k).sum = accS l u k := by
  induction k with
  | zero => rfl
  | succ k ih => rw [balsOf_more, List.sum_append, ih, accS]; simp
theorem strict_amt {l : List (Int × Int × Int)} (h : Strict (-1) l) (a u : Int) : amtB (sumAt l a u) = true := by
  by_cases hq : ∃ q ∈ l, q.1 = a ∧ q.2.1 = u
  · obtain ⟨q, hq, rfl, rfl⟩ := hq
    rw [sumAt_mem h hq]
    exact amt_mk (pt_t (strict_pt h q hq)).2.2.2.2.2.1 (pt_t (strict_pt h q hq)).2.2.2.2.2.2
  · rw [sumAt_none fun q hq' e => hq ⟨q, hq', e⟩]; decide
theorem balsOf_amt {l : List (Int × Int × Int)} (h : Strict (-1) l) (u k : Nat) : ∀ z ∈ balsOf l u k, amtB z = true := fun z hz => by
  obtain ⟨a, _, rfl⟩ := List.mem_map.1 hz
  exact strict_amt h _ _

theorem Owns.kpt {w w' : World} {base : Nat} {v : Value} {zs : List Int} (h : Owns w base v zs) (g : Kpt w w') : Owns w' base v zs := h.below g (Nat.le_refl _)
theorem Row.kpt {w w' : World} {g : Nat} {zs : List Int} (h : Row w g zs) (k : Kpt w w') : Row w' g zs := h.below k h.lt
/-- a sum that is an amount, of a list of the call's own -/
theorem sumOf_own {w : World} {base : Nat} (v : Value) (zs : List Int) (S : Int) (h : Owns w base v zs) (hm : zs.length ≤ 1000) (ha : ∀ z ∈ zs, amtB z = true) (hS : zs.sum = S) (hA : amtB S = true) :
    Calls Try.prog 24 #[v] w fun e w' => e = .returned (.tuple #[.int .i64 S, .bool true]) ∧ Kpt w w' := by
  obtain ⟨_, _, _, hr⟩ := h.reads
  refine (sumOf_any v zs w hr hm ha).mono ?_
  rintro e w' ⟨hk, ⟨_, rfl⟩ | ⟨hx, _⟩⟩
  · exact ⟨by rw [hS], hk⟩
  · rw [hS, hA] at hx; cases hx

end Go.Proofs.Ytcpfldlcocencaa
