/-
  Merged: LawRA.
-/
import Derived.Test.YtagmgpdgiphhbaaMb
-- LawRA
namespace Go.Proofs.Ytagmgpdgiphhbaa
open Go.RowKit
set_option linter.unusedVariables false

/-- what is open of the first k fails, and how many of them count as late -/
def opA (fs : List (List Int)) (k : Nat) : Int := ((opn fs k).map fun x : Fin fs.length => openL (fs.getD x.1 [])).sum
def opV (q : Int) (fs : List (List Int)) (k : Nat) : Int := ((opn fs k).map fun x : Fin fs.length => ageV q (fs.getD x.1 [])).sum
theorem opA_s {fs : List (List Int)} {k : Nat} (h : k < fs.length) : opA fs (k + 1) = opA fs k + openL (fs.getD k []) := by
  unfold opA
  rw [opn_s h, List.map_append, List.sum_append]
  have := (openL_bd (fs.getD k [])).1
  by_cases e : 0 < openL (fs.getD k [])
  · rw [if_pos e, List.map_cons, List.map_nil, List.sum_cons, List.sum_nil, Int.add_zero]
  · rw [if_neg e, List.map_nil, List.sum_nil]; omega
theorem opV_s {q : Int} {fs : List (List Int)} {k : Nat} (h : k < fs.length) : opV q fs (k + 1) = opV q fs k + if 0 < openL (fs.getD k []) ∧ (fs.getD k []).getD 5 0 < q then 1 else 0 := by
  unfold opV
  rw [opn_s h, List.map_append, List.sum_append]
  unfold ageV
  by_cases h1 : 0 < openL (fs.getD k [])
  · rw [if_pos h1]; simp only [h1, true_and, List.map_cons, List.map_nil, List.sum_cons, List.sum_nil, Int.add_zero]
  · rw [if_neg h1, if_neg (fun e => h1 e.1)]; simp
theorem op_bd {q : Int} {fs : List (List Int)} (k : Nat) (hk : k ≤ fs.length) : (0 ≤ opA fs k ∧ opA fs k ≤ k * 1073741824) ∧ 0 ≤ opV q fs k ∧ opV q fs k ≤ k := by
  induction k with
  | zero => simp [opA, opV, opn]
  | succ k ih =>
    have i := ih (by omega)
    rw [opA_s (by omega), opV_s (by omega)]
    have := openL_bd (fs.getD k [])
    split <;> omega
theorem pty_sum {c : Nat} {fs : List (List Int)} (h : checksE fs = 0) (hc : c = 1 ∨ c = 2) : (ptyO c fs).sum = opA fs fs.length := by
  have hfl := (checksE_0 h).2
  unfold ptyO ptyT opA
  rw [if_pos h]
  refine tal_sum _ _ _ fun x _ => ?_
  have := fail_bd (hfl _ (getF_mem x.2))
  rcases hc with rfl | rfl
  · show ((fs.getD x.1 []).getD 1 0).toNat < 31; omega
  · show ((fs.getD x.1 []).getD 2 0).toNat < 31; omega
theorem age_sum {W q : Int} {hs es : List Int} {fs : List (List Int)} (h : ageQ W hs fs q es = 0) : (ageO W hs q es fs).sum = opV q fs fs.length := by
  unfold ageO ageT opV
  rw [if_pos h]
  refine tal_sum _ _ _ fun x _ => ?_
  unfold ageK
  have := List.countP_le_length (p := fun e => decide (e < couR W hs ((fs.getD x.1 []).getD 5 0) q + 1)) (l := es)
  omega
theorem pty_bd {c : Nat} {fs : List (List Int)} (h : checksE fs = 0) (j : Nat) : 0 ≤ (ptyO c fs).getD j 0 ∧ (ptyO c fs).getD j 0 ≤ 1099511627776 := by
  have h60 := (checksE_0 h).1
  have hl := opn_len fs fs.length
  unfold ptyO ptyT
  rw [if_pos h]
  have := tal_bd (m := 31) (c := 1073741824) (fun x : Fin fs.length => ((fs.getD x.1 []).getD c 0).toNat) (fun x => openL (fs.getD x.1 [])) (by decide) (fun x => openL_bd _) (opn fs fs.length) j
  omega
theorem pty_len {c : Nat} {fs : List (List Int)} (h : checksE fs = 0) : (ptyO c fs).length = 31 := by
  unfold ptyO; rw [if_pos h]; exact tal_len _ _ _ _
theorem age_bd {W q : Int} {hs es : List Int} {fs : List (List Int)} (h : ageQ W hs fs q es = 0) (j : Nat) : 0 ≤ (ageO W hs q es fs).getD j 0 ∧ (ageO W hs q es fs).getD j 0 ≤ 1099511627776 := by
  have h60 := (checksE_0 (ageQ_0 h).2.1).1
  have hl := opn_len fs fs.length
  unfold ageO
  rw [if_pos h]
  have := tal_bd (m := es.length + 1) (c := 1) (fun x : Fin fs.length => ageK W hs q es (fs.getD x.1 [])) (fun x => ageV q (fs.getD x.1 [])) (by decide) (fun x => by unfold ageV; split <;> omega) (opn fs fs.length) j
  unfold ageT
  omega
theorem age_len {W q : Int} {hs es : List Int} {fs : List (List Int)} (h : ageQ W hs fs q es = 0) : (ageO W hs q es fs).length = es.length + 1 := by
  unfold ageO; rw [if_pos h]; exact tal_len _ _ _ _

end Go.Proofs.Ytagmgpdgiphhbaa
