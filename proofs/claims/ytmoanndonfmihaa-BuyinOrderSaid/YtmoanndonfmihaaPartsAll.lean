/-
  What Parts of package share does, whatever it is handed; who gets one more.
-/
import Derived.Test.YtmoanndonfmihaaPartsRun
import Derived.Test.YtmoanndonfmihaaGreatest
namespace Go.Proofs.Ytmoanndonfmihaa
open Go.RowKit Go.Lib
set_option linter.unusedVariables false

/-- how many are left for the first ones -/
def lefts (T : Int) (zs : List Int) : Nat := (T - (prt T zs.sum zs).sum).toNat
/-- who gets one more -/
def firstL (T : Int) (zs : List Int) : List Int := (ordK zs.length (keyN (rmd T zs.sum zs))).take (lefts T zs)
/-- the parts -/
def pbs (T : Int) (zs : List Int) : List Int := bump (prt T zs.sum zs) (firstL T zs)
theorem pbs_len (T : Int) (zs : List Int) : (pbs T zs).length = zs.length := by unfold pbs; rw [bump_len, prt_len]

theorem wts_ok {zs : List Int} (hE : wtsE zs = 0) : zs ≠ [] ∧ zs.length ≤ 40 ∧ zs.all wtB = true ∧ Lib.maxOf zs ≠ 0 ∧ 0 < zs.sum ∧ zs.sum ≤ 43980465111040 ∧ ∀ z ∈ zs, 0 ≤ z := by
  rcases wtsE_cases zs with ⟨_, a, b, c, d⟩ | h
  · exact ⟨a, b, c, d, sum_pos c d, (wsum_bd c b).2, fun z hz => (all_mem c z hz).1⟩
  · omega
theorem lefts_bd {T : Int} {zs : List Int} (hT : 0 ≤ T) (hE : wtsE zs = 0) : ((lefts T zs : Nat) : Int) = T - (prt T zs.sum zs).sum ∧ lefts T zs < zs.length := by
  obtain ⟨h0, hm, hall, hmx, hS, hSb, hz0⟩ := wts_ok hE
  have h1 := left_end hT hS rfl h0
  have h2 := left_bd hT hS hz0 rfl zs.length
  rw [List.take_of_length_le (by rw [prt_len]; exact Nat.le_refl _)] at h2
  unfold lefts
  omega
theorem firstL_len {T : Int} {zs : List Int} (hT : 0 ≤ T) (hE : wtsE zs = 0) : (firstL T zs).length = lefts T zs := by
  unfold firstL
  rw [List.length_take, (ordK_is _ _).len]
  have := lefts_bd hT hE
  omega
theorem firstL_mem {T : Int} {zs : List Int} {x : Int} (h : x ∈ firstL T zs) : 0 ≤ x ∧ x < zs.length := (ordK_is _ _).mem.1 (List.mem_of_mem_take h)
theorem firstL_nodup (T : Int) (zs : List Int) : (firstL T zs).Nodup := (ordK_is _ _).nodup.sublist (List.take_sublist _ _)
theorem pbs_at (T : Int) (zs : List Int) {j : Nat} (hj : j < zs.length) : (pbs T zs).getD j 0 = T * zs.getD j 0 / zs.sum + if (j : Int) ∈ firstL T zs then 1 else 0 := by
  unfold pbs
  rw [bump_at _ _ _ (firstL_nodup T zs) (fun o ho => by rw [prt_len]; exact firstL_mem ho), prt_at _ _ _ hj]
theorem pbs_sum {T : Int} {zs : List Int} (hT : 0 ≤ T) (hE : wtsE zs = 0) : (pbs T zs).sum = T := by
  unfold pbs
  rw [bump_sum _ _ (fun o ho => by rw [prt_len]; exact firstL_mem ho), firstL_len hT hE]
  have := (lefts_bd hT hE).1
  omega

theorem rsum_iota (rs : List Int) : ((iota rs.length).map fun x => rs.getD x.toNat 0).sum = rs.sum := by
  congr 1
  apply List.ext_getElem
  · simp [iota]
  · intro i h1 h2
    have hi : i < rs.length := h2
    simp only [iota, List.getElem_map, List.getElem_range, Int.toNat_natCast]
    rw [List.getD_eq_getElem?_getD, List.getElem?_eq_getElem hi]; rfl
theorem perm_sum {xs ys : List Int} (h : xs.Perm ys) : xs.sum = ys.sum := by
  induction h with
  | nil => rfl
  | cons x _ ih => rw [List.sum_cons, List.sum_cons, ih]
  | swap x y l => simp only [List.sum_cons]; omega
  | trans _ _ i j => exact i.trans j
theorem sum_zero {xs : List Int} (h : ∀ x ∈ xs, x ≤ 0) : xs.sum ≤ 0 := by
  induction xs with
  | nil => decide
  | cons x xs ih =>
    rw [List.sum_cons]
    have h1 := h x (by simp)
    have h2 := ih (fun y hy => h y (by simp [hy]))
    omega
/-- who gets one more has a rest -/
theorem got_pos {T : Int} {zs : List Int} (hT : 0 ≤ T) (hE : wtsE zs = 0) {j : Nat} (hj : j < zs.length) (hg : (j : Int) ∈ firstL T zs) : 0 < T * zs.getD j 0 % zs.sum := by
  obtain ⟨h0, hm, hall, hmx, hS, hSb, hz0⟩ := wts_ok hE
  have hr0 := rmd_nonneg (T := T) hS zs
  have hr1 := rmd_lt (T := T) hS zs
  have hs := prt_rmd T zs.sum zs
  have hl := lefts_bd hT hE
  have hll := firstL_len hT hE
  have hrl := rmd_len T zs.sum zs
  rw [← rmd_at T zs.sum zs hj]
  have hjb : 0 ≤ (rmd T zs.sum zs).getD j 0 := by
    apply hr0
    rw [List.getD_eq_getElem?_getD, List.getElem?_eq_getElem (by omega)]; simp
  rcases Int.lt_or_eq_of_le hjb with h | h
  · exact h
  · exfalso
    have O := ordK_is zs.length (keyN (rmd T zs.sum zs))
    have hsum := rsum_iota (rmd T zs.sum zs)
    rw [hrl] at hsum
    have hp := perm_sum (O.perm.map fun x : Int => (rmd T zs.sum zs).getD x.toNat 0)
    rw [← List.take_append_drop (lefts T zs) (ordK zs.length (keyN (rmd T zs.sum zs))), List.map_append, List.sum_append] at hp
    have hd : ((List.drop (lefts T zs) (ordK zs.length (keyN (rmd T zs.sum zs)))).map fun x => (rmd T zs.sum zs).getD x.toNat 0).sum ≤ 0 := by
      apply sum_zero
      intro y hy
      obtain ⟨x, hx, rfl⟩ := List.mem_map.1 hy
      have hsrt := O.sorted
      rw [← List.take_append_drop (lefts T zs) (ordK zs.length (keyN (rmd T zs.sum zs)))] at hsrt
      have hlx := (List.pairwise_append.1 hsrt).2.2 (j : Int) hg x hx
      unfold lxK keyN at hlx
      rw [Int.toNat_natCast, ← h] at hlx
      omega
    have ht : ((List.take (lefts T zs) (ordK zs.length (keyN (rmd T zs.sum zs)))).map fun x => (rmd T zs.sum zs).getD x.toNat 0).sum ≤ (zs.sum - 1) * ((List.take (lefts T zs) (ordK zs.length (keyN (rmd T zs.sum zs)))).map fun x => (rmd T zs.sum zs).getD x.toNat 0).length := by
      apply sum_le
      intro y hy
      obtain ⟨x, hx, rfl⟩ := List.mem_map.1 hy
      have hb := firstL_mem (T := T) (zs := zs) hx
      apply hr1
      rw [List.getD_eq_getElem?_getD, List.getElem?_eq_getElem (by omega)]; simp
    rw [List.length_map] at ht
    unfold firstL at hll
    rw [hll] at ht
    have hpos : 0 < lefts T zs := by
      rw [← hll]; exact List.length_pos_iff.2 (List.ne_nil_of_mem hg)
    have e : (zs.sum - 1) * ((lefts T zs : Nat) : Int) = zs.sum * ((lefts T zs : Nat) : Int) - ((lefts T zs : Nat) : Int) := by rw [Int.sub_mul, Int.one_mul]
    have e2 : zs.sum * ((lefts T zs : Nat) : Int) = T * zs.sum - zs.sum * (prt T zs.sum zs).sum := by rw [hl.1, Int.mul_sub, Int.mul_comm zs.sum T]
    omega

/-- who weighs more has no less, but for one -/
theorem pbs_more {T : Int} {zs : List Int} (hT : 0 ≤ T) (hE : wtsE zs = 0) {i k : Nat} (hi : i < zs.length) (hk : k < zs.length) (h : zs.getD k 0 ≤ zs.getD i 0) :
    (pbs T zs).getD k 0 ≤ (pbs T zs).getD i 0 ∨ (zs.getD i 0 = zs.getD k 0 ∧ (pbs T zs).getD i 0 + 1 = (pbs T zs).getD k 0 ∧ k < i) := by
  obtain ⟨h0, hm, hall, hmx, hS, hSb, hz0⟩ := wts_ok hE
  rw [pbs_at T zs hi, pbs_at T zs hk]
  have hmul : T * zs.getD k 0 ≤ T * zs.getD i 0 := Int.mul_le_mul_of_nonneg_left h hT
  have hq : T * zs.getD k 0 / zs.sum ≤ T * zs.getD i 0 / zs.sum := Int.ediv_le_ediv hS hmul
  by_cases gk : (k : Int) ∈ firstL T zs
  · by_cases gi : (i : Int) ∈ firstL T zs
    · rw [if_pos gk, if_pos gi]; left; omega
    · rw [if_pos gk, if_neg gi]
      rcases Int.lt_or_eq_of_le hq with hlt | heq
      · left; omega
      · right
        have hgp := got_pos hT hE hk gk
        have hl := (ordK_is zs.length (keyN (rmd T zs.sum zs))).ahead gk (y := (i : Int)) ⟨by omega, by omega⟩ gi
        unfold lxK keyN at hl
        rw [Int.toNat_natCast, Int.toNat_natCast, rmd_at T zs.sum zs hi, rmd_at T zs.sum zs hk] at hl
        have d1 := Int.mul_ediv_add_emod (T * zs.getD k 0) zs.sum
        have d2 := Int.mul_ediv_add_emod (T * zs.getD i 0) zs.sum
        rw [heq] at d1
        have er : T * zs.getD k 0 = T * zs.getD i 0 := by omega
        have hT0 : T ≠ 0 := by
          rintro rfl
          rw [Int.zero_mul, Int.zero_emod] at hgp
          omega
        have ew := Int.eq_of_mul_eq_mul_left hT0 er
        rw [er] at hl
        refine ⟨ew.symm, by omega, by omega⟩
  · rw [if_neg gk]; left
    have : (0 : Int) ≤ if (i : Int) ∈ firstL T zs then 1 else 0 := by split <;> omega
    omega
theorem pbs_none {T : Int} {zs : List Int} (hT : 0 ≤ T) (hE : wtsE zs = 0) {i : Nat} (hi : i < zs.length) (h : zs.getD i 0 = 0) : (pbs T zs).getD i 0 = 0 := by
  rw [pbs_at T zs hi]
  by_cases g : (i : Int) ∈ firstL T zs
  · have := got_pos hT hE hi g
    rw [h, Int.mul_zero, Int.zero_emod] at this
    omega
  · rw [if_neg g, h, Int.mul_zero, Int.zero_ediv]; rfl
theorem pbs_quota {T : Int} {zs : List Int} (hT : 0 ≤ T) (hE : wtsE zs = 0) {i : Nat} (hi : i < zs.length) :
    0 ≤ (pbs T zs).getD i 0 ∧ (pbs T zs).getD i 0 ≤ T ∧ (pbs T zs).getD i 0 * zs.sum < T * zs.getD i 0 + zs.sum ∧ T * zs.getD i 0 - zs.sum < (pbs T zs).getD i 0 * zs.sum := by
  obtain ⟨h0, hm, hall, hmx, hS, hSb, hz0⟩ := wts_ok hE
  have nn : ∀ j, j < zs.length → 0 ≤ (pbs T zs).getD j 0 := fun j hj => by
    rw [pbs_at T zs hj]
    have hz : 0 ≤ zs.getD j 0 := (wt_at hall j).1
    have := Int.ediv_nonneg (Int.mul_nonneg hT hz) (Int.le_of_lt hS)
    split <;> omega
  have hall' : ∀ z ∈ pbs T zs, 0 ≤ z := fun z hz => by
    obtain ⟨j, hj, rfl⟩ := List.getElem_of_mem hz
    have := nn j (by rw [pbs_len] at hj; exact hj)
    rw [List.getD_eq_getElem?_getD, List.getElem?_eq_getElem hj] at this
    exact this
  have hle : (pbs T zs).getD i 0 ≤ T := by
    have := mem_le_sum hall' ((pbs T zs).getD i 0) (by rw [List.getD_eq_getElem?_getD, List.getElem?_eq_getElem (by rw [pbs_len]; exact hi)]; simp)
    rw [pbs_sum hT hE] at this
    exact this
  refine ⟨nn i hi, hle, ?_⟩
  have hg := fun g => got_pos hT hE hi g
  rw [pbs_at T zs hi]
  have d := Int.mul_ediv_add_emod (T * zs.getD i 0) zs.sum
  have r0 := Int.emod_nonneg (T * zs.getD i 0) (show zs.sum ≠ 0 by omega)
  have r1 := Int.emod_lt_of_pos (T * zs.getD i 0) hS
  generalize T * zs.getD i 0 = X at d r0 r1 hg ⊢
  generalize zs.sum = S at d r0 r1 hg hS ⊢
  generalize X / S = Q at d ⊢
  have e1 : (Q + 1) * S = S * Q + S := by rw [Int.add_mul, Int.one_mul, Int.mul_comm]
  have e2 : (Q + 0) * S = S * Q := by rw [Int.add_zero, Int.mul_comm]
  split
  · rename_i g
    have := hg g
    rw [e1]; omega
  · rw [e2]; omega

end Go.Proofs.Ytmoanndonfmihaa
