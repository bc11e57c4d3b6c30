/-
  CompMiddle: the law answers true.
-/
import Derived.Test.YtgccipmeiceonaaCompD
namespace Go.Proofs.Ytgccipmeiceonaa
open Go.RowKit
set_option linter.unusedVariables false

/-- how many are below, how many above -/
def belF (m : Int) (zs : List Int) : Int := (zs.countP (fun z => decide (z < m)) : Nat)
def aboF (m : Int) (zs : List Int) : Int := (zs.countP (fun z => decide (m < z)) : Nat)
def hasF (m : Int) (zs : List Int) : Bool := zs.any (fun z => decide (z = m))
theorem bel_s (m : Int) (zs : List Int) (z : Int) : belF m (zs ++ [z]) = belF m zs + if z < m then 1 else 0 := by
  unfold belF; rw [List.countP_append]; simp [List.countP_cons]; split <;> rfl
theorem abo_s (m : Int) (zs : List Int) (z : Int) : aboF m (zs ++ [z]) = aboF m zs + if m < z then 1 else 0 := by
  unfold aboF; rw [List.countP_append]; simp [List.countP_cons]; split <;> rfl
theorem has_s (m : Int) (zs : List Int) (z : Int) : hasF m (zs ++ [z]) = (hasF m zs || decide (z = m)) := by
  unfold hasF; simp
theorem bel_bd (m : Int) (zs : List Int) : 0 ≤ belF m zs ∧ belF m zs ≤ zs.length := by
  unfold belF; have := List.countP_le_length (p := fun z => decide (z < m)) (l := zs); omega
theorem abo_bd (m : Int) (zs : List Int) : 0 ≤ aboF m zs ∧ aboF m zs ≤ zs.length := by
  unfold aboF; have := List.countP_le_length (p := fun z => decide (m < z)) (l := zs); omega
theorem sorted_at {S : List Int} (h : S.Pairwise (· ≤ ·)) {i j : Nat} (hij : i ≤ j) (hj : j < S.length) : S.getD i 0 ≤ S.getD j 0 := by
  rw [List.getD_eq_getElem?_getD, List.getD_eq_getElem?_getD, List.getElem?_eq_getElem hj, List.getElem?_eq_getElem (show i < S.length by omega)]
  simp only [Option.getD_some]
  rcases Nat.lt_or_ge i j with g | g
  · exact List.pairwise_iff_getElem.1 h i j (by omega) hj g
  · obtain rfl : i = j := by omega
    exact Int.le_refl _
theorem count_0 {p : Int → Bool} {l : List Int} (h : ∀ z ∈ l, p z = false) : l.countP p = 0 := by
  rw [List.countP_eq_zero]
  intro z hz; rw [h z hz]; simp
/-- of a row in order: below its middle stand no more than half, and no more above -/
theorem mid_counts {zs : List Int} {k : Nat} (hk : k < zs.length) : belF ((srt zs).getD k 0) zs ≤ k ∧ aboF ((srt zs).getD k 0) zs ≤ (zs.length : Int) - 1 - k ∧ hasF ((srt zs).getD k 0) zs = true := by
  have hl := srt_len zs
  have hs := srt_sorted zs
  have hp := srt_perm zs
  have hk' : k < (srt zs).length := by omega
  refine ⟨?_, ?_, ?_⟩
  · unfold belF
    rw [← hp.countP_eq]
    have e : (srt zs).countP (fun z => decide (z < (srt zs).getD k 0)) = ((srt zs).take k).countP (fun z => decide (z < (srt zs).getD k 0)) + ((srt zs).drop k).countP (fun z => decide (z < (srt zs).getD k 0)) := by
      rw [← List.countP_append, List.take_append_drop]
    rw [e, count_0 (l := (srt zs).drop k)]
    · have := List.countP_le_length (p := fun z => decide (z < (srt zs).getD k 0)) (l := (srt zs).take k)
      rw [List.length_take] at this
      omega
    · intro z hz
      obtain ⟨j, hj, rfl⟩ := List.getElem_of_mem hz
      rw [List.length_drop] at hj
      have := sorted_at hs (i := k) (j := k + j) (by omega) (by omega)
      rw [List.getElem_drop]
      rw [List.getD_eq_getElem?_getD (i := k + j), List.getElem?_eq_getElem (show k + j < (srt zs).length by omega)] at this
      simp only [Option.getD_some] at this
      exact decide_eq_false (by omega)
  · unfold aboF
    rw [← hp.countP_eq]
    have e : (srt zs).countP (fun z => decide ((srt zs).getD k 0 < z)) = ((srt zs).take (k + 1)).countP (fun z => decide ((srt zs).getD k 0 < z)) + ((srt zs).drop (k + 1)).countP (fun z => decide ((srt zs).getD k 0 < z)) := by
      rw [← List.countP_append, List.take_append_drop]
    rw [e, count_0 (l := (srt zs).take (k + 1))]
    · have := List.countP_le_length (p := fun z => decide ((srt zs).getD k 0 < z)) (l := (srt zs).drop (k + 1))
      rw [List.length_drop] at this
      omega
    · intro z hz
      obtain ⟨j, hj, rfl⟩ := List.getElem_of_mem hz
      rw [List.length_take] at hj
      have := sorted_at hs (i := j) (j := k) (by omega) hk'
      rw [List.getElem_take]
      rw [List.getD_eq_getElem?_getD (i := j), List.getElem?_eq_getElem (show j < (srt zs).length by omega)] at this
      simp only [Option.getD_some] at this
      exact decide_eq_false (by omega)
  · unfold hasF
    refine List.any_eq_true.2 ⟨(srt zs).getD k 0, ?_, by simp⟩
    rw [← hp.mem_iff, List.getD_eq_getElem?_getD, List.getElem?_eq_getElem hk']
    exact List.getElem_mem hk'
/-- turned round by so many -/
def rotF (zs : List Int) (d : Nat) : List Int := (List.range zs.length).map fun i => zs.getD ((i + d) % zs.length) 0
theorem rot_len (zs : List Int) (d : Nat) : (rotF zs d).length = zs.length := by simp [rotF]
theorem rot_at {zs : List Int} {d k : Nat} (h : k < zs.length) : (rotF zs d).getD k 0 = zs.getD ((k + d) % zs.length) 0 := by
  simp [rotF, List.getD_eq_getElem?_getD, h]
theorem rot_perm {zs : List Int} {d : Nat} (h : d < zs.length) : (rotF zs d).Perm zs := by
  have e : rotF zs d = zs.drop d ++ zs.take d := by
    apply List.ext_getElem
    · rw [rot_len]; simp; omega
    · intro i h1 h2
      rw [rot_len] at h1
      have e1 : (rotF zs d)[i] = (rotF zs d).getD i 0 := by rw [List.getD_eq_getElem?_getD, List.getElem?_eq_getElem (by rw [rot_len]; exact h1)]; rfl
      rw [e1, rot_at h1]
      by_cases g : i < zs.length - d
      · rw [List.getElem_append_left (by simp; omega), List.getElem_drop, Nat.mod_eq_of_lt (by omega), List.getD_eq_getElem?_getD, List.getElem?_eq_getElem (by omega)]
        simp [Nat.add_comm]
      · rw [List.getElem_append_right (by simp; omega), List.getElem_take]
        have e2 : (i + d) % zs.length = i - (zs.length - d) := by
          rw [Nat.mod_eq_sub_mod (by omega), Nat.mod_eq_of_lt (by omega)]; omega
        rw [e2, List.getD_eq_getElem?_getD, List.getElem?_eq_getElem (by omega)]
        simp
  rw [e]
  exact List.perm_append_comm.trans (by rw [List.take_append_drop])
theorem srt_same {xs ys : List Int} (h : xs.Perm ys) : srt xs = srt ys := srt_is ((srt_perm ys).trans h.symm) (srt_sorted ys)
theorem mid_same {xs ys : List Int} (h : xs.Perm ys) (h0 : midE ys = 0) : midE xs = 0 ∧ midQ xs = midQ ys := by
  obtain ⟨h1, h2, h3, h4⟩ := mid_0 h0
  have hl := h.length_eq
  have hx : midE xs = 0 := by
    unfold midE
    rw [if_neg (by omega), if_neg (by omega), if_pos]
    exact List.all_eq_true.2 fun z hz => List.all_eq_true.1 h3 z (h.mem_iff.1 hz)
  refine ⟨hx, ?_⟩
  rw [(mid_0 hx).2.2.2, h4, srt_same h, hl]
/-- how far Go turns: what it reckons -/
theorem turn_is (by_ : Int) {n : Nat} (hn : 0 < n) : ∃ d : Nat, d < n ∧ (by_.tmod n + n).tmod n = d ∧ -(n : Int) < by_.tmod n ∧ by_.tmod n < n := by
  have h1 := Int.tmod_lt_of_pos by_ (show (0 : Int) < n by omega)
  have h2 : -(n : Int) < by_.tmod n := by
    rcases Int.lt_or_le by_ 0 with g | g
    · have := Int.tmod_lt_of_pos (-by_) (show (0 : Int) < n by omega)
      rw [Int.neg_tmod] at this; omega
    · have := Int.tmod_nonneg (n : Int) g; omega
  have h3 := Int.tmod_lt_of_pos (by_.tmod n + n) (show (0 : Int) < n by omega)
  have h4 : 0 ≤ (by_.tmod n + n).tmod n := Int.tmod_nonneg _ (by omega)
  exact ⟨((by_.tmod n + n).tmod n).toNat, by omega, by omega, h2, h1⟩

end Go.Proofs.Ytgccipmeiceonaa
