/-
  The plain arithmetic of parts by quotas and remainders. Nothing of the program is used here.
-/
import Derived.Test.YtmoanndonfmihaaShareMath
namespace Go.Proofs.Ytmoanndonfmihaa
set_option linter.unusedVariables false

def prt (T S : Int) (zs : List Int) : List Int := zs.map fun z => T * z / S
def rmd (T S : Int) (zs : List Int) : List Int := zs.map fun z => T * z % S
theorem prt_len (T S : Int) (zs : List Int) : (prt T S zs).length = zs.length := by simp [prt]
theorem rmd_len (T S : Int) (zs : List Int) : (rmd T S zs).length = zs.length := by simp [rmd]
theorem prt_at (T S : Int) (zs : List Int) {k : Nat} (hk : k < zs.length) : (prt T S zs).getD k 0 = T * zs.getD k 0 / S := by
  simp [prt, List.getD_eq_getElem?_getD, hk]
theorem rmd_at (T S : Int) (zs : List Int) {k : Nat} (hk : k < zs.length) : (rmd T S zs).getD k 0 = T * zs.getD k 0 % S := by
  simp [rmd, List.getD_eq_getElem?_getD, hk]

/-- the first k of a list, and noughts -/
def mix (xs : List Int) (k : Nat) : List Int := (List.range xs.length).map fun i => if i < k then xs.getD i 0 else 0
theorem mix_len (xs : List Int) (k : Nat) : (mix xs k).length = xs.length := by simp [mix]
theorem mix_zero (xs : List Int) : mix xs 0 = List.replicate xs.length 0 := by
  apply List.ext_getElem
  · simp [mix]
  · intro i h1 h2; simp [mix]
theorem mix_put (xs : List Int) (k : Nat) : (mix xs k).set k (xs.getD k 0) = mix xs (k + 1) := by
  apply List.ext_getElem
  · simp [mix]
  · intro i h1 h2
    rw [List.getElem_set]
    simp only [mix, List.getElem_map, List.getElem_range]
    by_cases h : k = i
    · subst h; rw [if_pos rfl, if_pos (by omega)]
    · rw [if_neg h]
      by_cases h' : i < k
      · rw [if_pos h', if_pos (by omega)]
      · rw [if_neg h', if_neg (by omega)]
theorem mix_full (xs : List Int) : mix xs xs.length = xs := by
  apply List.ext_getElem
  · simp [mix]
  · intro i h1 h2
    simp only [mix, List.getElem_map, List.getElem_range]
    rw [if_pos h2, List.getD_eq_getElem?_getD, List.getElem?_eq_getElem h2]; rfl

theorem take_sum {xs : List Int} {k : Nat} (hk : k < xs.length) : (xs.take (k + 1)).sum = (xs.take k).sum + xs.getD k 0 := by
  rw [List.take_succ_eq_append_getElem hk, List.sum_append, List.getD_eq_getElem?_getD, List.getElem?_eq_getElem hk]
  simp
theorem sum_nonneg {xs : List Int} (h : ∀ x ∈ xs, 0 ≤ x) : 0 ≤ xs.sum := by
  induction xs with
  | nil => exact Int.le_refl _
  | cons a xs ih =>
    have h1 := h a (by simp)
    have h2 := ih fun x hx => h x (by simp [hx])
    rw [List.sum_cons]; omega
theorem sum_le {xs : List Int} {b : Int} (h : ∀ x ∈ xs, x ≤ b) : xs.sum ≤ b * xs.length := by
  induction xs with
  | nil => simp
  | cons a xs ih =>
    have h1 := h a (by simp)
    have h2 := ih fun x hx => h x (by simp [hx])
    rw [List.sum_cons, List.length_cons, Int.natCast_add, Int.mul_add]; omega
theorem take_le_sum {xs : List Int} (h : ∀ x ∈ xs, 0 ≤ x) (k : Nat) : (xs.take k).sum ≤ xs.sum := by
  have : xs.sum = (xs.take k).sum + (xs.drop k).sum := by rw [← List.sum_append, List.take_append_drop]
  have h2 : 0 ≤ (xs.drop k).sum := sum_nonneg fun x hx => h x (List.mem_of_mem_drop hx)
  omega
/-- quotas and remainders of all -/
theorem prt_rmd (T S : Int) (zs : List Int) : S * (prt T S zs).sum + (rmd T S zs).sum = T * zs.sum := by
  induction zs with
  | nil => simp [prt, rmd]
  | cons z zs ih =>
    have h : S * (T * z / S) + T * z % S = T * z := Int.mul_ediv_add_emod _ _
    simp only [prt, rmd, List.map_cons, List.sum_cons] at ih ⊢
    rw [Int.mul_add, Int.mul_add]
    omega
theorem prt_take (T S : Int) (zs : List Int) (k : Nat) : (prt T S zs).take k = prt T S (zs.take k) := by simp [prt, List.map_take]
theorem rmd_nonneg {T S : Int} (hS : 0 < S) (zs : List Int) : ∀ x ∈ rmd T S zs, 0 ≤ x := by
  intro x hx
  simp only [rmd, List.mem_map] at hx
  obtain ⟨z, _, rfl⟩ := hx
  exact Int.emod_nonneg _ (by omega)
theorem rmd_lt {T S : Int} (hS : 0 < S) (zs : List Int) : ∀ x ∈ rmd T S zs, x ≤ S - 1 := by
  intro x hx
  simp only [rmd, List.mem_map] at hx
  obtain ⟨z, _, rfl⟩ := hx
  have := Int.emod_lt_of_pos (T * z) hS
  omega
theorem prt_nonneg {T S : Int} (hT : 0 ≤ T) (hS : 0 < S) {zs : List Int} (hz : ∀ z ∈ zs, 0 ≤ z) : ∀ x ∈ prt T S zs, 0 ≤ x := by
  intro x hx
  simp only [prt, List.mem_map] at hx
  obtain ⟨z, h, rfl⟩ := hx
  exact Int.ediv_nonneg (Int.mul_nonneg hT (hz z h)) (by omega)
/-- what is left on the way -/
theorem left_bd {T S : Int} (hT : 0 ≤ T) (hS : 0 < S) {zs : List Int} (hz : ∀ z ∈ zs, 0 ≤ z) (hs : zs.sum = S) (k : Nat) : 0 ≤ ((prt T S zs).take k).sum ∧ ((prt T S zs).take k).sum ≤ T := by
  refine ⟨sum_nonneg fun x hx => prt_nonneg hT hS hz x (List.mem_of_mem_take hx), ?_⟩
  rw [prt_take]
  have h1 := prt_rmd T S (zs.take k)
  have h2 := sum_nonneg (rmd_nonneg (T := T) hS (zs.take k))
  have h3 := Int.mul_le_mul_of_nonneg_left (take_le_sum hz k) hT
  rw [hs] at h3
  refine Int.le_of_mul_le_mul_left (a := S) ?_ hS
  rw [Int.mul_comm S T]; omega
/-- what is left in the end: less than there are -/
theorem left_end {T S : Int} (hT : 0 ≤ T) (hS : 0 < S) {zs : List Int} (hs : zs.sum = S) (h0 : zs ≠ []) : T - (prt T S zs).sum < zs.length := by
  have h1 := prt_rmd T S zs
  have h2 := sum_le (rmd_lt (T := T) hS zs)
  rw [rmd_len] at h2
  rw [hs] at h1
  have hp : 0 < (zs.length : Int) := by have := List.length_pos_iff.2 h0; omega
  have h3 : (S - 1) * (zs.length : Int) < S * zs.length := Int.mul_lt_mul_of_pos_right (by omega) hp
  refine Int.lt_of_mul_lt_mul_left (a := S) ?_ (by omega)
  rw [Int.mul_sub, Int.mul_comm S T]; omega

/-- one more to each of these -/
def bump (ps : List Int) (os : List Int) : List Int := os.foldl (fun ps o => give ps o.toNat) ps
theorem bump_len (ps os : List Int) : (bump ps os).length = ps.length := by
  unfold bump
  induction os generalizing ps with
  | nil => rfl
  | cons o os ih => rw [List.foldl_cons, ih, give_len]
theorem bump_step (ps os : List Int) {k : Nat} (hk : k < os.length) : bump ps (os.take (k + 1)) = give (bump ps (os.take k)) (os.getD k 0).toNat := by
  unfold bump
  rw [List.take_succ_eq_append_getElem hk, List.foldl_append, List.getD_eq_getElem?_getD, List.getElem?_eq_getElem hk]
  rfl
theorem give_bd {ss : List Int} {i : Nat} {a b : Int} (h : ∀ j, a ≤ ss.getD j 0 ∧ ss.getD j 0 ≤ b) : ∀ j, a ≤ (give ss i).getD j 0 ∧ (give ss i).getD j 0 ≤ b + 1 := by
  intro j
  by_cases hi : i < ss.length
  · rw [give_at _ _ _ hi]
    have := h j
    split <;> omega
  · unfold give
    rw [List.set_eq_of_length_le (by omega)]
    have := h j; omega
theorem bump_bd {ps : List Int} {b : Int} (h : ∀ j, 0 ≤ ps.getD j 0 ∧ ps.getD j 0 ≤ b) (os : List Int) : ∀ j, 0 ≤ (bump ps os).getD j 0 ∧ (bump ps os).getD j 0 ≤ b + os.length := by
  unfold bump
  induction os generalizing ps b with
  | nil => intro j; have := h j; simp only [List.foldl_nil, List.length_nil]; omega
  | cons o os ih =>
    intro j
    have := ih (give_bd (i := o.toNat) h) j
    rw [List.foldl_cons, List.length_cons]
    omega

end Go.Proofs.Ytmoanndonfmihaa
