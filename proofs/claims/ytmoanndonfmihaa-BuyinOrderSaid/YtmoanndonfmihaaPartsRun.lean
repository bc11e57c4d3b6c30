/-
  What Parts of package share does, given what greatestFirst does: its contract.
-/
import Derived.Test.YtmoanndonfmihaaQuota
import Derived.Test.YtmoanndonfmihaaSortC
namespace Go.Proofs.Ytmoanndonfmihaa
open Go.RowKit Go.Lib
set_option linter.unusedVariables false

/-- a new row comes back, and no error; what was there has not turned -/
def Yields (w : World) (ss : List Int) (e : Ending) (w' : World) : Prop :=
  ∃ g, e = .returned (.tuple #[.slice (some ⟨g, 0, none⟩) ss.length ss.length, .int .i64 0]) ∧ w.heap.size ≤ g ∧ Row w' g ss ∧ Below w.heap.size w w'
theorem yields_mk {w w' : World} {g n : Nat} {ss : List Int} (hn : ss.length = n) (hg : w.heap.size ≤ g) (h : Row w' g ss) (k : Below w.heap.size w w') : Yields w ss (.returned (.tuple #[.slice (some ⟨g, 0, none⟩) n n, .int .i64 0])) w' := by
  subst hn; exact ⟨g, rfl, hg, h, k⟩

theorem all_mem {zs : List Int} (h : zs.all wtB = true) : ∀ z ∈ zs, 0 ≤ z ∧ z ≤ 1099511627776 := fun z hz => wt_t (List.all_eq_true.1 h z hz)
theorem wsum_bd {zs : List Int} (h : zs.all wtB = true) (hl : zs.length ≤ 40) : 0 ≤ zs.sum ∧ zs.sum ≤ 43980465111040 := by
  refine ⟨sum_nonneg fun x hx => (all_mem h x hx).1, ?_⟩
  have := sum_le fun x hx => (all_mem h x hx).2
  omega
theorem mem_le_sum {zs : List Int} (h : ∀ z ∈ zs, 0 ≤ z) : ∀ z ∈ zs, z ≤ zs.sum := by
  induction zs with
  | nil => intro z hz; simp at hz
  | cons a zs ih =>
    intro z hz
    have h1 := h a (by simp)
    have h2 := sum_nonneg (xs := zs) fun x hx => h x (by simp [hx])
    rw [List.sum_cons]
    rcases List.mem_cons.1 hz with rfl | hz
    · omega
    · have := ih (fun x hx => h x (by simp [hx])) z hz; omega
theorem foldl_max_le (zs : List Int) (a : Int) : a ≤ zs.foldl max a ∧ ∀ z ∈ zs, z ≤ zs.foldl max a := by
  induction zs generalizing a with
  | nil => exact ⟨Int.le_refl _, by simp⟩
  | cons z zs ih =>
    obtain ⟨h1, h2⟩ := ih (max a z)
    rw [List.foldl_cons]
    refine ⟨by omega, fun x hx => ?_⟩
    rcases List.mem_cons.1 hx with rfl | hx
    · omega
    · exact h2 x hx
theorem foldl_max_zero (zs : List Int) (a : Int) (ha : a = 0) (h : ∀ z ∈ zs, z = 0) : zs.foldl max a = 0 := by
  induction zs generalizing a with
  | nil => exact ha
  | cons z zs ih =>
    rw [List.foldl_cons]
    have hz := h z (by simp)
    exact ih _ (by omega) fun x hx => h x (by simp [hx])
/-- weights that are not all nought have a sum above it -/
theorem sum_pos {zs : List Int} (h : zs.all wtB = true) (hm : Lib.maxOf zs ≠ 0) : 0 < zs.sum := by
  have h0 : ∀ z ∈ zs, 0 ≤ z := fun z hz => (all_mem h z hz).1
  have h1 := sum_nonneg h0
  rcases Int.lt_or_eq_of_le h1 with g | g
  · exact g
  · exfalso
    apply hm
    have hz : ∀ z ∈ zs, z = 0 := fun z hz => by have := mem_le_sum h0 z hz; have := h0 z hz; omega
    unfold Lib.maxOf
    refine foldl_max_zero zs _ ?_ hz
    cases zs with
    | nil => rfl
    | cons a zs => exact hz a (by simp)

end Go.Proofs.Ytmoanndonfmihaa
