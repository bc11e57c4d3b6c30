/-
  Plain arithmetic of settlements: all together have as much; who could pay.
-/
import Derived.Test.YtbfeojdlaajpdaaGridJ
import Derived.Test.YtbfeojdlaajpdaaTogether
namespace Go.Proofs.Ytbfeojdlaajpdaa
set_option linter.unusedVariables false

theorem set_sumI {l : List Int} {i : Nat} (h : i < l.length) (v : Int) : (l.set i v).sum = l.sum - l.getD i 0 + v := by
  induction l generalizing i with
  | nil => simp at h
  | cons a l ih =>
    cases i with
    | zero => simp only [List.set_cons_zero, List.sum_cons, List.getD_cons_zero]; omega
    | succ i =>
      have := ih (i := i) (by simpa using h)
      simp only [List.set_cons_succ, List.sum_cons, List.getD_cons_succ]; omega
theorem pay_sum {has : List Int} {p : Int × Int × Int} (h : dueO p) (hn : has.length = 31) : (pay has p).sum = has.sum := by
  have hb := due_t h.1
  have hne := h.2
  obtain ⟨f, hf⟩ : ∃ f : Nat, p.1 = (f : Int) := ⟨p.1.toNat, by omega⟩
  obtain ⟨t, ht⟩ : ∃ t : Nat, p.2.1 = (t : Int) := ⟨p.2.1.toNat, by omega⟩
  unfold pay
  rw [hf, ht, Int.toNat_natCast, Int.toNat_natCast, set_sumI (by rw [List.length_set]; omega), set_sumI (by omega)]
  omega
theorem settle_sum {l : List (Int × Int × Int)} (hl : ∀ p ∈ l, dueO p) (d : List Nat) (hd : ∀ i ∈ d, i < l.length) (has : List Int) (hn : has.length = 31) : (settleF l has d).sum = has.sum := by
  induction d generalizing has with
  | nil => rfl
  | cons i d ih =>
    have hi := hd i (by simp)
    have hm : l.getD i default ∈ l := by rw [List.getD_eq_getElem?_getD, List.getElem?_eq_getElem hi]; simp
    rw [settleF, ih (fun j hj => hd j (by simp [hj])) (pay has (l.getD i default)) (by rw [pay_len]; exact hn), pay_sum (hl _ hm) hn]
theorem mem_nn {zs : List Int} (hn : zs.length = 31) (h : ∀ q, q < 31 → ¬ zs.getD q 0 < 0) : ∀ z ∈ zs, 0 ≤ z := by
  intro z hz
  obtain ⟨j, hj, e⟩ := List.mem_iff_getElem.1 hz
  have := h j (by omega)
  rw [List.getD_eq_getElem?_getD, List.getElem?_eq_getElem hj, e] at this
  simpa using this
theorem negI_none {zs : List Int} (hn : zs.length = 31) (h : ∀ q, q < 31 → ¬ zs.getD q 0 < 0) : negI zs = -1 := by
  rcases negI_cases zs with ⟨h1, _⟩ | ⟨k, h1, _, h2⟩
  · exact h1
  · exact absurd h2 (h k (by omega))
/-- what is known of a settlement that goes -/
theorem fair_sums {has : List Int} {ps : List (Int × Int × Int)} (hg : gridE has ps = 0) {ds : List Nat} (hd : ∀ i ∈ ds, i < ps.length) (h : ∀ q, q < 31 → ¬ (settleF ps has ds).getD q 0 < 0) :
    (∀ z ∈ has, 0 ≤ z) ∧ has.sum ≤ 4611686018427387904 ∧ (settleF ps has ds).length = 31 ∧ (∀ z ∈ settleF ps has ds, 0 ≤ z) ∧ (settleF ps has ds).sum = has.sum ∧ negI (settleF ps has ds) = -1 := by
  obtain ⟨h31, hz, hm, hdu, hs⟩ := grid_0 hg
  have h1 := (settle_len ps ds has).trans h31
  have h2 := amt_t hs
  have h3 := (duesS_bd hdu).1
  exact ⟨fun z h => (has_t (hz z h)).1, by omega, h1, mem_nn h1 h, settle_sum hdu ds hd has h31, negI_none h1 h⟩

end Go.Proofs.Ytbfeojdlaajpdaa
