/-
  Plain arithmetic of the document's settlement: first ones first, and nothing left out that could be paid.
-/
import Derived.Test.YtbfeojdlaajpdaaGridH
namespace Go.Proofs.Ytbfeojdlaajpdaa
set_option linter.unusedVariables false

theorem incN_ge {a : Nat} {d : List Nat} (h : incN a d) : ∀ i ∈ d, a ≤ i := by
  induction d generalizing a with
  | nil => simp
  | cons x d ih =>
    intro i hi
    have := h.1
    rcases List.mem_cons.1 hi with rfl | hi
    · exact h.1
    · have := ih h.2 i hi; omega
theorem incN_lt {a : Nat} {d : List Nat} (h : incN a d) {j k : Nat} (hjk : j < k) (hk : k < d.length) : d.getD j 0 < d.getD k 0 := by
  induction d generalizing a j k with
  | nil => simp at hk
  | cons x d ih =>
    cases k with
    | zero => omega
    | succ k =>
      have hk' : k < d.length := by simpa using hk
      cases j with
      | zero =>
        have hm : d.getD k 0 ∈ d := by rw [List.getD_eq_getElem?_getD, List.getElem?_eq_getElem hk']; simp
        have := incN_ge h.2 _ hm
        simp only [List.getD_cons_zero, List.getD_cons_succ]; omega
      | succ j => simpa using ih h.2 (show j < k by omega) hk'
theorem mem_at {d : List Nat} {i : Nat} (h : i ∈ d) : ∃ j, j < d.length ∧ d.getD j 0 = i := by
  obtain ⟨j, hj, e⟩ := List.mem_iff_getElem.1 h
  exact ⟨j, hj, by rw [List.getD_eq_getElem?_getD, List.getElem?_eq_getElem hj]; exact e⟩
theorem mem_erase {d : List Nat} {i k : Nat} (h : i ∈ d) (hne : i ≠ d.getD k 0) : i ∈ d.eraseIdx k := by
  obtain ⟨j, hj, e⟩ := List.mem_iff_getElem.1 h
  rw [List.mem_eraseIdx_iff_getElem]
  refine ⟨j, hj, fun e2 => hne ?_, e⟩
  subst e2
  rw [List.getD_eq_getElem?_getD, List.getElem?_eq_getElem hj]
  exact e.symm
/-- of each party the first ones -/
def firsts (ps : List (Int × Int × Int)) (ds : List Nat) : Prop := ∀ i k, i ∈ ds → k < i → (ps.getD k default).1 = (ps.getD i default).1 → k ∈ ds
/-- what is in is a part: where all dues of the party are in, it has no more -/
theorem flows_sub {l : List (Int × Int × Int)} (hl : ∀ p ∈ l, dueO p) (q : Nat) (ds S : List Nat) (a b : Nat) (h1 : incN a ds) (h2 : incN b S) (hs : ∀ i ∈ S, i ∈ ds) (hd : ∀ i ∈ ds, i < l.length) (hq : ∀ i ∈ ds, i ∉ S → (l.getD i default).1 ≠ (q : Int)) : flows l q S ≤ flows l q ds := by
  induction ds generalizing S a b with
  | nil =>
    cases S with
    | nil => exact Int.le_refl _
    | cons j s => have := hs j (by simp); simp at this
  | cons i d ih =>
    cases S with
    | nil => simpa [flows] using flows_pos hl q (i :: d) hd fun x hx => hq x hx (by simp)
    | cons j s =>
      have hge := incN_ge h2.2
      have hgd := incN_ge h1.2
      by_cases e : j = i
      · subst e
        have := ih s (j + 1) (j + 1) h1.2 h2.2 (fun x hx => by
          rcases List.mem_cons.1 (hs x (by simp [hx])) with rfl | h
          · have := hge x hx; omega
          · exact h) (fun x hx => hd x (by simp [hx])) fun x hx hn => hq x (by simp [hx]) (by
            have := hgd x hx
            simp only [List.mem_cons, not_or]
            exact ⟨by omega, hn⟩)
        simp only [flows]; omega
      · have hj : j ∈ d := by
          rcases List.mem_cons.1 (hs j (by simp)) with h | h
          · exact absurd h e
          · exact h
        have hji := hgd j hj
        have hi : i ∉ j :: s := by
          simp only [List.mem_cons, not_or]
          refine ⟨by omega, fun h => ?_⟩
          have := hge i h; omega
        have := ih (j :: s) (i + 1) b h1.2 h2 (fun x hx => by
          rcases List.mem_cons.1 (hs x hx) with rfl | h
          · exact absurd hx hi
          · exact h) (fun x hx => hd x (by simp [hx])) fun x hx hn => hq x (by simp [hx]) hn
        have h3 := hq i (by simp) hi
        have h4 := due_t (hl _ (getP_mem (hd i (by simp)))).1
        have h5 : 0 ≤ flow (l.getD i default) q := by
          unfold flow; rw [if_neg h3]; split <;> omega
        rw [show flows l q (i :: d) = flow (l.getD i default) q + flows l q d from rfl]
        omega
/-- nothing that could be paid at once, first ones first, is left out -/
theorem kept_max {has : List Int} {ps : List (Int × Int × Int)} (hg : gridE has ps = 0) {S : List Nat} (hS : okD ps.length S) (hF : firsts ps S) (hN : ∀ q, q < 31 → ¬ (settleF ps has S).getD q 0 < 0) : keptS has ps (fun ds => ∀ i ∈ S, i ∈ ds) := by
  obtain ⟨h31, -, -, hdu, -⟩ := grid_0 hg
  intro ds q k hsub hok hq hs hk h1 h2 i hi
  refine mem_erase (hsub i hi) fun e => ?_
  subst e
  have hall : ∀ i ∈ ds, i ∉ S → (ps.getD i default).1 ≠ (q : Int) := by
    intro x hx hn he
    obtain ⟨j, hj, rfl⟩ := mem_at hx
    rcases Nat.lt_trichotomy j k with h | h | h
    · exact hn (hF _ _ hi (incN_lt hok.1 h hk) (he.trans h1.symm))
    · subst h; exact hn hi
    · exact h2 j h hj he
  have h3 := flows_sub hdu q ds S 0 0 hok.1 hS.1 hsub hok.2 hall
  have h4 := hN q hq
  rw [settle_at hdu S hS.2 has h31 q hq] at h4
  rw [settle_at hdu ds hok.2 has h31 q hq] at hs
  omega
/-- of each party the first ones are done -/
theorem kept_firsts {has : List Int} {ps : List (Int × Int × Int)} : keptS has ps (firsts ps) := by
  intro ds q k hF hok hq hs hk h1 h2 i x hi hx he
  have hi' := List.mem_of_mem_eraseIdx hi
  refine mem_erase (hF i x hi' hx he) fun e => ?_
  subst e
  obtain ⟨j, hj, rfl⟩ := mem_at hi'
  rcases Nat.lt_trichotomy j k with h | h | h
  · have := incN_lt hok.1 h hk; omega
  · subst h; omega
  · exact h2 j h hj (he.symm.trans h1)
theorem firsts_range (ps : List (Int × Int × Int)) : firsts ps (List.range ps.length) := by
  intro i k hi hk _
  have := List.mem_range.1 hi
  exact List.mem_range.2 (by omega)
theorem keptS_and {has : List Int} {ps : List (Int × Int × Int)} {I J : List Nat → Prop} (hI : keptS has ps I) (hJ : keptS has ps J) : keptS has ps (fun ds => I ds ∧ J ds) :=
  fun ds q k h a b c d e f => ⟨hI ds q k h.1 a b c d e f, hJ ds q k h.2 a b c d e f⟩

end Go.Proofs.Ytbfeojdlaajpdaa
