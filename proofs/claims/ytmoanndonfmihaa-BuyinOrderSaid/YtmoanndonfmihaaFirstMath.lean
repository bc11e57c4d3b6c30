/-
  The plain mathematics of the first ones of an order: places sorted by a key, the earlier first of equals.
-/
import Derived.Test.YtmoanndonfmihaaStabMath3
import Derived.Test.YtmoanndonfmihaaPartsMath
namespace Go.Proofs.Ytmoanndonfmihaa
set_option linter.unusedVariables false

/-- by a key, and of as great a key the earlier place -/
def lxK (k : Int → Int) (x y : Int) : Prop := k x < k y ∨ (k x = k y ∧ x < y)
theorem lxK_tr {k : Int → Int} (x y z : Int) (h : lxK k x y) (g : lxK k y z) : lxK k x z := by unfold lxK at *; omega
theorem lxK_no {k : Int → Int} {x y : Int} (h : lxK k x y) (g : lxK k y x) : False := by unfold lxK at *; omega
theorem lxK_irr {k : Int → Int} {x : Int} (h : lxK k x x) : False := lxK_no h h
theorem lxK_tot {k : Int → Int} {x y : Int} (h : x ≠ y) : lxK k x y ∨ lxK k y x := by unfold lxK; omega
theorem keyed_of {N : Nat} {cf : Int → Int → Int} {k : Int → Int} (h : ∀ x y : Int, 0 ≤ x → x < N → 0 ≤ y → y < N → (cf x y < 0 ↔ k x < k y)) : Keyed N cf (lxK k) where
  tr := lxK_tr
  lt := fun x y x0 x1 y0 y1 _ c => .inl ((h y x y0 y1 x0 x1).1 c)
  ge := fun x y x0 x1 y0 y1 l c => by
    have : ¬ k y < k x := fun g => c ((h y x y0 y1 x0 x1).2 g)
    unfold lxK; omega
/-- an order of the n places -/
structure Ordd (n : Nat) (k : Int → Int) (os : List Int) : Prop where
  perm : os.Perm (iota n)
  sorted : os.Pairwise (lxK k)
theorem Ordd.len {n : Nat} {k : Int → Int} {os : List Int} (h : Ordd n k os) : os.length = n := by rw [h.perm.length_eq, iota_len]
theorem Ordd.mem {n : Nat} {k : Int → Int} {os : List Int} (h : Ordd n k os) {x : Int} : x ∈ os ↔ 0 ≤ x ∧ x < n := by rw [h.perm.mem_iff, iota_mem]
theorem Ordd.nodup {n : Nat} {k : Int → Int} {os : List Int} (h : Ordd n k os) : os.Nodup := h.sorted.imp (fun g e => by subst e; exact lxK_irr g)
theorem Ordd.bd {n : Nat} {k : Int → Int} {os : List Int} (h : Ordd n k os) {j : Nat} (hj : j < os.length) : 0 ≤ os.getD j 0 ∧ os.getD j 0 < n := by
  have : os.getD j 0 ∈ os := by rw [List.getD_eq_getElem?_getD, List.getElem?_eq_getElem hj]; simp
  exact h.mem.1 this
/-- who stands ahead of one that is among the first ones is among them, too -/
theorem Ordd.first {n : Nat} {k : Int → Int} {os : List Int} (h : Ordd n k os) {t : Nat} {x y : Int} (hx : 0 ≤ x ∧ x < n) (hl : lxK k x y) (hy : y ∈ os.take t) : x ∈ os.take t := by
  have hx' := h.mem.2 hx
  rw [← List.take_append_drop t os] at hx'
  rcases List.mem_append.1 hx' with g | g
  · exact g
  · exfalso
    have hs := h.sorted
    rw [← List.take_append_drop t os] at hs
    exact lxK_no hl ((List.pairwise_append.1 hs).2.2 y hy x g)
/-- who is among the first ones stands ahead of who is not -/
theorem Ordd.ahead {n : Nat} {k : Int → Int} {os : List Int} (h : Ordd n k os) {t : Nat} {x y : Int} (hx : x ∈ os.take t) (hy : 0 ≤ y ∧ y < n) (hn : y ∉ os.take t) : lxK k x y := by
  have hy' := h.mem.2 hy
  rw [← List.take_append_drop t os] at hy'
  rcases List.mem_append.1 hy' with g | g
  · exact absurd g hn
  · have hs := h.sorted
    rw [← List.take_append_drop t os] at hs
    exact (List.pairwise_append.1 hs).2.2 x hx y g

/-- the order itself -/
def leK (k : Int → Int) (x y : Int) : Bool := decide (k x < k y ∨ (k x = k y ∧ x ≤ y))
def ordK (n : Nat) (k : Int → Int) : List Int := (iota n).mergeSort (leK k)
theorem ordK_is (n : Nat) (k : Int → Int) : Ordd n k (ordK n k) where
  perm := List.mergeSort_perm _ _
  sorted := by
    have h1 : (ordK n k).Pairwise (fun a b => leK k a b = true) := List.pairwise_mergeSort (fun a b c h g => by
      have h := of_decide_eq_true h
      have g := of_decide_eq_true g
      exact decide_eq_true (by omega)) (fun a b => by
      by_cases h : leK k a b = true
      · rw [h]; rfl
      · have h' := of_decide_eq_false (by simpa using h : leK k a b = false)
        rw [show leK k b a = true from decide_eq_true (by omega), Bool.or_true]) _
    have h2 : (ordK n k).Pairwise (fun a b => a ≠ b) := (List.mergeSort_perm (iota n) (leK k)).nodup_iff.2 ((iota_sorted n).imp (fun h => by omega))
    refine (h1.and h2).imp (fun {a b} h => ?_)
    have h3 := of_decide_eq_true h.1
    have h4 := h.2
    unfold lxK; omega
theorem Ordd.eq {n : Nat} {k : Int → Int} {os : List Int} (h : Ordd n k os) : os = ordK n k :=
  List.Perm.eq_of_pairwise (fun a b _ _ h g => (lxK_no h g).elim) h.sorted (ordK_is n k).sorted (h.perm.trans (ordK_is n k).perm.symm)

/-- what each has with one more for these -/
theorem bump_at : ∀ (os ps : List Int) (j : Nat), os.Nodup → (∀ o ∈ os, 0 ≤ o ∧ o < ps.length) → (bump ps os).getD j 0 = ps.getD j 0 + if (j : Int) ∈ os then 1 else 0 := by
  intro os
  induction os with
  | nil => intro ps j _ _; simp [bump]
  | cons o os ih =>
    intro ps j hn hb
    have hn' := List.nodup_cons.1 hn
    have ho := hb o (by simp)
    show (bump (give ps o.toNat) os).getD j 0 = _
    rw [ih (give ps o.toNat) j hn'.2 (fun x hx => by rw [give_len]; exact hb x (by simp [hx])), give_at _ _ _ (by omega)]
    by_cases h : o.toNat = j
    · have e : (j : Int) = o := by omega
      rw [e, if_neg hn'.1, if_pos (show j = o.toNat by omega), if_pos List.mem_cons_self]; omega
    · have e : (j : Int) ≠ o := by omega
      rw [if_neg (show ¬ j = o.toNat by omega)]
      simp [e]
theorem bump_sum : ∀ (os ps : List Int), (∀ o ∈ os, 0 ≤ o ∧ o < ps.length) → (bump ps os).sum = ps.sum + os.length := by
  intro os
  induction os with
  | nil => intro ps _; simp [bump]
  | cons o os ih =>
    intro ps hb
    have ho := hb o (by simp)
    show (bump (give ps o.toNat) os).sum = _
    rw [ih _ (fun x hx => by rw [give_len]; exact hb x (by simp [hx])), give_sum _ _ (by omega), List.length_cons]; omega

end Go.Proofs.Ytmoanndonfmihaa
