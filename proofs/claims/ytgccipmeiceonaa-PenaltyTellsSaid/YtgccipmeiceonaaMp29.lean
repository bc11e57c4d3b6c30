/-
  Merged: MergeMath.
-/
import Derived.Test.YtgccipmeiceonaaMp28
-- MergeMath
namespace Go.Proofs.Ytgccipmeiceonaa

/-- the sum of the amounts at a place -/
def sumAt : List (Int × Int × Int) → Int → Int → Int
  | [], _, _ => 0
  | p :: l, a, u => (if p.1 = a ∧ p.2.1 = u then p.2.2 else 0) + sumAt l a u
theorem sumAt_append (l m : List (Int × Int × Int)) (a u : Int) : sumAt (l ++ m) a u = sumAt l a u + sumAt m a u := by
  induction l with
  | nil => simp [sumAt]
  | cons p l ih => simp only [List.cons_append, sumAt, ih]; omega
theorem sumAt_perm {l m : List (Int × Int × Int)} (h : l.Perm m) (a u : Int) : sumAt l a u = sumAt m a u := by
  induction h with
  | nil => rfl
  | cons p _ ih => simp only [sumAt, ih]
  | swap p q l => simp only [sumAt]; omega
  | trans _ _ ih1 ih2 => exact ih1.trans ih2
theorem sumAt_none {l : List (Int × Int × Int)} {a u : Int} (h : ∀ p ∈ l, ¬ (p.1 = a ∧ p.2.1 = u)) : sumAt l a u = 0 := by
  induction l with
  | nil => rfl
  | cons p l ih => rw [sumAt, if_neg (h p (by simp)), ih fun q hq => h q (by simp [hq])]; rfl
theorem sumAt_all {l : List (Int × Int × Int)} {a u : Int} (h : ∀ p ∈ l, p.1 = a ∧ p.2.1 = u) : sumAt l a u = (l.map (·.2.2)).sum := by
  induction l with
  | nil => rfl
  | cons p l ih => rw [sumAt, if_pos (h p (by simp)), ih fun q hq => h q (by simp [hq])]; simp

/-- what stands in the book that these postings make: of each place whose sum is not nothing its line, in their order -/
structure IsBook (R T : List (Int × Int × Int)) : Prop where
  strict : Strict (-1) R
  mem : ∀ p, p ∈ R ↔ (ptB p = true ∧ p.2.2 = sumAt T p.1 p.2.1)

theorem strict_mono {b c : Int} {l : List (Int × Int × Int)} (h : Strict b l) (hc : c ≤ b) : Strict c l := by
  cases l with
  | nil => trivial
  | cons p l => exact ⟨h.1, by have := h.2.1; omega, h.2.2⟩
theorem strict_snoc {b : Int} {l : List (Int × Int × Int)} {p : Int × Int × Int} (h : Strict b l) (hp : ptB p = true) (hb : b < plc p) (hl : ∀ q ∈ l, plc q < plc p) : Strict b (l ++ [p]) := by
  induction l generalizing b with
  | nil => exact ⟨hp, hb, trivial⟩
  | cons q l ih => exact ⟨h.1, h.2.1, ih h.2.2 (hl q (by simp)) fun r hr => hl r (by simp [hr])⟩
/-- two lists that stand strictly in their order are one if they hold the same -/
theorem strict_ext {b : Int} {l m : List (Int × Int × Int)} (hl : Strict b l) (hm : Strict b m) (h : ∀ p, p ∈ l ↔ p ∈ m) : l = m := by
  induction l generalizing b m with
  | nil =>
    cases m with
    | nil => rfl
    | cons q m => exact absurd ((h q).2 (by simp)) (by simp)
  | cons p l ih =>
    cases m with
    | nil => exact absurd ((h p).1 (by simp)) (by simp)
    | cons q m =>
      have lp := strict_lo hl.2.2
      have lq := strict_lo hm.2.2
      have e : p = q := by
        rcases List.mem_cons.1 ((h p).1 (by simp)) with e | e
        · exact e
        · rcases List.mem_cons.1 ((h q).2 (by simp)) with e' | e'
          · exact e'.symm
          · have := lq p e; have := lp q e'; omega
      subst e
      refine congrArg _ (ih hl.2.2 hm.2.2 fun r => ?_)
      constructor
      · intro hr
        rcases List.mem_cons.1 ((h r).1 (by simp [hr])) with e | e
        · subst e; have := lp r hr; omega
        · exact e
      · intro hr
        rcases List.mem_cons.1 ((h r).2 (by simp [hr])) with e | e
        · subst e; have := lq r hr; omega
        · exact e
theorem book_ext {R R' T T' : List (Int × Int × Int)} (h : IsBook R T) (h' : IsBook R' T') (hT : ∀ a u, sumAt T a u = sumAt T' a u) : R = R' :=
  strict_ext h.strict h'.strict fun p => by rw [h.mem, h'.mem, hT]

/-- so much of the sorted postings is merged -/
structure Merged (s : List (Int × Int × Int)) (k : Nat) (L : List (Int × Int × Int)) : Prop where
  apart : ∀ x ∈ s.take k, ∀ y ∈ s.drop k, plc x < plc y
  strict : Strict (-1) L
  from_ : ∀ q ∈ L, ∃ x ∈ s.take k, plc x = plc q
  mem : ∀ p, p ∈ L ↔ (ptB p = true ∧ p.2.2 = sumAt (s.take k) p.1 p.2.1)
  few : L.length ≤ k
  ok : ∀ a u, amtB (sumAt (s.take k) a u) = true
theorem merged_start (s : List (Int × Int × Int)) : Merged s 0 [] :=
  ⟨by simp, trivial, by simp, fun p => ⟨by simp, fun ⟨h, e⟩ => by have := pt_t h; simp [sumAt] at e; omega⟩, Nat.le_refl _, fun a u => by simp [sumAt, amtB]⟩
theorem merged_end {s L : List (Int × Int × Int)} (h : Merged s s.length L) : IsBook L s ∧ ∀ a u, amtB (sumAt s a u) = true :=
  ⟨⟨h.strict, fun p => by have := h.mem p; rwa [List.take_length] at this⟩, fun a u => by have := h.ok a u; rwa [List.take_length] at this⟩

/-- the postings from k up to j -/
def seg (s : List (Int × Int × Int)) (k j : Nat) : List (Int × Int × Int) := (s.drop k).take (j - k)
theorem take_seg (s : List (Int × Int × Int)) {k j : Nat} (h : k ≤ j) : s.take j = s.take k ++ seg s k j := by
  unfold seg
  rw [← List.take_add, show k + (j - k) = j by omega]
theorem drop_seg (s : List (Int × Int × Int)) {k j : Nat} (h : k ≤ j) : s.drop k = seg s k j ++ s.drop j := by
  unfold seg
  have := List.take_append_drop (j - k) (s.drop k)
  rw [List.drop_drop, show k + (j - k) = j by omega] at this
  exact this.symm
theorem seg_succ (s : List (Int × Int × Int)) {k j : Nat} (h : k ≤ j) (hj : j < s.length) : seg s k (j + 1) = seg s k j ++ [s.getD j default] := by
  unfold seg
  rw [show j + 1 - k = j - k + 1 by omega, List.take_succ_eq_append_getElem (by rw [List.length_drop]; omega), List.getElem_drop, List.getD_eq_getElem?_getD, List.getElem?_eq_getElem hj]
  simp [show k + (j - k) = j by omega]
theorem seg_self (s : List (Int × Int × Int)) (k : Nat) : seg s k k = [] := by unfold seg; simp
theorem getD_in {s : List (Int × Int × Int)} {k : Nat} (h : k < s.length) : s.getD k default ∈ s.drop k := by
  rw [List.getD_eq_getElem?_getD, List.getElem?_eq_getElem h, List.drop_eq_getElem_cons h]; exact List.mem_cons_self

theorem seg_sum {s : List (Int × Int × Int)} {k j : Nat} {p : Int × Int × Int} (hp : ∀ x ∈ s, ptB x = true) (hpp : ptB p = true) (hs : ∀ x ∈ seg s k j, plc x = plc p) : sumAt (seg s k j) p.1 p.2.1 = ((seg s k j).map (·.2.2)).sum :=
  sumAt_all fun x hx => plc_inj (hp x (List.mem_of_mem_drop (List.mem_of_mem_take hx))) hpp (hs x hx)

/-- a place is done: what is summed is all that stands there -/
theorem merged_sum {s L : List (Int × Int × Int)} {k j : Nat} {p : Int × Int × Int} (h : Merged s k L) (hp : ∀ x ∈ s, ptB x = true) (hpp : ptB p = true) (hk : k < s.length) (hkj : k < j) (e : p = s.getD k default) (hs : ∀ x ∈ seg s k j, plc x = plc p) (hr : ∀ y ∈ s.drop j, plc p < plc y) :
    sumAt (s.take k) p.1 p.2.1 = 0 ∧ sumAt s p.1 p.2.1 = ((seg s k j).map (·.2.2)).sum := by
  have h0 : sumAt (s.take k) p.1 p.2.1 = 0 := sumAt_none fun x hx q => by
    have := h.apart x hx p (by rw [e]; exact getD_in hk)
    unfold plc at this
    rw [q.1, q.2] at this
    omega
  refine ⟨h0, ?_⟩
  have h1 : sumAt (s.drop j) p.1 p.2.1 = 0 := sumAt_none fun x hx q => by
    have := hr x hx
    unfold plc at this
    rw [q.1, q.2] at this
    omega
  have h2 : s = s.take k ++ (seg s k j ++ s.drop j) := by rw [← drop_seg s (by omega)]; exact (List.take_append_drop k s).symm
  calc sumAt s p.1 p.2.1 = sumAt (s.take k ++ (seg s k j ++ s.drop j)) p.1 p.2.1 := by rw [← h2]
    _ = _ := by rw [sumAt_append, sumAt_append, h0, h1, seg_sum hp hpp hs]; omega

theorem merged_step {s L : List (Int × Int × Int)} {k j : Nat} {p : Int × Int × Int} (h : Merged s k L) (hp : ∀ x ∈ s, ptB x = true) (hpp : ptB p = true) (hk : k < s.length) (hkj : k < j) (e : p = s.getD k default) (hs : ∀ x ∈ seg s k j, plc x = plc p) (hr : ∀ y ∈ s.drop j, plc p < plc y) (hS : amtB ((seg s k j).map (·.2.2)).sum = true) :
    (((seg s k j).map (·.2.2)).sum = 0 → Merged s j L) ∧ (((seg s k j).map (·.2.2)).sum ≠ 0 → Merged s j (L ++ [(p.1, p.2.1, ((seg s k j).map (·.2.2)).sum)])) := by
  have ts := take_seg s (show k ≤ j by omega)
  have hpd : p ∈ s.drop k := by rw [e]; exact getD_in hk
  have hm := merged_sum h hp hpp hk hkj e hs hr
  have hap : ∀ x ∈ s.take j, ∀ y ∈ s.drop j, plc x < plc y := fun x hx y hy => by
    rw [ts] at hx
    rcases List.mem_append.1 hx with hx | hx
    · exact h.apart x hx y (by rw [drop_seg s (show k ≤ j by omega)]; exact List.mem_append_right _ hy)
    · rw [hs x hx]; exact hr y hy
  have hlow : ∀ q ∈ L, plc q < plc p := fun q hq => by
    obtain ⟨x, hx, ex⟩ := h.from_ q hq
    rw [← ex]
    exact h.apart x hx p hpd
  have hsum : ∀ a u, sumAt (s.take j) a u = sumAt (s.take k) a u + sumAt (seg s k j) a u := fun a u => by rw [ts, sumAt_append]
  have hoff : ∀ a u, ¬ (p.1 = a ∧ p.2.1 = u) → sumAt (seg s k j) a u = 0 := fun a u hne => sumAt_none fun x hx q => hne (by
    have := plc_inj (hp x (List.mem_of_mem_drop (List.mem_of_mem_take hx))) hpp (hs x hx)
    omega)
  have hfrom : ∀ q ∈ L, ∃ x ∈ s.take j, plc x = plc q := fun q hq => by
    obtain ⟨x, hx, ex⟩ := h.from_ q hq
    exact ⟨x, by rw [ts]; exact List.mem_append_left _ hx, ex⟩
  have hon := seg_sum hp hpp hs
  have hok : ∀ a u, amtB (sumAt (s.take j) a u) = true := fun a u => by
    rw [hsum]
    by_cases hq : p.1 = a ∧ p.2.1 = u
    · rw [← hq.1, ← hq.2, hm.1, hon, Int.zero_add]; exact hS
    · rw [hoff _ _ hq, Int.add_zero]; exact h.ok a u
  generalize ((seg s k j).map (·.2.2)).sum = S at *
  constructor
  · intro h0
    refine ⟨hap, h.strict, hfrom, fun q => ?_, by have := h.few; omega, hok⟩
    rw [h.mem, hsum]
    by_cases hq : p.1 = q.1 ∧ p.2.1 = q.2.1
    · rw [← hq.1, ← hq.2, hon, h0]; simp
    · rw [hoff _ _ hq]; simp
  · intro h0
    have pt := pt_t hpp
    have hn : ptB (p.1, p.2.1, S) = true := pt_mk ⟨pt.1, pt.2.1, pt.2.2.1, pt.2.2.2.1, h0, (amt_t hS).1, (amt_t hS).2⟩
    have hpl : plc (p.1, p.2.1, S) = plc p := rfl
    refine ⟨hap, strict_snoc h.strict hn (by rw [hpl]; have := plc_bd hpp; omega) (fun q hq => by rw [hpl]; exact hlow q hq), fun q hq => ?_, fun q => ?_, by rw [List.length_append, List.length_singleton]; have := h.few; omega, hok⟩
    · rcases List.mem_append.1 hq with hq | hq
      · exact hfrom q hq
      · rw [List.mem_singleton.1 hq]
        refine ⟨p, ?_, rfl⟩
        have : s.getD k default ∈ s.take j := by
          rw [List.getD_eq_getElem?_getD, List.getElem?_eq_getElem hk]
          exact List.mem_take_iff_getElem.2 ⟨k, by omega, by simp⟩
        rw [e]; exact this
    · rw [List.mem_append, List.mem_singleton, h.mem, hsum]
      by_cases hq : p.1 = q.1 ∧ p.2.1 = q.2.1
      · rw [← hq.1, ← hq.2, hon, hm.1]
        obtain ⟨q0, q1, q2⟩ := q
        obtain ⟨e0, e1⟩ := hq
        simp only at e0 e1
        subst e0; subst e1
        constructor
        · rintro (⟨h1, h2⟩ | h1)
          · have := pt_t h1; simp only at h2 this; omega
          · injection h1 with _ h1; injection h1 with _ h1
            subst h1
            exact ⟨hn, by simp⟩
        · rintro ⟨h1, h2⟩
          refine .inr ?_
          simp only at h2
          rw [h2]; simp
      · rw [hoff _ _ hq]
        constructor
        · rintro (h1 | h1)
          · simpa using h1
          · subst h1; exact absurd ⟨rfl, rfl⟩ hq
        · intro h1; exact .inl (by simpa using h1)

end Go.Proofs.Ytgccipmeiceonaa
