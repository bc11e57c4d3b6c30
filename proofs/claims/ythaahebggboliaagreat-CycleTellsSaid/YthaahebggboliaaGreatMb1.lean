/-
  Merged: BookMath, MergeMath, PostMath, Exact, ExactOf.
-/
import Derived.Test.YthaahebggboliaaGreatMd
import Derived.Test.YthaahebggboliaaGreatBase
import Derived.Test.YthaahebggboliaaGreatBlk
import Derived.Laws.Externs
-- BookMath
namespace Go.Proofs.YthaahebggboliaaGreat

/-- may a posting stand there? -/
def ptB (p : Int × Int × Int) : Bool := decide (0 ≤ p.1 ∧ p.1 ≤ 100 ∧ 0 ≤ p.2.1 ∧ p.2.1 ≤ 20 ∧ p.2.2 ≠ 0 ∧ -1152921504606846976 ≤ p.2.2 ∧ p.2.2 ≤ 1152921504606846976)
theorem pt_t {p : Int × Int × Int} (h : ptB p = true) : 0 ≤ p.1 ∧ p.1 ≤ 100 ∧ 0 ≤ p.2.1 ∧ p.2.1 ≤ 20 ∧ p.2.2 ≠ 0 ∧ -1152921504606846976 ≤ p.2.2 ∧ p.2.2 ≤ 1152921504606846976 := of_decide_eq_true h
theorem pt_f {p : Int × Int × Int} (h : ptB p = false) : ¬ (0 ≤ p.1 ∧ p.1 ≤ 100 ∧ 0 ≤ p.2.1 ∧ p.2.1 ≤ 20 ∧ p.2.2 ≠ 0 ∧ -1152921504606846976 ≤ p.2.2 ∧ p.2.2 ≤ 1152921504606846976) := of_decide_eq_false h
theorem pt_mk {p : Int × Int × Int} (h : 0 ≤ p.1 ∧ p.1 ≤ 100 ∧ 0 ≤ p.2.1 ∧ p.2.1 ≤ 20 ∧ p.2.2 ≠ 0 ∧ -1152921504606846976 ≤ p.2.2 ∧ p.2.2 ≤ 1152921504606846976) : ptB p = true := decide_eq_true h
theorem pt_no {p : Int × Int × Int} (h : ¬ (0 ≤ p.1 ∧ p.1 ≤ 100 ∧ 0 ≤ p.2.1 ∧ p.2.1 ≤ 20 ∧ p.2.2 ≠ 0 ∧ -1152921504606846976 ≤ p.2.2 ∧ p.2.2 ≤ 1152921504606846976)) : ptB p = false := decide_eq_false h

/-- the number of an account and its unit in the order of a book -/
def plc (p : Int × Int × Int) : Int := p.1 * 21 + p.2.1
theorem plc_inj {p q : Int × Int × Int} (hp : ptB p = true) (hq : ptB q = true) (h : plc p = plc q) : p.1 = q.1 ∧ p.2.1 = q.2.1 := by
  have h1 := pt_t hp; have h2 := pt_t hq; unfold plc at h; omega
theorem plc_bd {p : Int × Int × Int} (hp : ptB p = true) : 0 ≤ plc p ∧ plc p ≤ 2120 := by
  have h1 := pt_t hp; unfold plc; omega

/-- the sum of a unit's amounts -/
def unitS : List (Int × Int × Int) → Nat → Int
  | [], _ => 0
  | p :: l, u => (if p.2.1 = (u : Int) then p.2.2 else 0) + unitS l u
theorem unitS_append (l m : List (Int × Int × Int)) (u : Nat) : unitS (l ++ m) u = unitS l u + unitS m u := by
  induction l with
  | nil => simp [unitS]
  | cons p l ih => simp only [List.cons_append, unitS, ih]; omega
theorem unitS_bd {l : List (Int × Int × Int)} (h : ∀ p ∈ l, ptB p = true) (u : Nat) : -(1152921504606846976 * (l.length : Int)) ≤ unitS l u ∧ unitS l u ≤ 1152921504606846976 * (l.length : Int) := by
  induction l with
  | nil => simp [unitS]
  | cons p l ih =>
    have h1 := ih fun z hz => h z (by simp [hz])
    have h2 := pt_t (h p (by simp))
    rw [unitS, List.length_cons]
    split <;> omega
/-- all units come out even -/
def evnB (l : List (Int × Int × Int)) : Bool := (List.range 21).all fun u => decide (unitS l u = 0)
theorem evn_t {l : List (Int × Int × Int)} (h : evnB l = true) (u : Nat) (hu : u < 21) : unitS l u = 0 := by
  have := List.all_eq_true.1 h u (List.mem_range.2 hu)
  exact of_decide_eq_true this
theorem evn_mk {l : List (Int × Int × Int)} (h : ∀ u, u < 21 → unitS l u = 0) : evnB l = true :=
  List.all_eq_true.2 fun u hu => decide_eq_true (h u (List.mem_range.1 hu))
theorem evn_f {l : List (Int × Int × Int)} (h : evnB l = false) : ∃ u, u < 21 ∧ unitS l u ≠ 0 := by
  obtain ⟨u, hu, h'⟩ := List.all_eq_false.1 h
  exact ⟨u, List.mem_range.1 hu, fun e => h' (decide_eq_true e)⟩

/-- what checkEven answers -/
def evnE (l : List (Int × Int × Int)) : Int := if evnB l then 0 else 4
theorem evnE_t {l : List (Int × Int × Int)} (h : evnB l = true) : evnE l = 0 := by unfold evnE; rw [h]; rfl
theorem evnE_f {l : List (Int × Int × Int)} (h : evnB l = false) : evnE l = 4 := by unfold evnE; rw [h]; rfl
/-- the error of postings -/
def chkE (l : List (Int × Int × Int)) : Int := if l = [] then 1 else if 60 < l.length then 2 else if l.all ptB then (if evnB l then 0 else 4) else 3
/-- the error of the first line that stands wrong behind a place -/
def ordE : Int → List (Int × Int × Int) → Int
  | _, [] => 0
  | b, p :: l => if ptB p then (if plc p ≤ b then 4 else ordE (plc p) l) else 3
/-- the error of a book -/
def linE (l : List (Int × Int × Int)) : Int := if 400 < l.length then 2 else if ordE (-1) l = 0 then (if evnB l then 0 else 4) else ordE (-1) l

theorem chk_0 {l : List (Int × Int × Int)} (h : chkE l = 0) : 0 < l.length ∧ l.length ≤ 60 ∧ (∀ p ∈ l, ptB p = true) ∧ evnB l = true := by
  unfold chkE at h
  split at h
  · omega
  · next h0 =>
    split at h
    · omega
    · next h1 =>
      split at h
      · next h2 =>
        split at h
        · next h3 => exact ⟨List.length_pos_iff.2 h0, by omega, List.all_eq_true.1 h2, h3⟩
        · omega
      · omega
theorem chk_mk {l : List (Int × Int × Int)} (h0 : 0 < l.length) (h1 : l.length ≤ 60) (h2 : ∀ p ∈ l, ptB p = true) (h3 : evnB l = true) : chkE l = 0 := by
  unfold chkE
  rw [if_neg (List.length_pos_iff.1 h0), if_neg (by omega), if_pos (List.all_eq_true.2 h2), if_pos h3]
theorem chk_bd (l : List (Int × Int × Int)) : 0 ≤ chkE l ∧ chkE l ≤ 4 := by
  unfold chkE; split <;> (try split) <;> (try split) <;> (try split) <;> omega
theorem ord_bd (b : Int) (l : List (Int × Int × Int)) : ordE b l = 0 ∨ ordE b l = 3 ∨ ordE b l = 4 := by
  induction l generalizing b with
  | nil => exact .inl rfl
  | cons p l ih =>
    unfold ordE
    split
    · split
      · simp
      · exact ih _
    · simp
theorem lin_bd (l : List (Int × Int × Int)) : 0 ≤ linE l ∧ linE l ≤ 4 := by
  unfold linE
  rcases ord_bd (-1) l with h | h | h <;> rw [h] <;> split <;> (try split) <;> (try split) <;> omega
/-- each stands behind the ones ahead of it, and behind place b -/
def Strict : Int → List (Int × Int × Int) → Prop
  | _, [] => True
  | b, p :: l => ptB p = true ∧ b < plc p ∧ Strict (plc p) l
theorem ord_0 {b : Int} {l : List (Int × Int × Int)} : ordE b l = 0 ↔ Strict b l := by
  induction l generalizing b with
  | nil => simp [ordE, Strict]
  | cons p l ih =>
    unfold ordE Strict
    split
    · next h =>
      split
      · next h2 => simp [h]; omega
      · next h2 => simp only [h, true_and]; rw [ih]; exact ⟨fun q => ⟨by omega, q⟩, fun q => q.2⟩
    · next h => simp [h]
theorem strict_pt {b : Int} {l : List (Int × Int × Int)} (h : Strict b l) : ∀ p ∈ l, ptB p = true := by
  induction l generalizing b with
  | nil => simp
  | cons p l ih =>
    intro q hq
    rcases List.mem_cons.1 hq with rfl | hq
    · exact h.1
    · exact ih h.2.2 q hq
theorem strict_lo {b : Int} {l : List (Int × Int × Int)} (h : Strict b l) : ∀ p ∈ l, b < plc p := by
  induction l generalizing b with
  | nil => simp
  | cons p l ih =>
    intro q hq
    rcases List.mem_cons.1 hq with rfl | hq
    · exact h.2.1
    · exact Int.lt_trans h.2.1 (ih h.2.2 q hq)
theorem lin_0 {l : List (Int × Int × Int)} (h : linE l = 0) : l.length ≤ 400 ∧ Strict (-1) l ∧ evnB l = true := by
  unfold linE at h
  split at h
  · omega
  · split at h
    · next h1 =>
      split at h
      · next h2 => exact ⟨by omega, ord_0.1 h1, h2⟩
      · omega
    · omega
theorem lin_mk {l : List (Int × Int × Int)} (h0 : l.length ≤ 400) (h1 : Strict (-1) l) (h2 : evnB l = true) : linE l = 0 := by
  unfold linE
  rw [if_neg (by omega), if_pos (ord_0.2 h1), if_pos h2]

end Go.Proofs.YthaahebggboliaaGreat

-- MergeMath
namespace Go.Proofs.YthaahebggboliaaGreat

/-- the sum of the amounts at a place -/
def sumAt : List (Int × Int × Int) → Int → Int → Int
  | [], _, _ => 0
  | p :: l, a, u => (if p.1 = a ∧ p.2.1 = u then p.2.2 else 0) + sumAt l a u
theorem sumAt_append (l m : List (Int × Int × Int)) (a u : Int) : sumAt (l ++ m) a u = sumAt l a u + sumAt m a u := by
  induction l with
  | nil => simp [sumAt]
  | cons p l ih => simp only [List.cons_append, sumAt, ih]; omega
theorem sumAt_perm {l m : List (Int × Int × Int)} (h : l.Perm m) (a u : Int) : sumAt l a u = sumAt m a u := by
  induction h with
  | nil => rfl
  | cons p _ ih => simp only [sumAt, ih]
  | swap p q l => simp only [sumAt]; omega
  | trans _ _ ih1 ih2 => exact ih1.trans ih2
theorem sumAt_none {l : List (Int × Int × Int)} {a u : Int} (h : ∀ p ∈ l, ¬ (p.1 = a ∧ p.2.1 = u)) : sumAt l a u = 0 := by
  induction l with
  | nil => rfl
  | cons p l ih => rw [sumAt, if_neg (h p (by simp)), ih fun q hq => h q (by simp [hq])]; rfl
theorem sumAt_all {l : List (Int × Int × Int)} {a u : Int} (h : ∀ p ∈ l, p.1 = a ∧ p.2.1 = u) : sumAt l a u = (l.map (·.2.2)).sum := by
  induction l with
  | nil => rfl
  | cons p l ih => rw [sumAt, if_pos (h p (by simp)), ih fun q hq => h q (by simp [hq])]; simp

/-- what stands in the book that these postings make: of each place whose sum is not nothing its line, in their order -/
structure IsBook (R T : List (Int × Int × Int)) : Prop where
  strict : Strict (-1) R
  mem : ∀ p, p ∈ R ↔ (ptB p = true ∧ p.2.2 = sumAt T p.1 p.2.1)

theorem strict_mono {b c : Int} {l : List (Int × Int × Int)} (h : Strict b l) (hc : c ≤ b) : Strict c l := by
  cases l with
  | nil => trivial
  | cons p l => exact ⟨h.1, by have := h.2.1; omega, h.2.2⟩
theorem strict_snoc {b : Int} {l : List (Int × Int × Int)} {p : Int × Int × Int} (h : Strict b l) (hp : ptB p = true) (hb : b < plc p) (hl : ∀ q ∈ l, plc q < plc p) : Strict b (l ++ [p]) := by
  induction l generalizing b with
  | nil => exact ⟨hp, hb, trivial⟩
  | cons q l ih => exact ⟨h.1, h.2.1, ih h.2.2 (hl q (by simp)) fun r hr => hl r (by simp [hr])⟩
/-- two lists that stand strictly in their order are one if they hold the same -/
theorem strict_ext {b : Int} {l m : List (Int × Int × Int)} (hl : Strict b l) (hm : Strict b m) (h : ∀ p, p ∈ l ↔ p ∈ m) : l = m := by
  induction l generalizing b m with
  | nil =>
    cases m with
    | nil => rfl
    | cons q m => exact absurd ((h q).2 (by simp)) (by simp)
  | cons p l ih =>
    cases m with
    | nil => exact absurd ((h p).1 (by simp)) (by simp)
    | cons q m =>
      have lp := strict_lo hl.2.2
      have lq := strict_lo hm.2.2
      have e : p = q := by
        rcases List.mem_cons.1 ((h p).1 (by simp)) with e | e
        · exact e
        · rcases List.mem_cons.1 ((h q).2 (by simp)) with e' | e'
          · exact e'.symm
          · have := lq p e; have := lp q e'; omega
      subst e
      refine congrArg _ (ih hl.2.2 hm.2.2 fun r => ?_)
      constructor
      · intro hr
        rcases List.mem_cons.1 ((h r).1 (by simp [hr])) with e | e
        · subst e; have := lp r hr; omega
        · exact e
      · intro hr
        rcases List.mem_cons.1 ((h r).2 (by simp [hr])) with e | e
        · subst e; have := lq r hr; omega
        · exact e
theorem book_ext {R R' T T' : List (Int × Int × Int)} (h : IsBook R T) (h' : IsBook R' T') (hT : ∀ a u, sumAt T a u = sumAt T' a u) : R = R' :=
  strict_ext h.strict h'.strict fun p => by rw [h.mem, h'.mem, hT]

/-- so much of the sorted postings is merged -/
structure Merged (s : List (Int × Int × Int)) (k : Nat) (L : List (Int × Int × Int)) : Prop where
  apart : ∀ x ∈ s.take k, ∀ y ∈ s.drop k, plc x < plc y
  strict : Strict (-1) L
  from_ : ∀ q ∈ L, ∃ x ∈ s.take k, plc x = plc q
  mem : ∀ p, p ∈ L ↔ (ptB p = true ∧ p.2.2 = sumAt (s.take k) p.1 p.2.1)
  few : L.length ≤ k
  ok : ∀ a u, amtB (sumAt (s.take k) a u) = true
theorem merged_start (s : List (Int × Int × Int)) : Merged s 0 [] :=
  ⟨by simp, trivial, by simp, fun p => ⟨by simp, fun ⟨h, e⟩ => by have := pt_t h; simp [sumAt] at e; omega⟩, Nat.le_refl _, fun a u => by simp [sumAt, amtB]⟩
theorem merged_end {s L : List (Int × Int × Int)} (h : Merged s s.length L) : IsBook L s ∧ ∀ a u, amtB (sumAt s a u) = true :=
  ⟨⟨h.strict, fun p => by have := h.mem p; rwa [List.take_length] at this⟩, fun a u => by have := h.ok a u; rwa [List.take_length] at this⟩

/-- the postings from k up to j -/
def seg (s : List (Int × Int × Int)) (k j : Nat) : List (Int × Int × Int) := (s.drop k).take (j - k)
theorem take_seg (s : List (Int × Int × Int)) {k j : Nat} (h : k ≤ j) : s.take j = s.take k ++ seg s k j := by
  unfold seg
  rw [← List.take_add, show k + (j - k) = j by omega]
theorem drop_seg (s : List (Int × Int × Int)) {k j : Nat} (h : k ≤ j) : s.drop k = seg s k j ++ s.drop j := by
  unfold seg
  have := List.take_append_drop (j - k) (s.drop k)
  rw [List.drop_drop, show k + (j - k) = j by omega] at this
  exact this.symm
theorem seg_succ (s : List (Int × Int × Int)) {k j : Nat} (h : k ≤ j) (hj : j < s.length) : seg s k (j + 1) = seg s k j ++ [s.getD j default] := by
  unfold seg
  rw [show j + 1 - k = j - k + 1 by omega, List.take_succ_eq_append_getElem (by rw [List.length_drop]; omega), List.getElem_drop, List.getD_eq_getElem?_getD, List.getElem?_eq_getElem hj]
  simp [show k + (j - k) = j by omega]
theorem seg_self (s : List (Int × Int × Int)) (k : Nat) : seg s k k = [] := by unfold seg; simp
theorem getD_in {s : List (Int × Int × Int)} {k : Nat} (h : k < s.length) : s.getD k default ∈ s.drop k := by
  rw [List.getD_eq_getElem?_getD, List.getElem?_eq_getElem h, List.drop_eq_getElem_cons h]; exact List.mem_cons_self

theorem seg_sum {s : List (Int × Int × Int)} {k j : Nat} {p : Int × Int × Int} (hp : ∀ x ∈ s, ptB x = true) (hpp : ptB p = true) (hs : ∀ x ∈ seg s k j, plc x = plc p) : sumAt (seg s k j) p.1 p.2.1 = ((seg s k j).map (·.2.2)).sum :=
  sumAt_all fun x hx => plc_inj (hp x (List.mem_of_mem_drop (List.mem_of_mem_take hx))) hpp (hs x hx)

/-- a place is done: what is summed is all that stands there -/
theorem merged_sum {s L : List (Int × Int × Int)} {k j : Nat} {p : Int × Int × Int} (h : Merged s k L) (hp : ∀ x ∈ s, ptB x = true) (hpp : ptB p = true) (hk : k < s.length) (hkj : k < j) (e : p = s.getD k default) (hs : ∀ x ∈ seg s k j, plc x = plc p) (hr : ∀ y ∈ s.drop j, plc p < plc y) :
    sumAt (s.take k) p.1 p.2.1 = 0 ∧ sumAt s p.1 p.2.1 = ((seg s k j).map (·.2.2)).sum := by
  have h0 : sumAt (s.take k) p.1 p.2.1 = 0 := sumAt_none fun x hx q => by
    have := h.apart x hx p (by rw [e]; exact getD_in hk)
    unfold plc at this
    rw [q.1, q.2] at this
    omega
  refine ⟨h0, ?_⟩
  have h1 : sumAt (s.drop j) p.1 p.2.1 = 0 := sumAt_none fun x hx q => by
    have := hr x hx
    unfold plc at this
    rw [q.1, q.2] at this
    omega
  have h2 : s = s.take k ++ (seg s k j ++ s.drop j) := by rw [← drop_seg s (by omega)]; exact (List.take_append_drop k s).symm
  calc sumAt s p.1 p.2.1 = sumAt (s.take k ++ (seg s k j ++ s.drop j)) p.1 p.2.1 := by rw [← h2]
    _ = _ := by rw [sumAt_append, sumAt_append, h0, h1, seg_sum hp hpp hs]; omega

theorem merged_step {s L : List (Int × Int × Int)} {k j : Nat} {p : Int × Int × Int} (h : Merged s k L) (hp : ∀ x ∈ s, ptB x = true) (hpp : ptB p = true) (hk : k < s.length) (hkj : k < j) (e : p = s.getD k default) (hs : ∀ x ∈ seg s k j, plc x = plc p) (hr : ∀ y ∈ s.drop j, plc p < plc y) (hS : amtB ((seg s k j).map (·.2.2)).sum = true) :
    (((seg s k j).map (·.2.2)).sum = 0 → Merged s j L) ∧ (((seg s k j).map (·.2.2)).sum ≠ 0 → Merged s j (L ++ [(p.1, p.2.1, ((seg s k j).map (·.2.2)).sum)])) := by
  have ts := take_seg s (show k ≤ j by omega)
  have hpd : p ∈ s.drop k := by rw [e]; exact getD_in hk
  have hm := merged_sum h hp hpp hk hkj e hs hr
  have hap : ∀ x ∈ s.take j, ∀ y ∈ s.drop j, plc x < plc y := fun x hx y hy => by
    rw [ts] at hx
    rcases List.mem_append.1 hx with hx | hx
    · exact h.apart x hx y (by rw [drop_seg s (show k ≤ j by omega)]; exact List.mem_append_right _ hy)
    · rw [hs x hx]; exact hr y hy
  have hlow : ∀ q ∈ L, plc q < plc p := fun q hq => by
    obtain ⟨x, hx, ex⟩ := h.from_ q hq
    rw [← ex]
    exact h.apart x hx p hpd
  have hsum : ∀ a u, sumAt (s.take j) a u = sumAt (s.take k) a u + sumAt (seg s k j) a u := fun a u => by rw [ts, sumAt_append]
  have hoff : ∀ a u, ¬ (p.1 = a ∧ p.2.1 = u) → sumAt (seg s k j) a u = 0 := fun a u hne => sumAt_none fun x hx q => hne (by
    have := plc_inj (hp x (List.mem_of_mem_drop (List.mem_of_mem_take hx))) hpp (hs x hx)
    omega)
  have hfrom : ∀ q ∈ L, ∃ x ∈ s.take j, plc x = plc q := fun q hq => by
    obtain ⟨x, hx, ex⟩ := h.from_ q hq
    exact ⟨x, by rw [ts]; exact List.mem_append_left _ hx, ex⟩
  have hon := seg_sum hp hpp hs
  have hok : ∀ a u, amtB (sumAt (s.take j) a u) = true := fun a u => by
    rw [hsum]
    by_cases hq : p.1 = a ∧ p.2.1 = u
    · rw [← hq.1, ← hq.2, hm.1, hon, Int.zero_add]; exact hS
    · rw [hoff _ _ hq, Int.add_zero]; exact h.ok a u
  generalize ((seg s k j).map (·.2.2)).sum = S at *
  constructor
  · intro h0
    refine ⟨hap, h.strict, hfrom, fun q => ?_, by have := h.few; omega, hok⟩
    rw [h.mem, hsum]
    by_cases hq : p.1 = q.1 ∧ p.2.1 = q.2.1
    · rw [← hq.1, ← hq.2, hon, h0]; simp
    · rw [hoff _ _ hq]; simp
  · intro h0
    have pt := pt_t hpp
    have hn : ptB (p.1, p.2.1, S) = true := pt_mk ⟨pt.1, pt.2.1, pt.2.2.1, pt.2.2.2.1, h0, (amt_t hS).1, (amt_t hS).2⟩
    have hpl : plc (p.1, p.2.1, S) = plc p := rfl
    refine ⟨hap, strict_snoc h.strict hn (by rw [hpl]; have := plc_bd hpp; omega) (fun q hq => by rw [hpl]; exact hlow q hq), fun q hq => ?_, fun q => ?_, by rw [List.length_append, List.length_singleton]; have := h.few; omega, hok⟩
    · rcases List.mem_append.1 hq with hq | hq
      · exact hfrom q hq
      · rw [List.mem_singleton.1 hq]
        refine ⟨p, ?_, rfl⟩
        have : s.getD k default ∈ s.take j := by
          rw [List.getD_eq_getElem?_getD, List.getElem?_eq_getElem hk]
          exact List.mem_take_iff_getElem.2 ⟨k, by omega, by simp⟩
        rw [e]; exact this
    · rw [List.mem_append, List.mem_singleton, h.mem, hsum]
      by_cases hq : p.1 = q.1 ∧ p.2.1 = q.2.1
      · rw [← hq.1, ← hq.2, hon, hm.1]
        obtain ⟨q0, q1, q2⟩ := q
        obtain ⟨e0, e1⟩ := hq
        simp only at e0 e1
        subst e0; subst e1
        constructor
        · rintro (⟨h1, h2⟩ | h1)
          · have := pt_t h1; simp only at h2 this; omega
          · injection h1 with _ h1; injection h1 with _ h1
            subst h1
            exact ⟨hn, by simp⟩
        · rintro ⟨h1, h2⟩
          refine .inr ?_
          simp only at h2
          rw [h2]; simp
      · rw [hoff _ _ hq]
        constructor
        · rintro (h1 | h1)
          · simpa using h1
          · subst h1; exact absurd ⟨rfl, rfl⟩ hq
        · intro h1; exact .inl (by simpa using h1)

end Go.Proofs.YthaahebggboliaaGreat

-- PostMath
namespace Go.Proofs.YthaahebggboliaaGreat

/-- the line of place k, if anything stands there -/
def lineAt (T : List (Int × Int × Int)) (k : Nat) : Option (Int × Int × Int) :=
  if sumAt T ((k / 21 : Nat) : Int) ((k % 21 : Nat) : Int) = 0 then none else some (((k / 21 : Nat) : Int), ((k % 21 : Nat) : Int), sumAt T ((k / 21 : Nat) : Int) ((k % 21 : Nat) : Int))
/-- the book that these postings make -/
def mrgL (T : List (Int × Int × Int)) : List (Int × Int × Int) := (List.range' 0 2121).filterMap (lineAt T)
theorem lineAt_some {T : List (Int × Int × Int)} {k : Nat} {p : Int × Int × Int} (h : lineAt T k = some p) : p.1 = ((k / 21 : Nat) : Int) ∧ p.2.1 = ((k % 21 : Nat) : Int) ∧ p.2.2 = sumAt T p.1 p.2.1 ∧ p.2.2 ≠ 0 := by
  unfold lineAt at h
  split at h
  · cases h
  · next hz =>
    obtain rfl := Option.some.inj h
    exact ⟨rfl, rfl, rfl, hz⟩
theorem lineAt_pt {T : List (Int × Int × Int)} (ha : ∀ a u, amtB (sumAt T a u) = true) {k : Nat} (hk : k < 2121) {p : Int × Int × Int} (h : lineAt T k = some p) : ptB p = true ∧ plc p = (k : Int) := by
  obtain ⟨h1, h2, h3, h4⟩ := lineAt_some h
  have := amt_t (ha p.1 p.2.1)
  rw [← h3] at this
  refine ⟨pt_mk (by omega), ?_⟩
  unfold plc; omega
theorem mrg_strict {T : List (Int × Int × Int)} (ha : ∀ a u, amtB (sumAt T a u) = true) : ∀ (n s : Nat) (b : Int), b < (s : Int) → s + n ≤ 2121 → Strict b ((List.range' s n).filterMap (lineAt T))
  | 0, s, b, _, _ => by simp [Strict]
  | n + 1, s, b, hb, hs => by
    rw [List.range'_succ, List.filterMap_cons]
    cases hl : lineAt T s with
    | none => exact mrg_strict ha n (s + 1) b (by omega) (by omega)
    | some p =>
      obtain ⟨h1, h2⟩ := lineAt_pt ha (by omega) hl
      exact ⟨h1, by omega, mrg_strict ha n (s + 1) (plc p) (by omega) (by omega)⟩
theorem mrg_book {T : List (Int × Int × Int)} (ha : ∀ a u, amtB (sumAt T a u) = true) : IsBook (mrgL T) T := by
  refine ⟨mrg_strict ha 2121 0 (-1) (by decide) (by decide), fun p => ?_⟩
  unfold mrgL
  rw [List.mem_filterMap]
  constructor
  · rintro ⟨k, hk, e⟩
    have hk' : k < 2121 := by have := List.mem_range'.1 hk; omega
    exact ⟨(lineAt_pt ha hk' e).1, (lineAt_some e).2.2.1⟩
  · rintro ⟨h1, h2⟩
    have h := pt_t h1
    obtain ⟨a, u, n⟩ := p
    simp only at h h2
    refine ⟨(a * 21 + u).toNat, List.mem_range'.2 ⟨(a * 21 + u).toNat, by omega, by omega⟩, ?_⟩
    have e1 : (((a * 21 + u).toNat / 21 : Nat) : Int) = a := by omega
    have e2 : (((a * 21 + u).toNat % 21 : Nat) : Int) = u := by omega
    unfold lineAt
    rw [e1, e2, ← h2, if_neg (by omega)]
/-- are all sums amounts? -/
def allA (T : List (Int × Int × Int)) : Bool := (List.range' 0 2121).all fun k => amtB (sumAt T ((k / 21 : Nat) : Int) ((k % 21 : Nat) : Int))
theorem allA_t {T : List (Int × Int × Int)} (hp : ∀ p ∈ T, ptB p = true) (h : allA T = true) (a u : Int) : amtB (sumAt T a u) = true := by
  by_cases hq : ∃ p ∈ T, p.1 = a ∧ p.2.1 = u
  · obtain ⟨p, hm, rfl, rfl⟩ := hq
    have hb := pt_t (hp p hm)
    have := List.all_eq_true.1 h (p.1 * 21 + p.2.1).toNat (List.mem_range'.2 ⟨(p.1 * 21 + p.2.1).toNat, by omega, by omega⟩)
    have e1 : (((p.1 * 21 + p.2.1).toNat / 21 : Nat) : Int) = p.1 := by omega
    have e2 : (((p.1 * 21 + p.2.1).toNat % 21 : Nat) : Int) = p.2.1 := by omega
    rw [e1, e2] at this
    exact this
  · rw [sumAt_none fun p hm e => hq ⟨p, hm, e⟩]; decide
theorem allA_f {T : List (Int × Int × Int)} (h : ∀ a u, amtB (sumAt T a u) = true) : allA T = true := List.all_eq_true.2 fun _ _ => h _ _
/-- the error of Post, and what it answers -/
def pstE (b l : List (Int × Int × Int)) : Int := if linE b = 0 then (if chkE l = 0 then (if allA (b ++ l) = true then (if 400 < (mrgL (b ++ l)).length then 2 else 0) else 8) else chkE l) else linE b
def pstR (b l : List (Int × Int × Int)) : List (Int × Int × Int) := if pstE b l = 0 then mrgL (b ++ l) else []
theorem both_pt {b l : List (Int × Int × Int)} (h1 : linE b = 0) (h2 : chkE l = 0) : ∀ p ∈ b ++ l, ptB p = true := by
  intro p hp
  rcases List.mem_append.1 hp with h | h
  · exact strict_pt (lin_0 h1).2.1 p h
  · exact (chk_0 h2).2.2.1 p h
theorem pst_0 {b l : List (Int × Int × Int)} (h : pstE b l = 0) : linE b = 0 ∧ chkE l = 0 ∧ (∀ a u, amtB (sumAt (b ++ l) a u) = true) ∧ (mrgL (b ++ l)).length ≤ 400 ∧ pstR b l = mrgL (b ++ l) := by
  have h' := h
  unfold pstE at h
  split at h
  · next h1 =>
    split at h
    · next h2 =>
      split at h
      · next h3 =>
        split at h
        · cases h
        · next h4 => exact ⟨h1, h2, allA_t (both_pt h1 h2) h3, by omega, if_pos h'⟩
      · cases h
    · next h2 => exact absurd h h2
  · next h1 => exact absurd h h1

end Go.Proofs.YthaahebggboliaaGreat

-- Exact
namespace Go.Proofs.YthaahebggboliaaGreat
open Go.RowKit
set_option linter.unusedVariables false

/-- the words of a sum -/
def hiOf (S : Int) : Int := S / 18446744073709551616
def loOf (S : Int) : Int := S % 18446744073709551616
def sumV (S : Int) : Value := .agg #[.int .i64 (hiOf S), .int .u64 (loOf S)]
/-- a sum that keeps well within its words -/
def okS (S : Int) : Prop := -65536 ≤ hiOf S ∧ hiOf S ≤ 65536
theorem lo_bd (S : Int) : 0 ≤ loOf S ∧ loOf S ≤ 18446744073709551615 := by unfold loOf; omega

theorem add64_run (x y : Int) (hx : 0 ≤ x) (hy : 0 ≤ y) (w : World) :
    (callFunc 138 #[.int .u64 x, .int .u64 y, .int .u64 0]).run Tryz.prog w =
      .ok (.value (.tuple #[.int .u64 ((x + y) % 18446744073709551616), .int .u64 ((x + y) / 18446744073709551616)])) w := by
  rw [run_callFunc_extern Tryz.func138 (by kernel_rfl) (by kernel_rfl) (by kernel_rfl) (e := add64Entry) (by kernel_rfl), run_add64 x y 0 hx hy (by omega) (by omega)]
  simp only [Result.andThen, Int.add_zero]

theorem plus_words (S n : Int) (hn0 : -9223372036854775808 ≤ n) (hn1 : n ≤ 9223372036854775807) :
    ∃ Z s c t : Int, IntKind.u64.wrap n = Z ∧ (∀ w, (callFunc 138 #[.int .u64 (loOf S), .int .u64 Z, .int .u64 0]).run Tryz.prog w = .ok (.value (.tuple #[.int .u64 s, .int .u64 c])) w) ∧
      n / 9223372036854775808 = t ∧ 0 ≤ c ∧ c ≤ 1 ∧ -1 ≤ t ∧ t ≤ 0 ∧ hiOf S + t + c = hiOf (S + n) ∧ s = loOf (S + n) := by
  have hl := lo_bd S
  refine ⟨_, _, _, _, rfl, fun w => add64_run _ _ (by omega) (by rw [IntKind.wrap_u64]; omega) w, rfl, ?_⟩
  simp only [IntKind.wrap_u64]
  unfold hiOf loOf
  refine ⟨by omega, by omega, by omega, by omega, by omega, by omega⟩

theorem ret_agg2 {a b c d : Int} (h : a = b) (g : c = d) : Ending.returned (.agg #[.int .i64 a, .int .u64 c]) = .returned (.agg #[.int .i64 b, .int .u64 d]) := by rw [h, g]

set_option maxHeartbeats 400000 in
theorem plus_run (S n : Int) (w : World) (hS : okS S) (hn0 : -9223372036854775808 ≤ n) (hn1 : n ≤ 9223372036854775807) :
    Calls Tryz.prog 116 #[sumV S, .int .i64 n] w fun e w' => e = .returned (sumV (S + n)) ∧ Grew w w' := by
  obtain ⟨Z, s, c, t, e1, e2, e3, hc0, hc1, ht0, ht1, e4, e5⟩ := plus_words S n hn0 hn1
  obtain ⟨h0, h1⟩ := hS
  have E4 := Lib.hid e4; have E5 := Lib.hid e5
  clear e4 e5
  unfold sumV
  have hl := lo_bd S
  generalize hiOf S = h at h0 h1 E4 ⊢
  generalize loOf S = l at hl e2 ⊢
  go_enter Tryz.func116, Tryz.ntmps116
  go_wp2
  refine bodyPost_ret (v := .agg #[.int .i64 (h + t + c), .int .u64 s]) (by simp [results, Tryz.results116, go_sem]) rfl ⟨ret_agg2 E4.out E5.out, ?_⟩
  exact ((Grew.refl _).alloc _ _).alloc _ _

theorem amount_fit (S : Int) : ∃ L T : Int, wrap64 (loOf S) = L ∧ L / 9223372036854775808 = T ∧ -1 ≤ T ∧ T ≤ 0 ∧ -9223372036854775808 ≤ L ∧ L ≤ 9223372036854775807 ∧ ((hiOf S = T ∧ L = S) ∨ (hiOf S ≠ T ∧ amtB S = false)) := by
  refine ⟨_, _, rfl, rfl, ?_⟩
  have hl := lo_bd S
  unfold wrap64 hiOf loOf at *
  refine ⟨by omega, by omega, by omega, by omega, ?_⟩
  by_cases e : S / 18446744073709551616 = ((S % 18446744073709551616 + 9223372036854775808) % 18446744073709551616 - 9223372036854775808) / 9223372036854775808
  · exact .inl ⟨e, by omega⟩
  · exact .inr ⟨e, amt_no (by omega)⟩

theorem amount_ok (S : Int) (w : World) (hS : amtB S = true) :
    Calls Tryz.prog 137 #[.agg #[.int .i64 (hiOf S), .int .u64 (loOf S)]] w fun e w' => e = .returned (.tuple #[.int .i64 S, .int .i64 0]) ∧ Grew w w' := by
  obtain ⟨L, T, e1, e2, ht0, ht1, hL0, hL1, hf⟩ := amount_fit S
  obtain ⟨g1, g2⟩ : hiOf S = T ∧ L = S := hf.resolve_right (fun q => by rw [hS] at q; exact absurd q.2 (by decide))
  have a1 := amt_t hS
  have hl := lo_bd S
  clear hf hS
  generalize hiOf S = h at g1 ⊢
  generalize loOf S = l at hl e1 ⊢
  subst g1; subst g2
  go_enter Tryz.func137, Tryz.ntmps137
  go_wp2
  go_ret2
  exact ⟨rfl, (Grew.refl _).alloc _ _⟩

theorem amount_no (S : Int) (w : World) (hS : amtB S = false) :
    Calls Tryz.prog 137 #[.agg #[.int .i64 (hiOf S), .int .u64 (loOf S)]] w fun e w' => e = .returned (.tuple #[.int .i64 0, .int .i64 8]) ∧ Grew w w' := by
  obtain ⟨L, T, e1, e2, ht0, ht1, hL0, hL1, hf⟩ := amount_fit S
  have a1 : S < -1152921504606846976 ∨ 1152921504606846976 < S := by have := amt_f hS; omega
  have hl := lo_bd S
  clear hS
  generalize hiOf S = h at hf ⊢
  generalize loOf S = l at hl e1 ⊢
  rcases hf with ⟨rfl, rfl⟩ | ⟨hq, -⟩
  · rcases a1 with a1 | a1
    all_goals
      go_enter Tryz.func137, Tryz.ntmps137
      go_wp2
      go_ret2
      exact ⟨rfl, (Grew.refl _).alloc _ _⟩
  · go_enter Tryz.func137, Tryz.ntmps137
    go_wp2
    go_ret2
    exact ⟨rfl, (Grew.refl _).alloc _ _⟩

end Go.Proofs.YthaahebggboliaaGreat

-- ExactOf
namespace Go.Proofs.YthaahebggboliaaGreat
open Go.RowKit
set_option linter.unusedVariables false

/-- sums of so many amounts keep within their words -/
theorem okS_mk {S : Int} {k : Nat} (hk : k ≤ 4096) (h0 : -(1152921504606846976 * (k : Int)) ≤ S) (h1 : S ≤ 1152921504606846976 * (k : Int)) : okS S := by
  unfold okS hiOf; omega
theorem sum_bd {zs : List Int} (h : ∀ z ∈ zs, amtB z = true) : -(1152921504606846976 * (zs.length : Int)) ≤ zs.sum ∧ zs.sum ≤ 1152921504606846976 * (zs.length : Int) := by
  induction zs with
  | nil => simp
  | cons a l ih =>
    have h1 := ih fun z hz => h z (by simp [hz])
    have h2 := amt_t (h a (by simp))
    rw [List.sum_cons, List.length_cons]
    omega
theorem sum_take_succ {zs : List Int} {k : Nat} (hk : k < zs.length) : (zs.take (k + 1)).sum = (zs.take k).sum + zs.getD k 0 := by
  rw [List.take_succ_eq_append_getElem hk, List.sum_append, List.getD_eq_getElem?_getD, List.getElem?_eq_getElem hk]
  simp
theorem getD_mem {zs : List Int} {k : Nat} (hk : k < zs.length) : zs.getD k 0 ∈ zs := by
  rw [List.getD_eq_getElem?_getD, List.getElem?_eq_getElem hk]; simp
theorem okS_take {zs : List Int} (h : ∀ z ∈ zs, amtB z = true) (hn : zs.length ≤ 4096) (k : Nat) : okS (zs.take k).sum := by
  have h1 := sum_bd (zs := zs.take k) fun z hz => h z (List.mem_of_mem_take hz)
  exact okS_mk (k := (zs.take k).length) (by rw [List.length_take]; omega) h1.1 h1.2

theorem of_second (w : World) (cs ds : Array Value) (T : TypeId) : Blk ((w.alloc (.cells cs T)).alloc (.cells ds T)) (w.heap.size + 1) ds T := by
  have := Blk.made (w.alloc (.cells cs T)) ds T
  rwa [World.size_alloc] at this
theorem plus_at (S n : Int) (w : World) (hS : okS S) (hn0 : -9223372036854775808 ≤ n) (hn1 : n ≤ 9223372036854775807) :
    Calls Tryz.prog 116 #[.agg #[.int .i64 (hiOf S), .int .u64 (loOf S)], .int .i64 n] w fun e w' => e = .returned (.agg #[.int .i64 (hiOf (S + n)), .int .u64 (loOf (S + n))]) ∧ Grew w w' := plus_run S n w hS hn0 hn1

end Go.Proofs.YthaahebggboliaaGreat
