/-
  The plain mathematics of a stable sort: insertion, and the symmetric merge. Nothing of the program is used here.
-/
import Derived.Sort.WalkA
namespace Go.Proofs.Ytmoanndonfmihaa
set_option linter.unusedVariables false

/-- what a comparison of a later one with an earlier one tells -/
def Cmpt {α : Type} (lt : α → α → Bool) (lx : α → α → Prop) (p x : α) : Prop := (lt x p = true → lx x p) ∧ (lt x p = false → lx p x)

theorem bang_list {α : Type} [Inhabited α] {d : Array α} {A B : List α} {x : α} {i : Nat} (h : d.toList = A ++ x :: B) (hi : A.length = i) : d[i]! = x := by
  have hs : i < d.size := by
    have := congrArg List.length h
    simp at this
    omega
  rw [getElem!_pos d i hs, ← Array.getElem_toList]
  have : d.toList[i]? = some x := by rw [h, ← hi]; simp
  rw [List.getElem?_eq_getElem (by simpa using hs)] at this
  exact Option.some.inj this
theorem swp_list {α : Type} [Inhabited α] {d : Array α} {A B : List α} {x p : α} {j : Nat} (h : d.toList = A ++ p :: x :: B) (hj : A.length = j) : (Go.Sort.swp d (j + 1) j).toList = A ++ x :: p :: B := by
  have e1 : d[j + 1]! = x := bang_list (A := A ++ [p]) (B := B) (by rw [h]; simp) (by simp [hj])
  have e2 : d[j]! = p := bang_list h hj
  unfold Go.Sort.swp
  rw [e1, e2]
  simp only [Array.toList_setIfInBounds, h]
  subst hj
  rw [List.set_append_right _ _ (by omega), show A.length + 1 - A.length = 1 by omega, List.set_append_right _ _ (Nat.le_refl _), Nat.sub_self]
  rfl

theorem ins_inner {α : Type} [Inhabited α] {lt : α → α → Bool} {lx : α → α → Prop} (htr : ∀ x y z, lx x y → lx y z → lx x z) (x : α) (A : List α) :
    ∀ (n : Nat) (P B : List α) (d : Array α), P.length = n → d.toList = A ++ P ++ x :: B → (∀ p ∈ P, Cmpt lt lx p x) → P.Pairwise lx →
      ∃ M : List α, (Go.Sort.insInner lt A.length (A.length + n) d).toList = A ++ M ++ B ∧ M.Perm (P ++ [x]) ∧ M.Pairwise lx := by
  intro n
  induction n with
  | zero =>
    intro P B d hP hd hc hs
    obtain rfl := List.length_eq_zero_iff.1 hP
    rw [Nat.add_zero, insInner_stop lt A.length A.length d (.inl (Nat.le_refl _))]
    exact ⟨[x], by rw [hd]; simp, List.Perm.refl _, List.pairwise_singleton _ _⟩
  | succ n ih =>
    intro P B d hP hd hc hs
    obtain ⟨P', p, rfl⟩ : ∃ P' p, P = P' ++ [p] := ⟨P.dropLast, P.getLast (by intro e; rw [e] at hP; simp at hP), (List.dropLast_concat_getLast _).symm⟩
    have hP' : P'.length = n := by simp at hP; exact hP
    have hd' : d.toList = (A ++ P') ++ p :: x :: B := by rw [hd]; simp
    have e1 : d[A.length + (n + 1)]! = x := bang_list (A := A ++ P' ++ [p]) (B := B) (by rw [hd]; simp) (by simp [hP'])
    have e2 : d[A.length + (n + 1) - 1]! = p := bang_list hd' (by simp [hP'])
    have hs' := List.pairwise_append.1 hs
    by_cases h : lt x p = true
    · rw [insInner_go lt A.length _ d (by omega) (by rw [e1, e2]; exact h)]
      have e3 : (Go.Sort.swp d (A.length + (n + 1)) (A.length + n)).toList = A ++ P' ++ x :: (p :: B) :=
        swp_list (j := A.length + n) hd' (by simp [hP'])
      obtain ⟨M, h1, h2, h3⟩ := ih P' (p :: B) _ hP' e3 (fun q hq => hc q (by simp [hq])) hs'.1
      refine ⟨M ++ [p], by rw [show A.length + (n + 1) - 1 = A.length + n by omega, h1]; simp, ?_, ?_⟩
      · refine (h2.append_right [p]).trans ?_
        rw [List.append_assoc, List.append_assoc]
        exact List.Perm.append_left _ (List.Perm.swap _ _ _)
      · refine List.pairwise_append.2 ⟨h3, List.pairwise_singleton _ _, fun q hq r hr => ?_⟩
        obtain rfl := List.mem_singleton.1 hr
        rcases List.mem_append.1 (h2.mem_iff.1 hq) with hq' | hq'
        · exact hs'.2.2 q hq' r (by simp)
        · obtain rfl := List.mem_singleton.1 hq'
          exact (hc r (by simp)).1 h
    · have hf : lt x p = false := by simpa using h
      rw [insInner_stop lt A.length _ d (.inr (by rw [e1, e2]; exact hf))]
      refine ⟨P' ++ [p] ++ [x], by rw [hd]; simp, List.Perm.refl _, List.pairwise_append.2 ⟨hs, List.pairwise_singleton _ _, fun q hq r hr => ?_⟩⟩
      obtain rfl := List.mem_singleton.1 hr
      have hpx := (hc p (by simp)).2 hf
      rcases List.mem_append.1 hq with hq' | hq'
      · exact htr _ _ _ (hs'.2.2 q hq' p (by simp)) hpx
      · obtain rfl := List.mem_singleton.1 hq'; exact hpx
theorem ins_outer {α : Type} [Inhabited α] {lt : α → α → Bool} {lx : α → α → Prop} (htr : ∀ x y z, lx x y → lx y z → lx x z) (A B : List α) :
    ∀ (Q P : List α) (d : Array α), d.toList = A ++ P ++ Q ++ B → P.Pairwise lx → (∀ p ∈ P, ∀ x ∈ Q, Cmpt lt lx p x) → Q.Pairwise (Cmpt lt lx) →
      ∃ M : List α, (Go.Sort.insOuter lt A.length (A.length + P.length + Q.length) (A.length + P.length) d).toList = A ++ M ++ B ∧ M.Perm (P ++ Q) ∧ M.Pairwise lx := by
  intro Q
  induction Q with
  | nil =>
    intro P d hd hs hc hq
    rw [insOuter_stop _ _ _ _ _ (by simp)]
    exact ⟨P, by rw [hd]; simp, by simp, hs⟩
  | cons x Q ih =>
    intro P d hd hs hc hq
    rw [insOuter_go _ _ _ _ _ (by simp)]
    obtain ⟨M, h1, h2, h3⟩ := ins_inner htr x A P.length P (Q ++ B) d rfl (by rw [hd]; simp) (fun p hp => hc p hp x (by simp)) hs
    have hl : M.length = P.length + 1 := by have := h2.length_eq; simpa using this
    have hq' := List.pairwise_cons.1 hq
    obtain ⟨M', g1, g2, g3⟩ := ih M _ (by rw [h1]; simp) h3 (fun p hp y hy => by
      rcases List.mem_append.1 (h2.mem_iff.1 hp) with hp' | hp'
      · exact hc p hp' y (by simp [hy])
      · obtain rfl := List.mem_singleton.1 hp'
        exact hq'.1 y hy) hq'.2
    refine ⟨M', ?_, g2.trans ((h2.append_right Q).trans (by simp)), g3⟩
    rw [← g1, hl]
    congr 1
    congr 1
    simp only [List.length_cons]; omega
/-- insertion sort of a part: of what is as great the earlier stays first -/
theorem ins_part {α : Type} [Inhabited α] {lt : α → α → Bool} {lx : α → α → Prop} (htr : ∀ x y z, lx x y → lx y z → lx x z) (A Q B : List α) (d : Array α) (hd : d.toList = A ++ Q ++ B) (hq : Q.Pairwise (Cmpt lt lx)) :
    ∃ M : List α, (Go.Sort.insertionSort lt d A.length (A.length + Q.length)).toList = A ++ M ++ B ∧ M.Perm Q ∧ M.Pairwise lx := by
  unfold Go.Sort.insertionSort
  cases Q with
  | nil =>
    rw [insOuter_stop _ _ _ _ _ (by simp)]
    exact ⟨[], by rw [hd], List.Perm.refl _, List.Pairwise.nil⟩
  | cons x Q =>
    have hq' := List.pairwise_cons.1 hq
    obtain ⟨M, h1, h2, h3⟩ := ins_outer htr A B Q [x] d (by rw [hd]; simp) (List.pairwise_singleton _ _) (fun p hp y hy => by
      obtain rfl := List.mem_singleton.1 hp
      exact hq'.1 y hy) hq'.2
    refine ⟨M, ?_, by simpa using h2, h3⟩
    rw [← h1]
    congr 1
    congr 1
    simp only [List.length_cons, List.length_nil]; omega

/-- two parts that were merged -/
theorem sm_join {lx : Int → Int → Prop} {U1 U2 V1 V2 M1 M2 : List Int} (h1 : M1.Perm (U1 ++ V1)) (h2 : M2.Perm (U2 ++ V2)) (s1 : M1.Pairwise lx) (s2 : M2.Pairwise lx) (hU : (U1 ++ U2).Pairwise lx) (hV : (V1 ++ V2).Pairwise lx)
    (c1 : ∀ u ∈ U1, ∀ v ∈ V2, lx u v) (c2 : ∀ v ∈ V1, ∀ u ∈ U2, lx v u) : (M1 ++ M2).Pairwise lx ∧ (M1 ++ M2).Perm ((U1 ++ U2) ++ (V1 ++ V2)) := by
  have hU' := List.pairwise_append.1 hU
  have hV' := List.pairwise_append.1 hV
  refine ⟨List.pairwise_append.2 ⟨s1, s2, fun x hx y hy => ?_⟩, ?_⟩
  · rcases List.mem_append.1 (h1.mem_iff.1 hx) with hx' | hx' <;> rcases List.mem_append.1 (h2.mem_iff.1 hy) with hy' | hy'
    · exact hU'.2.2 x hx' y hy'
    · exact c1 x hx' y hy'
    · exact c2 x hx' y hy'
    · exact hV'.2.2 x hx' y hy'
  · refine (List.Perm.append h1 h2).trans ?_
    rw [List.append_assoc, List.append_assoc]
    refine List.Perm.append_left _ ?_
    rw [← List.append_assoc, ← List.append_assoc]
    exact List.Perm.append_right _ List.perm_append_comm
theorem split_len {l : List Int} {k : Nat} (h : k ≤ l.length) : ∃ l1 l2, l = l1 ++ l2 ∧ l1.length = k :=
  ⟨l.take k, l.drop k, (List.take_append_drop k l).symm, by simp; omega⟩
theorem getD_mid {A B : List Int} {x : Int} {i : Nat} (h : A.length = i) : (A ++ x :: B).getD i 0 = x := by
  rw [List.getD_eq_getElem?_getD, ← h]; simp
theorem last_of {l : List Int} (h : l ≠ []) : ∃ l' x, l = l' ++ [x] := ⟨l.dropLast, l.getLast h, (List.dropLast_concat_getLast _).symm⟩
/-- where the search ends: nothing ahead on the one side is behind what is behind on the other one -/
theorem sm_split {lx : Int → Int → Prop} (htr : ∀ x y z, lx x y → lx y z → lx x z) {A U V B : List Int} {a m b mid s : Nat} (ha : A.length = a) (hm : a + U.length = m) (hb : m + V.length = b) (hU : U.Pairwise lx) (hV : V.Pairwise lx)
    (s0 : a ≤ s) (s1 : s ≤ m) (s2 : s ≤ mid) (s3 : mid + m ≤ b + s)
    (e1 : s = a ∨ mid + m = b + s ∨ lx ((A ++ U ++ V ++ B).getD (s - 1) 0) ((A ++ U ++ V ++ B).getD (mid + m - s) 0))
    (e2 : s = m ∨ s = mid ∨ lx ((A ++ U ++ V ++ B).getD (mid + m - s - 1) 0) ((A ++ U ++ V ++ B).getD s 0)) :
    ∃ U1 U2 V1 V2, U = U1 ++ U2 ∧ V = V1 ++ V2 ∧ a + U1.length = s ∧ s + V1.length = mid ∧ (∀ u ∈ U1, ∀ v ∈ V2, lx u v) ∧ (∀ v ∈ V1, ∀ u ∈ U2, lx v u) := by
  obtain ⟨U1, U2, rfl, l1⟩ := split_len (l := U) (k := s - a) (by omega)
  obtain ⟨V1, V2, rfl, l2⟩ := split_len (l := V) (k := mid - s) (by omega)
  simp only [List.length_append] at hm hb
  have hU' := List.pairwise_append.1 hU
  have hV' := List.pairwise_append.1 hV
  refine ⟨U1, U2, V1, V2, rfl, rfl, by omega, by omega, fun u hu v hv => ?_, fun v hv u hu => ?_⟩
  · obtain ⟨U1', u', rfl⟩ := last_of (List.ne_nil_of_mem hu)
    obtain ⟨v', V2', rfl⟩ : ∃ v' V2', V2 = v' :: V2' := by
      cases V2 with
      | nil => simp at hv
      | cons v' V2' => exact ⟨v', V2', rfl⟩
    have hlt : lx u' v' := by
      simp only [List.length_append, List.length_cons, List.length_nil] at hm hb l1
      rcases e1 with e | e | e
      · omega
      · omega
      · rw [show A ++ (U1' ++ [u'] ++ U2) ++ (V1 ++ v' :: V2') ++ B = (A ++ U1') ++ u' :: (U2 ++ (V1 ++ v' :: V2') ++ B) by simp, getD_mid (by simp; omega)] at e
        rw [show (A ++ U1') ++ u' :: (U2 ++ (V1 ++ v' :: V2') ++ B) = (A ++ U1' ++ u' :: U2 ++ V1) ++ v' :: (V2' ++ B) by simp, getD_mid (by simp; omega)] at e
        exact e
    have huu : u = u' ∨ lx u u' := by
      rcases List.mem_append.1 hu with h | h
      · exact .inr ((List.pairwise_append.1 hU'.1).2.2 u h u' (by simp))
      · exact .inl (List.mem_singleton.1 h)
    have hvv : v = v' ∨ lx v' v := by
      rcases List.mem_cons.1 hv with h | h
      · exact .inl h
      · exact .inr ((List.pairwise_cons.1 hV'.2.1).1 v h)
    rcases huu with rfl | huu <;> rcases hvv with rfl | hvv
    · exact hlt
    · exact htr _ _ _ hlt hvv
    · exact htr _ _ _ huu hlt
    · exact htr _ _ _ huu (htr _ _ _ hlt hvv)
  · obtain ⟨V1', v', rfl⟩ := last_of (List.ne_nil_of_mem hv)
    obtain ⟨u', U2', rfl⟩ : ∃ u' U2', U2 = u' :: U2' := by
      cases U2 with
      | nil => simp at hu
      | cons u' U2' => exact ⟨u', U2', rfl⟩
    have hlt : lx v' u' := by
      simp only [List.length_append, List.length_cons, List.length_nil] at hm hb l2
      rcases e2 with e | e | e
      · omega
      · omega
      · rw [show A ++ (U1 ++ u' :: U2') ++ (V1' ++ [v'] ++ V2) ++ B = (A ++ U1) ++ u' :: (U2' ++ (V1' ++ [v'] ++ V2) ++ B) by simp, getD_mid (i := s) (by simp; omega)] at e
        rw [show (A ++ U1) ++ u' :: (U2' ++ (V1' ++ [v'] ++ V2) ++ B) = (A ++ U1 ++ u' :: U2' ++ V1') ++ v' :: (V2 ++ B) by simp, getD_mid (by simp; omega)] at e
        exact e
    have hvv : v = v' ∨ lx v v' := by
      rcases List.mem_append.1 hv with h | h
      · exact .inr ((List.pairwise_append.1 hV'.1).2.2 v h v' (by simp))
      · exact .inl (List.mem_singleton.1 h)
    have huu : u = u' ∨ lx u' u := by
      rcases List.mem_cons.1 hu with h | h
      · exact .inl h
      · exact .inr ((List.pairwise_cons.1 hU'.2.1).1 u h)
    rcases huu with rfl | huu <;> rcases hvv with rfl | hvv
    · exact hlt
    · exact htr _ _ _ hvv hlt
    · exact htr _ _ _ hlt huu
    · exact htr _ _ _ hvv (htr _ _ _ hlt huu)
/-- two cells of a row change places -/
theorem set_two {P Q R : List Int} {x y : Int} {i j : Nat} (hi : P.length = i) (hj : i + 1 + Q.length = j) : ((P ++ x :: Q ++ y :: R).set i y).set j x = P ++ y :: Q ++ x :: R := by
  subst hi; subst hj
  rw [List.append_assoc, List.set_append_right _ _ (Nat.le_refl _), Nat.sub_self, List.cons_append, List.set_cons_zero, ← List.cons_append, ← List.append_assoc, List.set_append_right _ _ (by simp; omega)]
  congr 1
  rw [show P.length + 1 + Q.length - (P ++ y :: Q).length = 0 by simp; omega]
  rfl

end Go.Proofs.Ytmoanndonfmihaa
