/-
  Exchanges of stretches of a list, its turning, one element put in its place: what the stable sort does, told as lists.
-/
import Derived.Test.YtmoanndonfmihaaStabMath
namespace Go.Proofs.Ytmoanndonfmihaa
set_option linter.unusedVariables false

/-- two places of a list change what they hold -/
def swp2 (d : List Int) (i j : Nat) : List Int := (d.set i (d.getD j 0)).set j (d.getD i 0)
theorem swp2_len (d : List Int) (i j : Nat) : (swp2 d i j).length = d.length := by simp [swp2]
theorem swp2_at {P Q R : List Int} {x y : Int} {i j : Nat} (hi : P.length = i) (hj : i + 1 + Q.length = j) : swp2 (P ++ x :: Q ++ y :: R) i j = P ++ y :: Q ++ x :: R := by
  unfold swp2
  rw [show (P ++ x :: Q ++ y :: R).getD i 0 = x by rw [List.append_assoc, List.cons_append]; exact getD_mid hi, show (P ++ x :: Q ++ y :: R).getD j 0 = y from getD_mid (by simp; omega)]
  exact set_two hi hj
/-- stretches of k places at a and at b change places -/
def swr (d : List Int) (a b : Nat) : Nat → List Int
  | 0 => d
  | k + 1 => swp2 (swr d a b k) (a + k) (b + k)
theorem swr_len (d : List Int) (a b : Nat) : ∀ k, (swr d a b k).length = d.length
  | 0 => rfl
  | k + 1 => by rw [swr, swp2_len, swr_len d a b k]
theorem swr_at {P Q : List Int} {a b : Nat} (ha : P.length = a) : ∀ (k : Nat) (X1 X2 Y1 Y2 R : List Int), X1.length = k → Y1.length = k → a + (k + X2.length) + Q.length = b →
    swr (P ++ (X1 ++ X2) ++ Q ++ (Y1 ++ Y2) ++ R) a b k = P ++ (Y1 ++ X2) ++ Q ++ (X1 ++ Y2) ++ R
  | 0, X1, X2, Y1, Y2, R, hx, hy, hb => by
    rw [List.length_eq_zero_iff.1 hx, List.length_eq_zero_iff.1 hy]; rfl
  | k + 1, X1, X2, Y1, Y2, R, hx, hy, hb => by
    obtain ⟨X1', x, rfl⟩ := last_of (l := X1) (fun e => by rw [e] at hx; simp at hx)
    obtain ⟨Y1', y, rfl⟩ := last_of (l := Y1) (fun e => by rw [e] at hy; simp at hy)
    simp only [List.length_append, List.length_cons, List.length_nil] at hx hy
    have ih := swr_at (Q := Q) (b := b) ha k X1' (x :: X2) Y1' (y :: Y2) R (by omega) (by omega) (by simp only [List.length_cons]; omega)
    rw [swr, show P ++ (X1' ++ [x] ++ X2) ++ Q ++ (Y1' ++ [y] ++ Y2) ++ R = P ++ (X1' ++ x :: X2) ++ Q ++ (Y1' ++ y :: Y2) ++ R by simp, ih,
      show P ++ (Y1' ++ x :: X2) ++ Q ++ (X1' ++ y :: Y2) ++ R = (P ++ Y1') ++ x :: (X2 ++ Q ++ X1') ++ y :: (Y2 ++ R) by simp,
      swp2_at (by simp; omega) (by simp; omega)]
    simp
/-- two stretches of the same length that lie somewhere -/
theorem swr_all {P X Q Y R : List Int} {a b k : Nat} (ha : P.length = a) (hx : X.length = k) (hy : Y.length = k) (hb : a + k + Q.length = b) : swr (P ++ X ++ Q ++ Y ++ R) a b k = P ++ Y ++ Q ++ X ++ R := by
  have := swr_at (Q := Q) (b := b) ha k X [] Y [] R hx hy (by simpa using hb)
  simpa using this
/-- the first one of a list moves up -/
def shup (d : List Int) (a : Nat) : Nat → List Int
  | 0 => d
  | k + 1 => swp2 (shup d a k) (a + k) (a + k + 1)
theorem shup_len (d : List Int) (a : Nat) : ∀ k, (shup d a k).length = d.length
  | 0 => rfl
  | k + 1 => by rw [shup, swp2_len, shup_len d a k]
theorem shup_at {A : List Int} {x : Int} {a : Nat} (ha : A.length = a) : ∀ (k : Nat) (V R : List Int), V.length = k → shup (A ++ x :: V ++ R) a k = A ++ V ++ x :: R
  | 0, V, R, h => by rw [List.length_eq_zero_iff.1 h]; simp [shup]
  | k + 1, V, R, h => by
    obtain ⟨V', v, rfl⟩ := last_of (l := V) (fun e => by rw [e] at h; simp at h)
    simp only [List.length_append, List.length_cons, List.length_nil] at h
    rw [shup, show A ++ x :: (V' ++ [v]) ++ R = A ++ x :: V' ++ v :: R by simp, shup_at ha k V' (v :: R) (by omega),
      show A ++ V' ++ x :: v :: R = (A ++ V') ++ x :: [] ++ v :: R by simp, swp2_at (by simp; omega) (by simp)]
    simp
/-- the last one of a list moves down -/
def shdn (d : List Int) (m : Nat) : Nat → List Int
  | 0 => d
  | k + 1 => swp2 (shdn d m k) (m - k - 1) (m - k)
theorem shdn_len (d : List Int) (m : Nat) : ∀ k, (shdn d m k).length = d.length
  | 0 => rfl
  | k + 1 => by rw [shdn, swp2_len, shdn_len d m k]
theorem shdn_at {x : Int} {m : Nat} : ∀ (k : Nat) (A U R : List Int), U.length = k → A.length + k = m → shdn (A ++ U ++ x :: R) m k = A ++ x :: U ++ R
  | 0, A, U, R, h, _ => by rw [List.length_eq_zero_iff.1 h]; simp [shdn]
  | k + 1, A, U, R, h, hm => by
    cases U with
    | nil => simp at h
    | cons u U =>
      simp only [List.length_cons] at h
      rw [shdn, show A ++ u :: U ++ x :: R = (A ++ [u]) ++ U ++ x :: R by simp, shdn_at k (A ++ [u]) U R (by omega) (by simp; omega),
        show (A ++ [u]) ++ x :: U ++ R = A ++ u :: [] ++ x :: (U ++ R) by simp, swp2_at (by omega) (by simp; omega)]
      simp
/-- one element ahead of a list in order, where the search ends -/
theorem one_up {lx : Int → Int → Prop} (htr : ∀ x y z, lx x y → lx y z → lx x z) {A V B : List Int} {x : Int} {a b i : Nat} (ha : A.length = a) (hb : a + 1 + V.length = b) (hV : V.Pairwise lx) (i0 : a + 1 ≤ i) (i1 : i ≤ b)
    (e1 : i = a + 1 ∨ lx ((A ++ x :: V ++ B).getD (i - 1) 0) x) (e2 : i = b ∨ lx x ((A ++ x :: V ++ B).getD i 0)) :
    ∃ M, shup (A ++ x :: V ++ B) a (i - 1 - a) = A ++ M ++ B ∧ M.Perm (x :: V) ∧ M.Pairwise lx := by
  obtain ⟨V1, V2, rfl, l1⟩ := split_len (l := V) (k := i - 1 - a) (by omega)
  simp only [List.length_append] at hb
  have hV' := List.pairwise_append.1 hV
  refine ⟨V1 ++ x :: V2, ?_, List.perm_middle, List.pairwise_append.2 ⟨hV'.1, List.pairwise_cons.2 ⟨fun y hy => ?_, hV'.2.1⟩, fun v hv y hy => ?_⟩⟩
  · rw [show A ++ x :: (V1 ++ V2) ++ B = A ++ x :: V1 ++ (V2 ++ B) by simp, shup_at ha _ V1 _ l1]; simp
  · cases V2 with
    | nil => cases hy
    | cons v' V2' =>
      have e : lx x v' := by
        rcases e2 with e | e
        · simp only [List.length_cons] at hb; omega
        · rw [show A ++ x :: (V1 ++ v' :: V2') ++ B = (A ++ x :: V1) ++ v' :: (V2' ++ B) by simp, getD_mid (by simp; omega)] at e
          exact e
      rcases List.mem_cons.1 hy with rfl | h
      · exact e
      · exact htr _ _ _ e ((List.pairwise_cons.1 hV'.2.1).1 y h)
  · have hvx : lx v x := by
      obtain ⟨V1', v', rfl⟩ := last_of (List.ne_nil_of_mem hv)
      simp only [List.length_append, List.length_cons, List.length_nil] at l1
      have e : lx v' x := by
        rcases e1 with e | e
        · omega
        · rw [show A ++ x :: (V1' ++ [v'] ++ V2) ++ B = (A ++ x :: V1') ++ v' :: (V2 ++ B) by simp, getD_mid (by simp; omega)] at e
          exact e
      rcases List.mem_append.1 hv with h | h
      · exact htr _ _ _ ((List.pairwise_append.1 hV'.1).2.2 v h v' (by simp)) e
      · rw [List.mem_singleton.1 h]; exact e
    rcases List.mem_cons.1 hy with rfl | h
    · exact hvx
    · exact hV'.2.2 v hv y h
/-- one element behind a list in order, where the search ends -/
theorem one_dn {lx : Int → Int → Prop} (htr : ∀ x y z, lx x y → lx y z → lx x z) {A U B : List Int} {x : Int} {a m i : Nat} (ha : A.length = a) (hm : a + U.length = m) (hU : U.Pairwise lx) (i0 : a ≤ i) (i1 : i ≤ m)
    (e1 : i = a ∨ lx ((A ++ U ++ x :: B).getD (i - 1) 0) x) (e2 : i = m ∨ lx x ((A ++ U ++ x :: B).getD i 0)) :
    ∃ M, shdn (A ++ U ++ x :: B) m (m - i) = A ++ M ++ B ∧ M.Perm (U ++ [x]) ∧ M.Pairwise lx := by
  obtain ⟨U1, U2, rfl, l1⟩ := split_len (l := U) (k := i - a) (by omega)
  simp only [List.length_append] at hm
  have hU' := List.pairwise_append.1 hU
  refine ⟨U1 ++ x :: U2, ?_, ?_, List.pairwise_append.2 ⟨hU'.1, List.pairwise_cons.2 ⟨fun y hy => ?_, hU'.2.1⟩, fun v hv y hy => ?_⟩⟩
  · rw [show A ++ (U1 ++ U2) ++ x :: B = (A ++ U1) ++ U2 ++ x :: B by simp, shdn_at _ (A ++ U1) U2 B (by omega) (by simp; omega)]; simp
  · rw [List.append_assoc]
    refine List.Perm.append_left _ ?_
    exact (List.perm_append_comm (l₁ := U2) (l₂ := [x])).symm
  · cases U2 with
    | nil => cases hy
    | cons v' U2' =>
      have e : lx x v' := by
        rcases e2 with e | e
        · simp only [List.length_cons] at hm; omega
        · rw [show A ++ (U1 ++ v' :: U2') ++ x :: B = (A ++ U1) ++ v' :: (U2' ++ x :: B) by simp, getD_mid (i := i) (by simp; omega)] at e
          exact e
      rcases List.mem_cons.1 hy with rfl | h
      · exact e
      · exact htr _ _ _ e ((List.pairwise_cons.1 hU'.2.1).1 y h)
  · have hvx : lx v x := by
      obtain ⟨U1', v', rfl⟩ := last_of (List.ne_nil_of_mem hv)
      simp only [List.length_append, List.length_cons, List.length_nil] at l1
      have e : lx v' x := by
        rcases e1 with e | e
        · omega
        · rw [show A ++ (U1' ++ [v'] ++ U2) ++ x :: B = (A ++ U1') ++ v' :: (U2 ++ x :: B) by simp, getD_mid (i := i - 1) (by simp; omega)] at e
          exact e
      rcases List.mem_append.1 hv with h | h
      · exact htr _ _ _ ((List.pairwise_append.1 hU'.1).2.2 v h v' (by simp)) e
      · rw [List.mem_singleton.1 h]; exact e
    rcases List.mem_cons.1 hy with rfl | h
    · exact hvx
    · exact hU'.2.2 v hv y h

end Go.Proofs.Ytmoanndonfmihaa
