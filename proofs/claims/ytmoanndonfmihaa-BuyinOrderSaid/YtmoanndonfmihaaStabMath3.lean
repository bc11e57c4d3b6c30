/-
  The plain mathematics of a stable sort, third part: two parts change places; where the elements of a part stand.
-/
import Derived.Test.YtmoanndonfmihaaStabMath2
namespace Go.Proofs.Ytmoanndonfmihaa
set_option linter.unusedVariables false

/-- two parts ahead of and behind m, i and j long, are still to change places; T is what comes of it -/
def RotAt (T d : List Int) (m i j : Nat) : Prop := ∃ A P Q B : List Int, d = A ++ P ++ Q ++ B ∧ A.length + i = m ∧ P.length = i ∧ Q.length = j ∧ A ++ Q ++ P ++ B = T
theorem RotAt.gt {T d : List Int} {m i j : Nat} (h : RotAt T d m i j) (hij : j < i) : RotAt T (swr d (m - i) m j) m (i - j) j := by
  obtain ⟨A, P, Q, B, rfl, hA, hP, hQ, rfl⟩ := h
  obtain ⟨P1, P2, rfl, l1⟩ := split_len (l := P) (k := j) (by omega)
  simp only [List.length_append] at hP
  refine ⟨A ++ Q, P2, P1, B, ?_, by simp; omega, by omega, l1, by simp⟩
  have := swr_all (P := A) (X := P1) (Q := P2) (Y := Q) (R := B) (a := m - i) (b := m) (k := j) (by omega) l1 hQ (by omega)
  rw [show A ++ (P1 ++ P2) ++ Q ++ B = A ++ P1 ++ P2 ++ Q ++ B by simp, this]
theorem RotAt.lt {T d : List Int} {m i j : Nat} (h : RotAt T d m i j) (hij : i < j) : RotAt T (swr d (m - i) (m + j - i) i) m i (j - i) := by
  obtain ⟨A, P, Q, B, rfl, hA, hP, hQ, rfl⟩ := h
  obtain ⟨Q1, Q2, rfl, l1⟩ := split_len (l := Q) (k := j - i) (by omega)
  simp only [List.length_append] at hQ
  refine ⟨A, Q2, Q1, P ++ B, ?_, hA, by omega, l1, by simp⟩
  have := swr_all (P := A) (X := P) (Q := Q1) (Y := Q2) (R := B) (a := m - i) (b := m + j - i) (k := i) (by omega) hP (by omega) (by omega)
  rw [show A ++ P ++ (Q1 ++ Q2) ++ B = A ++ P ++ Q1 ++ Q2 ++ B by simp, this]; simp
theorem RotAt.fin {T d : List Int} {m i : Nat} (h : RotAt T d m i i) : swr d (m - i) m i = T := by
  obtain ⟨A, P, Q, B, rfl, hA, hP, hQ, rfl⟩ := h
  have := swr_all (P := A) (X := P) (Q := []) (Y := Q) (R := B) (a := m - i) (b := m) (k := i) (by omega) hP hQ (by simp; omega)
  simpa using this
theorem RotAt.len {T d : List Int} {m i j : Nat} (h : RotAt T d m i j) : i ≤ m ∧ m + j ≤ d.length ∧ d.length = T.length := by
  obtain ⟨A, P, Q, B, rfl, hA, hP, hQ, rfl⟩ := h
  simp; omega

theorem mem_mid {A U R : List Int} {a c : Nat} (ha : A.length = a) (h0 : a ≤ c) (h1 : c < a + U.length) : (A ++ U ++ R).getD c 0 ∈ U := by
  subst ha
  rw [List.append_assoc, List.getD_eq_getElem?_getD, List.getElem?_append_right h0, List.getElem?_append_left (by omega), List.getElem?_eq_getElem (by omega)]
  simp
theorem mem_mid2 {A U V B : List Int} {m c : Nat} (ha : A.length + U.length = m) (h0 : m ≤ c) (h1 : c < m + V.length) : (A ++ U ++ V ++ B).getD c 0 ∈ V :=
  mem_mid (A := A ++ U) (by simp; omega) h0 h1

/-- the numbers below n -/
def iota (n : Nat) : List Int := (List.range n).map fun i : Nat => (i : Int)
theorem iota_len (n : Nat) : (iota n).length = n := by simp [iota]
theorem iota_mem {n : Nat} {x : Int} : x ∈ iota n ↔ 0 ≤ x ∧ x < n := by
  simp only [iota, List.mem_map, List.mem_range]
  constructor
  · rintro ⟨i, hi, rfl⟩; omega
  · rintro ⟨h0, h1⟩; exact ⟨x.toNat, by omega, by omega⟩
theorem iota_sorted (n : Nat) : (iota n).Pairwise (· < ·) := by
  unfold iota
  rw [List.pairwise_map]
  exact (List.pairwise_lt_range).imp (fun h => by omega)

/-- what a comparison of places must be: 'cf' of keys, and the earlier first of equals -/
structure Keyed (N : Nat) (cf : Int → Int → Int) (lx : Int → Int → Prop) : Prop where
  tr : ∀ x y z : Int, lx x y → lx y z → lx x z
  lt : ∀ x y : Int, 0 ≤ x → x < N → 0 ≤ y → y < N → x < y → cf y x < 0 → lx y x
  ge : ∀ x y : Int, 0 ≤ x → x < N → 0 ≤ y → y < N → x < y → ¬ cf y x < 0 → lx x y

end Go.Proofs.Ytmoanndonfmihaa
