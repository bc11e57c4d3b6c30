/-
  Two sales, and one of both; the dearest way. Nothing of the program is used here.
-/
import Derived.Test.YtbohdhiadgcljaaLotG
namespace Go.Proofs.Ytbohdhiadgcljaa
set_option linter.unusedVariables false

theorem sell_none (pick : List (Int × Int × Int) → Nat) (n : Nat) (u : Int) : sellL pick n [] u = ([], 0) := by
  induction n generalizing u with
  | zero => rfl
  | succ n ih =>
    rw [sellL]
    have e : (([] : List (Int × Int × Int)).getD (pick []) default) = (0, 0, 0) := rfl
    rw [e]
    by_cases h : u ≤ 0
    · rw [if_pos h]
    · rw [if_neg h, if_neg (by simp only; omega)]
      simp only [List.eraseIdx_nil, ih]
      rfl
/-- more rounds than lots change nothing -/
theorem sell_fuel (pick : List (Int × Int × Int) → Nat) (hp : ∀ l : List (Int × Int × Int), 0 < l.length → pick l < l.length) (n m : Nat) (l : List (Int × Int × Int)) (u : Int) (hn : l.length ≤ n) (hm : l.length ≤ m) : sellL pick n l u = sellL pick m l u := by
  induction n generalizing m l u with
  | zero =>
    obtain rfl : l = [] := List.eq_nil_of_length_eq_zero (by omega)
    rw [sell_none, sell_none]
  | succ n ih =>
    cases m with
    | zero =>
      obtain rfl : l = [] := List.eq_nil_of_length_eq_zero (by omega)
      rw [sell_none, sell_none]
    | succ m =>
      by_cases hl : 0 < l.length
      · have hlen := List.length_eraseIdx_of_lt (hp l hl)
        rw [sellL, sellL, ih m (l.eraseIdx (pick l)) _ (by omega) (by omega)]
      · obtain rfl : l = [] := List.eq_nil_of_length_eq_zero (by omega)
        rw [sell_none, sell_none]

theorem floor_parts {C U a b : Int} (hU : 0 < U) (ha : 0 ≤ a) (hb : 0 ≤ b) (hab : a + b < U) (hC : 0 ≤ C) :
    C * a / U + (C - C * a / U) * b / (U - a) ≤ C * (a + b) / U ∧ C * (a + b) / U - C * a / U - (C - C * a / U) * b / (U - a) ≤ 1 := by
  have hV : 0 < U - a := by omega
  obtain ⟨p, hp⟩ : ∃ p, p = C * a / U := ⟨_, rfl⟩
  obtain ⟨q, hq⟩ : ∃ q, q = (C - p) * b / (U - a) := ⟨_, rfl⟩
  obtain ⟨g, hg⟩ : ∃ g, g = C * (a + b) / U := ⟨_, rfl⟩
  rw [← hp, ← hq, ← hg]
  -- p U ≤ C a < (p + 1) U
  have p1 : p * U ≤ C * a := by rw [hp]; exact Int.ediv_mul_le _ (by omega)
  have p2 : C * a < (p + 1) * U := by rw [hp]; exact Int.lt_ediv_add_one_mul_self _ hU
  have q1 : q * (U - a) ≤ (C - p) * b := by rw [hq]; exact Int.ediv_mul_le _ (by omega)
  have q2 : (C - p) * b < (q + 1) * (U - a) := by rw [hq]; exact Int.lt_ediv_add_one_mul_self _ hV
  have g1 : g * U ≤ C * (a + b) := by rw [hg]; exact Int.ediv_mul_le _ (by omega)
  have g2 : C * (a + b) < (g + 1) * U := by rw [hg]; exact Int.lt_ediv_add_one_mul_self _ hU
  -- the rest r = C a - p U, from 0 to below U
  obtain ⟨r, hr⟩ : ∃ r, r = C * a - p * U := ⟨_, rfl⟩
  have r0 : 0 ≤ r := by omega
  have r1 : r < U := by rw [hr, Int.add_mul] at *; omega
  -- U (C - p) b = (U - a) C b + r b
  have e1 : U * ((C - p) * b) = (U - a) * (C * b) + r * b := by
    rw [hr]
    have : U * ((C - p) * b) = C * b * U - p * U * b := by
      rw [Int.sub_mul, Int.mul_sub]
      congr 1
      · rw [Int.mul_comm]
      · rw [← Int.mul_assoc, Int.mul_comm U p]
    rw [this, Int.sub_mul, Int.sub_mul]
    have h1 : U * (C * b) = C * b * U := Int.mul_comm _ _
    have h2 : a * (C * b) = C * a * b := by rw [← Int.mul_assoc, Int.mul_comm a C]
    omega
  have rb0 : 0 ≤ r * b := Int.mul_nonneg r0 hb
  have rb1 : r * b ≤ r * (U - a) := Int.mul_le_mul_of_nonneg_left (by omega) r0
  have cab : C * (a + b) = C * a + C * b := Int.mul_add _ _ _
  -- everything times U (U - a)
  have k1 : q * (U - a) * U ≤ U * ((C - p) * b) := by rw [Int.mul_comm]; exact Int.mul_le_mul_of_nonneg_left q1 (by omega)
  have k2 : U * ((C - p) * b) < (q + 1) * (U - a) * U := by rw [Int.mul_comm _ U]; exact Int.mul_lt_mul_of_pos_left q2 hU
  have s1 : (p + q) * U * (U - a) ≤ C * (a + b) * (U - a) := by
    have : (p + q) * U * (U - a) = p * U * (U - a) + q * (U - a) * U := by
      rw [Int.add_mul, Int.add_mul]
      congr 1
      rw [Int.mul_assoc, Int.mul_assoc, Int.mul_comm U]
    have h2 : C * (a + b) * (U - a) = C * a * (U - a) + (U - a) * (C * b) := by rw [cab, Int.add_mul, Int.mul_comm (C * b)]
    have h3 : C * a * (U - a) = p * U * (U - a) + r * (U - a) := by rw [← Int.add_mul, hr]; congr 1; omega
    omega
  have s2 : C * (a + b) * (U - a) < (p + q + 2) * U * (U - a) := by
    have : (p + q + 2) * U * (U - a) = p * U * (U - a) + (q + 1) * (U - a) * U + U * (U - a) := by
      have h : (p + q + 2) = p + (q + 1) + 1 := by omega
      rw [h, Int.add_mul, Int.add_mul, Int.add_mul, Int.add_mul, Int.one_mul]
      congr 2
      rw [Int.mul_assoc, Int.mul_assoc, Int.mul_comm U]
    have h2 : C * (a + b) * (U - a) = C * a * (U - a) + (U - a) * (C * b) := by rw [cab, Int.add_mul, Int.mul_comm (C * b)]
    have h3 : C * a * (U - a) = p * U * (U - a) + r * (U - a) := by rw [← Int.add_mul, hr]; congr 1; omega
    have h4 : r * (U - a) < U * (U - a) := Int.mul_lt_mul_of_pos_right r1 hV
    omega
  have t1 : (p + q) * U ≤ C * (a + b) := Int.le_of_mul_le_mul_right s1 hV
  have t2 : C * (a + b) < (p + q + 2) * U := Int.lt_of_mul_lt_mul_right s2 (Int.le_of_lt hV)
  have u1 : p + q < g + 1 := Int.lt_of_mul_lt_mul_right (Int.lt_of_le_of_lt t1 g2) (Int.le_of_lt hU)
  have u2 : g < p + q + 2 := Int.lt_of_mul_lt_mul_right (Int.lt_of_le_of_lt g1 t2) (Int.le_of_lt hU)
  omega

/-- as many units of each lot -/
def shape (l : List (Int × Int × Int)) : List (Int × Int) := l.map fun p => (p.1, p.2.1)
theorem shape_set (l : List (Int × Int × Int)) (i : Nat) (p q : Int × Int × Int) (h : p.1 = q.1 ∧ p.2.1 = q.2.1) : shape (l.set i p) = shape (l.set i q) := by
  unfold shape
  rw [List.map_set, List.map_set, h.1, h.2]
theorem getD_set_self {l : List (Int × Int × Int)} {i : Nat} (hi : i < l.length) (q : Int × Int × Int) : (l.set i q).getD i default = q := by
  rw [List.getD_eq_getElem?_getD, List.getElem?_set]; simp [hi]
theorem erase_set' (ps : List (Int × Int × Int)) (k : Nat) (x : Int × Int × Int) : (ps.set k x).eraseIdx k = ps.eraseIdx k := by
  induction ps generalizing k with
  | nil => simp
  | cons p l ih => cases k with
    | zero => simp
    | succ k => simp [ih]

theorem sell_parts (pick : List (Int × Int × Int) → Nat) (hp : ∀ l : List (Int × Int × Int), 0 < l.length → pick l < l.length) (hs : ∀ (l : List (Int × Int × Int)) i q, pick (l.set i q) = pick l) (n : Nat) (l : List (Int × Int × Int)) (a b : Int) (hB : ∀ p ∈ l, lotB p = true) (hn : l.length ≤ n) (ha : 0 ≤ a) (hb : 0 ≤ b) (hab : a + b ≤ unitsOf l) :
    shape (sellL pick n (sellL pick n l a).1 b).1 = shape (sellL pick n l (a + b)).1 ∧ (sellL pick n l a).2 + (sellL pick n (sellL pick n l a).1 b).2 ≤ (sellL pick n l (a + b)).2 ∧ (sellL pick n l (a + b)).2 - (sellL pick n l a).2 - (sellL pick n (sellL pick n l a).1 b).2 ≤ 1 := by
  induction n generalizing l a with
  | zero =>
    obtain rfl : l = [] := List.eq_nil_of_length_eq_zero (by omega)
    simp [sellL]
  | succ n ih =>
    by_cases ha0 : a ≤ 0
    · obtain rfl : a = 0 := by omega
      rw [sell_nil pick (n + 1) l 0 (Int.le_refl _), Int.zero_add]
      refine ⟨rfl, by simp only; omega, by simp only; omega⟩
    · have hl : 0 < l.length := by
        cases l with
        | nil => simp [unitsOf] at hab; omega
        | cons _ _ => simp
      have hi := hp l hl
      have hlen := List.length_eraseIdx_of_lt hi
      have hlot := hB _ (getD_memL hi)
      have hbd := lot_t hlot
      have hue := units_erase hi
      obtain ⟨i, hie⟩ : ∃ i, i = pick l := ⟨_, rfl⟩
      obtain ⟨D, U, Q, hd⟩ : ∃ D U Q, l.getD (pick l) default = (D, U, Q) := ⟨_, _, _, rfl⟩
      rw [hd] at hlot hbd hue
      simp only at hbd hue
      rw [← hie] at hi hlen hue hd
      by_cases h1 : a < U
      · have ex : sellL pick (n + 1) l a = (l.set i (D, U - a, Q - partC (D, U, Q) a), partC (D, U, Q) a) := by rw [sellL, if_neg ha0, ← hie, hd, if_pos h1]
        rw [ex]
        simp only
        have hpx : pick (l.set i (D, U - a, Q - partC (D, U, Q) a)) = i := by rw [hs, hie]
        by_cases hb0 : b ≤ 0
        · obtain rfl : b = 0 := by omega
          rw [sell_nil pick (n + 1) _ 0 (Int.le_refl _), Int.add_zero, ex]
          exact ⟨rfl, by simp only; omega, by simp only; omega⟩
        · by_cases h2 : b < U - a
          · have ey : sellL pick (n + 1) (l.set i (D, U - a, Q - partC (D, U, Q) a)) b = ((l.set i (D, U - a, Q - partC (D, U, Q) a)).set i (D, U - a - b, Q - partC (D, U, Q) a - partC (D, U - a, Q - partC (D, U, Q) a) b), partC (D, U - a, Q - partC (D, U, Q) a) b) := by
              rw [sellL, if_neg hb0, hpx, getD_set_self hi, if_pos h2]
            have ez : sellL pick (n + 1) l (a + b) = (l.set i (D, U - (a + b), Q - partC (D, U, Q) (a + b)), partC (D, U, Q) (a + b)) := by rw [sellL, if_neg (by omega), ← hie, hd, if_pos (by simp only; omega)]
            rw [ey, ez]
            simp only
            have hf := floor_parts (C := Q) (U := U) (a := a) (b := b) (by omega) ha (by omega) (by omega) (by omega)
            refine ⟨?_, ?_, ?_⟩
            · rw [List.set_set]
              exact shape_set _ _ _ _ ⟨rfl, by simp only; omega⟩
            · unfold partC; simp only; exact hf.1
            · unfold partC; simp only; exact hf.2
          · have ey : sellL pick (n + 1) (l.set i (D, U - a, Q - partC (D, U, Q) a)) b = ((sellL pick n (l.eraseIdx i) (b - (U - a))).1, (sellL pick n (l.eraseIdx i) (b - (U - a))).2 + (Q - partC (D, U, Q) a)) := by
              rw [sellL, if_neg hb0, hpx, getD_set_self hi, if_neg h2, erase_set']
            have ez : sellL pick (n + 1) l (a + b) = ((sellL pick n (l.eraseIdx i) (a + b - U)).1, (sellL pick n (l.eraseIdx i) (a + b - U)).2 + Q) := by
              rw [sellL, if_neg (by omega), ← hie, hd, if_neg (by simp only; omega)]
            rw [ey, ez, show b - (U - a) = a + b - U by omega]
            simp only
            exact ⟨by first | rfl | trivial, by omega, by omega⟩
      · have ex : sellL pick (n + 1) l a = ((sellL pick n (l.eraseIdx i) (a - U)).1, (sellL pick n (l.eraseIdx i) (a - U)).2 + Q) := by rw [sellL, if_neg ha0, ← hie, hd, if_neg h1]
        have ez : sellL pick (n + 1) l (a + b) = ((sellL pick n (l.eraseIdx i) (a + b - U)).1, (sellL pick n (l.eraseIdx i) (a + b - U)).2 + Q) := by
          rw [sellL, if_neg (by omega), ← hie, hd, if_neg (by simp only; omega)]
        have hI := ih (l.eraseIdx i) (a - U) (all_erase hB _) (by omega) (by omega) (by omega)
        rw [ex, ez]
        simp only
        -- the rest has few enough lots for n rounds
        have hle : (sellL pick n (l.eraseIdx i) (a - U)).1.length ≤ n := by
          have hlt : ∀ (m : Nat) (k : List (Int × Int × Int)) (u : Int), (sellL pick m k u).1.length ≤ k.length := fun m => by
            induction m with
            | zero => intro k u; exact Nat.le_refl _
            | succ m ihm =>
              intro k u
              rw [sellL]
              split
              · exact Nat.le_refl _
              · split
                · simp
                · simp only
                  exact Nat.le_trans (ihm _ _) (List.length_eraseIdx_le _ _)
          have := hlt n (l.eraseIdx i) (a - U)
          omega
        rw [sell_fuel pick hp (n + 1) n (sellL pick n (l.eraseIdx i) (a - U)).1 b (by omega) hle, show a + b - U = a - U + b by omega]
        exact ⟨hI.1, by omega, by omega⟩

end Go.Proofs.Ytbohdhiadgcljaa
