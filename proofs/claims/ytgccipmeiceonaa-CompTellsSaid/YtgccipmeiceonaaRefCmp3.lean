/-
  CompMiddle of the reference: one of which as many are below, or as much and ahead, is the middle of all in order.
-/
import Derived.Test.YtgccipmeiceonaaRefPrc
import Derived.Test.YtgccipmeiceonaaCompB
import Derived.Test.YtgccipmeiceonaaLawCM
import Derived.Test.YtgccipmeiceonaaQuietK
namespace Go.Proofs.Ytgccipmeiceonaa
open Go.RowKit
set_option linter.unusedVariables false

/-- how many stand ahead of place i, of the first j -/
def ahF (zs : List Int) (i : Nat) : Nat → Nat
  | 0 => 0
  | j + 1 => ahF zs i j + if zs.getD j 0 < zs.getD i 0 ∨ (zs.getD j 0 = zs.getD i 0 ∧ j < i) then 1 else 0
theorem ahF_le (zs : List Int) (i : Nat) : ∀ j, ahF zs i j ≤ j
  | 0 => Nat.le_refl _
  | j + 1 => by have := ahF_le zs i j; unfold ahF; split <;> omega
theorem take_s (zs : List Int) {j : Nat} (h : j < zs.length) : zs.take (j + 1) = zs.take j ++ [zs.getD j 0] := by
  rw [List.getD_eq_getElem?_getD, List.getElem?_eq_getElem h, Option.getD_some]
  exact (List.take_append_getElem h).symm
theorem ahF_eq (zs : List Int) (i : Nat) : ∀ j, j ≤ zs.length → ahF zs i j = (zs.take j).countP (fun z => decide (z < zs.getD i 0)) + (zs.take (min j i)).countP (fun z => decide (z = zs.getD i 0))
  | 0, _ => by simp [ahF]
  | j + 1, h => by
    have ih := ahF_eq zs i j (by omega)
    unfold ahF
    rw [ih, take_s zs (by omega : j < zs.length), List.countP_append]
    simp only [List.countP_cons, List.countP_nil]
    rcases Nat.lt_or_ge j i with g | g
    · rw [show min (j + 1) i = j + 1 by omega, show min j i = j by omega, take_s zs (by omega : j < zs.length), List.countP_append]
      simp only [List.countP_cons, List.countP_nil]
      by_cases h1 : zs.getD j 0 < zs.getD i 0
      · have h2 : ¬ zs.getD j 0 = zs.getD i 0 := by omega
        simp only [h1, h2, true_or, decide_true, decide_false, if_true]; simp; omega
      · by_cases h2 : zs.getD j 0 = zs.getD i 0
        · rw [if_pos (Or.inr ⟨h2, g⟩), decide_eq_false h1, decide_eq_true h2]; simp only [Bool.false_eq_true, if_false, if_true]; omega
        · simp only [h1, h2, false_and, or_self, decide_false, if_false]; simp
    · rw [show min (j + 1) i = i by omega, show min j i = i by omega]
      have g' : ¬ j < i := by omega
      by_cases h1 : zs.getD j 0 < zs.getD i 0
      · simp only [h1, true_or, decide_true, if_true]; simp; omega
      · simp only [h1, g', and_false, or_self, decide_false, if_false]; simp
theorem cnt_at : ∀ (zs : List Int) (m : Int) (r : Nat), r < zs.countP (fun z => decide (z = m)) → ∃ i, i < zs.length ∧ zs.getD i 0 = m ∧ (zs.take i).countP (fun z => decide (z = m)) = r
  | [], m, r, h => by simp at h
  | z :: zs, m, r, h => by
    by_cases e : z = m
    · cases r with
      | zero => exact ⟨0, by simp, by simp [e], by simp⟩
      | succ r =>
        have h' : r < zs.countP (fun z => decide (z = m)) := by
          rw [List.countP_cons] at h; simp [e] at h; omega
        obtain ⟨i, h1, h2, h3⟩ := cnt_at zs m r h'
        exact ⟨i + 1, by simp; omega, by simpa using h2, by rw [List.take_succ_cons, List.countP_cons, h3]; simp [e]⟩
    · have h' : r < zs.countP (fun z => decide (z = m)) := by
        rw [List.countP_cons] at h; simp [e] at h; omega
      obtain ⟨i, h1, h2, h3⟩ := cnt_at zs m r h'
      exact ⟨i + 1, by simp; omega, by simpa using h2, by rw [List.take_succ_cons, List.countP_cons, h3]; simp [e]⟩
theorem cnt_split (zs : List Int) (m : Int) : zs.countP (fun z => decide (z < m)) + zs.countP (fun z => decide (z = m)) + zs.countP (fun z => decide (m < z)) = zs.length := by
  induction zs with
  | nil => rfl
  | cons z zs ih =>
    simp only [List.countP_cons, List.length_cons]
    rcases Int.lt_trichotomy z m with h | h | h
    · simp [h, show ¬ z = m by omega, show ¬ m < z by omega]; omega
    · subst h; simp; omega
    · simp [h, show ¬ z = m by omega, show ¬ z < m by omega]; omega
theorem cnt_mono (zs : List Int) {p q : Int → Bool} (h : ∀ z, p z = true → q z = true) : zs.countP p ≤ zs.countP q := List.countP_mono_left fun z _ => h z
theorem cnt_take_lt (zs : List Int) {i : Nat} (h : i < zs.length) : (zs.take i).countP (fun z => decide (z = zs.getD i 0)) + 1 ≤ zs.countP (fun z => decide (z = zs.getD i 0)) := by
  have e : zs.countP (fun z => decide (z = zs.getD i 0)) = (zs.take (i + 1)).countP (fun z => decide (z = zs.getD i 0)) + (zs.drop (i + 1)).countP (fun z => decide (z = zs.getD i 0)) := by
    rw [← List.countP_append, List.take_append_drop]
  rw [e, take_s zs h, List.countP_append]
  simp only [List.countP_cons, List.countP_nil, decide_true, if_true]
  omega
/-- the place of which k stand ahead is that of the k-th in order -/
theorem ahF_uniq (zs : List Int) (m : Int) (k : Nat) (hb : zs.countP (fun z => decide (z < m)) ≤ k) (ha : zs.countP (fun z => decide (m < z)) + 1 + k ≤ zs.length) {i : Nat} (hi : i < zs.length) (h : ahF zs i zs.length = k) : zs.getD i 0 = m := by
  rw [ahF_eq zs i _ (Nat.le_refl _), List.take_length, show min zs.length i = i by omega] at h
  have h1 := cnt_take_lt zs hi
  have s1 := cnt_split zs (zs.getD i 0)
  have s2 := cnt_split zs m
  rcases Int.lt_trichotomy (zs.getD i 0) m with g | g | g
  · have : zs.countP (fun z => decide (z < zs.getD i 0)) + zs.countP (fun z => decide (z = zs.getD i 0)) ≤ zs.countP (fun z => decide (z < m)) := by
      clear h h1 s1 s2 hi hb ha
      generalize zs.getD i 0 = x at *
      induction zs with
      | nil => simp
      | cons z zs ih =>
        simp only [List.countP_cons]
        by_cases a1 : z < x
        · simp [a1, show ¬ z = x by omega, show z < m by omega]; omega
        · by_cases a2 : z = x
          · subst a2; simp [g]; omega
          · simp [a1, a2]; split <;> omega
    omega
  · exact g
  · have : zs.countP (fun z => decide (z < m)) + zs.countP (fun z => decide (z = m)) ≤ zs.countP (fun z => decide (z < zs.getD i 0)) := by
      clear h h1 s1 s2 hi hb ha
      generalize zs.getD i 0 = x at *
      induction zs with
      | nil => simp
      | cons z zs ih =>
        simp only [List.countP_cons]
        by_cases a1 : z < m
        · simp [a1, show ¬ z = m by omega, show z < x by omega]; omega
        · by_cases a2 : z = m
          · subst a2; simp [g]; omega
          · simp [a1, a2]; split <;> omega
    omega
theorem ahF_ex (zs : List Int) (m : Int) (k : Nat) (hb : zs.countP (fun z => decide (z < m)) ≤ k) (ha : zs.countP (fun z => decide (m < z)) + 1 + k ≤ zs.length) : ∃ i, i < zs.length ∧ ahF zs i zs.length = k := by
  have s2 := cnt_split zs m
  obtain ⟨i, h1, h2, h3⟩ := cnt_at zs m (k - zs.countP (fun z => decide (z < m))) (by omega)
  refine ⟨i, h1, ?_⟩
  rw [ahF_eq zs i _ (Nat.le_refl _), List.take_length, show min zs.length i = i by omega, h2, h3]
  omega
/-- what the first i places leave -/
def mdF (zs : List Int) (k : Nat) : Nat → Int
  | 0 => 0
  | i + 1 => if ahF zs i zs.length = k then zs.getD i 0 else mdF zs k i
theorem mdF_all (zs : List Int) (m : Int) (k : Nat) (hb : zs.countP (fun z => decide (z < m)) ≤ k) (ha : zs.countP (fun z => decide (m < z)) + 1 + k ≤ zs.length) : mdF zs k zs.length = m := by
  obtain ⟨i, h1, h2⟩ := ahF_ex zs m k hb ha
  have key : ∀ n, n ≤ zs.length → i < n → mdF zs k n = m := by
    intro n
    induction n with
    | zero => intro _ h; omega
    | succ n ih =>
      intro hn hi
      unfold mdF
      split
      · rename_i q; exact ahF_uniq zs m k hb ha (by omega) q
      · rename_i q
        rcases Nat.lt_or_ge i n with g | g
        · exact ih (by omega) g
        · obtain rfl : i = n := by omega
          exact absurd h2 q
  exact key _ (Nat.le_refl _) h1

theorem mdF_mid {zs : List Int} (h0 : 0 < zs.length) : mdF zs ((zs.length - 1) / 2) zs.length = (srt zs).getD ((zs.length - 1) / 2) 0 := by
  have c := mid_counts (zs := zs) (k := (zs.length - 1) / 2) (by omega)
  obtain ⟨c1, c2, -⟩ := c
  unfold belF at c1
  unfold aboF at c2
  exact mdF_all zs _ _ (by omega) (by omega)

theorem rmid_none (a : Option Addr) (cap : Nat) (w : World) : Calls Try.prog 21 #[.slice a 0 cap] w fun e w' => e = .returned (.tuple #[.int .i64 0, .int .i64 1]) ∧ Kpt w w' := by
  go_enter Try.func21, Try.ntmps21
  go_wp2
  go_ret2
  exact ⟨rfl, Kpt.refl _⟩
theorem rmid_many (a : Option Addr) (n cap : Nat) (hn : 40 < n) (hb : n ≤ maxLen) (w : World) : Calls Try.prog 21 #[.slice a n cap] w fun e w' => e = .returned (.tuple #[.int .i64 0, .int .i64 2]) ∧ Kpt w w' := by
  unfold maxLen at hb
  have h1 : (40 : Int) < (n : Int) := by omega
  have q1 : ((n : Int) == 0) = false := beq_eq_false_iff_ne.2 (by omega)
  go_enter Try.func21, Try.ntmps21
  go_wp2
  go_ret2
  exact ⟨rfl, Kpt.refl _⟩

set_option maxRecDepth 100000 in
set_option maxHeartbeats 4000000 in
theorem rmid_few (b off cap n : Nat) (zs : List Int) (w : World) (hn : n = zs.length) (h0 : 0 < n) (h40 : n ≤ 40) (hc : ∀ j, j < n → w.cell? ⟨b, off + j, none⟩ = some (.int .i64 (zs.getD j 0))) :
    Calls Try.prog 21 #[.slice (some ⟨b, off, none⟩) n cap] w fun e w' => e = .returned (.tuple #[.int .i64 (midQ zs), .int .i64 (midE zs)]) ∧ Kpt w w' := by
  have q1 : ((n : Int) == 0) = false := beq_eq_false_iff_ne.2 (by omega)
  have q2 : decide ((40 : Int) < (n : Int)) = false := decide_eq_false (by omega)
  have HC := Lib.hid hc
  have HN : Hid (∀ k, k < n → prcB (zs.getD k 0) = false → midE zs = 3) := fun k hk hb => by
    unfold midE
    rw [if_neg (by omega), if_neg (by omega), if_neg]
    intro h
    rw [all_upto h (by omega)] at hb; cases hb
  have HY : Hid ((∀ j, j < n → prcB (zs.getD j 0) = true) → midE zs = 0) := fun h => by
    unfold midE
    rw [if_neg (by omega), if_neg (by omega), if_pos]
    refine List.all_eq_true.2 fun z hz => ?_
    obtain ⟨j, hj, rfl⟩ := List.getElem_of_mem hz
    have := h j (by omega)
    rwa [List.getD_eq_getElem?_getD, List.getElem?_eq_getElem hj] at this
  have HM0 : Hid (midE zs = 3 → midQ zs = 0) := fun h => by unfold midQ; rw [h]; rfl
  obtain ⟨m, hm⟩ : ∃ m : Nat, m = (n - 1) / 2 := ⟨_, rfl⟩
  have HM1 : Hid (midE zs = 0 → midQ zs = mdF zs m n) := fun h => by unfold midQ; rw [if_pos h, hm, hn, mdF_mid (by omega)]
  have HA1 : Hid (∀ i j, ahF zs i j ≤ j) := fun i j => ahF_le zs i j
  have HAT : Hid (∀ i j, (zs.getD j 0 < zs.getD i 0 ∨ (zs.getD j 0 = zs.getD i 0 ∧ j < i)) → ahF zs i (j + 1) = ahF zs i j + 1) := fun i j h => by rw [ahF, if_pos h]
  have HAF : Hid (∀ i j, ¬ (zs.getD j 0 < zs.getD i 0 ∨ (zs.getD j 0 = zs.getD i 0 ∧ j < i)) → ahF zs i (j + 1) = ahF zs i j) := fun i j h => by rw [ahF, if_neg h]; rfl
  have HDT : Hid (∀ k, ahF zs k n = m → mdF zs m (k + 1) = zs.getD k 0) := fun k h => by rw [mdF, ← hn, if_pos h]
  have HDF : Hid (∀ k, ahF zs k n ≠ m → mdF zs m (k + 1) = mdF zs m k) := fun k h => by rw [mdF, ← hn, if_neg h]
  have hmid : ((n : Int) - 1) / 2 = (m : Int) := by omega
  have m40 : m ≤ 40 := by omega
  have A0 : Hid (∀ k, ahF zs k 0 = 0) := fun _ => rfl
  have D0 : Hid (mdF zs m 0 = 0) := rfl
  clear hc hn hm
  go_enter Try.func21, Try.ntmps21
  go_wp2
  go_loop [4] (fun i => ∃ k : Nat, k ≤ n ∧ i = .int .i64 k ∧ Hid (∀ j, j < k → prcB (zs.getD j 0) = true)) (fun i => n - (intOf i).toNat)
  case atStart => exact ⟨0, Nat.zero_le _, rfl, fun j hj => absurd hj (Nat.not_lt_zero j)⟩
  case round =>
    obtain ⟨k, hk, rfl, HA⟩ := hrel
    by_cases hlt : k < n
    · have c1 := HC.out k hlt
      have HN2 := Lib.hid (HN.out k hlt)
      have HA2 : Hid (prcB (zs.getD k 0) = true → ∀ j, j < k + 1 → prcB (zs.getD j 0) = true) := fun h j hj => by
        rcases Nat.lt_or_ge j k with g | g
        · exact HA.out j g
        · obtain rfl : j = k := by omega
          exact h
      have hk0 : (0 : Int) ≤ (k : Int) := by omega
      have hk1 : (k : Int) < (n : Int) := by omega
      generalize zs.getD k 0 = z at c1 HN2 HA2
      have PC := Lib.hid (fun w => rprc_run z w)
      cases hp : prcB z with
      | true =>
        rw [hp, if_pos rfl] at PC
        have HA3 := Lib.hid (HA2.out hp)
        clear hp
        go_wp2_with (first | (go_at_call 62; (with_reducible refine (PC.out _).mono ?_); rintro e w1 ⟨rfl, rfl⟩) | fail)
        go_round
        case rel => exact ⟨k + 1, by omega, by go_num, HA3.out⟩
        case measure => simp [intOf]; omega
      | false =>
        rw [hp, if_neg (by decide)] at PC
        have E1 := Lib.hid (HN2.out hp)
        have E2 := Lib.hid (HM0.out E1.out)
        clear hp
        go_wp2_with (first | (go_at_call 62; (with_reducible refine (PC.out _).mono ?_); rintro e w1 ⟨rfl, rfl⟩) | fail)
        go_ret2
        exact ⟨by rw [E1.out, E2.out]; rfl, Kpt.refl _⟩
    · obtain rfl : k = n := by omega
      have E1 := Lib.hid (HY.out HA.out)
      have E2 := Lib.hid (HM1.out E1.out)
      clear HN HY HM0 HM1 HA hlt hk
      go_wp2
      go_loopw [5, 6] (fun oo ii wr => ∃ i : Nat, i ≤ k ∧ ii = .int .i64 (i : Int) ∧ oo = .int .i64 (mdF zs m i) ∧ Hid (Kpt w wr)) (fun _ ii _ => k - (intOf ii).toNat)
      case atStart => exact ⟨0, Nat.zero_le _, rfl, by rw [D0.out], Kpt.refl _⟩
      case round =>
        obtain ⟨i, hi, rfl, rfl, HK⟩ := hrel
        by_cases hli : i < k
        · have ci := HK.out.cell (HC.out i hli)
          have DT := Lib.hid (HDT.out i)
          have DF := Lib.hid (HDF.out i)
          have AT := Lib.hid (HAT.out i)
          have AF := Lib.hid (HAF.out i)
          have CI := Lib.hid (HC.out i hli)
          rename World => wo
          go_wp2
          go_loopw [7, 8] (fun aa jj wr => ∃ j : Nat, j ≤ k ∧ jj = .int .i64 (j : Int) ∧ aa = .int .i64 ((ahF zs i j : Nat) : Int) ∧ Hid (Kpt w wr)) (fun _ jj _ => k - (intOf jj).toNat)
          case atStart => exact ⟨0, Nat.zero_le _, rfl, by rw [A0.out]; rfl, HK.out⟩
          case round =>
            obtain ⟨j, hj, rfl, rfl, HK2⟩ := hrel
            have ha := HA1.out i j
            by_cases hlj : j < k
            · have cj := HK2.out.cell (HC.out j hlj)
              have ci2 := HK2.out.cell CI.out
              have AT2 := Lib.hid (AT.out j)
              have AF2 := Lib.hid (AF.out j)
              have i0 : (0 : Int) ≤ (i : Int) := by omega
              have i1 : (i : Int) < (k : Int) := by omega
              have j0 : (0 : Int) ≤ (j : Int) := by omega
              have j1 : (j : Int) < (k : Int) := by omega
              generalize zs.getD j 0 = x at cj AT2 AF2
              generalize zs.getD i 0 = y at ci2 AT2 AF2
              generalize hA : ahF zs i (j + 1) = A2 at AT2 AF2
              generalize ahF zs i j = A at *
              by_cases hxy : x < y
              · have hd : decide (x < y) = true := decide_eq_true hxy
                have HS : Hid (A2 = A + 1) := AT2.out (.inl hxy)
                have HAA := Lib.hid hA
                clear hxy hA AT2 AF2
                go_wp2
                go_quiet (fail)
                go_wp2
                go_roundw
                case rel => exact ⟨j + 1, by omega, by go_num, by rw [HAA.out, HS.out]; exact congrArg (Value.int .i64) (by omega), HK2.out.drewN _⟩
                case measure => simp [intOf]; omega
              · have hd : decide (x < y) = false := decide_eq_false hxy
                by_cases hx2 : x = y
                · have hq : (x == y) = true := beq_iff_eq.2 hx2
                  by_cases hji : j < i
                  · have z1 : decide ((j : Int) < (i : Int)) = true := decide_eq_true (by omega)
                    have z2 : decide (j < i) = true := decide_eq_true hji
                    have HS : Hid (A2 = A + 1) := AT2.out (.inr ⟨hx2, hji⟩)
                    have HAA := Lib.hid hA
                    clear hxy hA AT2 AF2 hx2 hji
                    go_wp2
                    go_quiet (fail)
                    go_wp2
                    go_roundw
                    case rel => exact ⟨j + 1, by omega, by go_num, by rw [HAA.out, HS.out]; exact congrArg (Value.int .i64) (by omega), HK2.out.drewN _⟩
                    case measure => simp [intOf]; omega
                  · have z1 : decide ((j : Int) < (i : Int)) = false := decide_eq_false (by omega)
                    have z2 : decide (j < i) = false := decide_eq_false hji
                    have HS : Hid (A2 = A) := AF2.out (by omega)
                    have HAA := Lib.hid hA
                    clear hxy hA AT2 AF2 hx2 hji
                    go_wp2
                    go_quiet (fail)
                    go_wp2
                    go_roundw
                    case rel => exact ⟨j + 1, by omega, by go_num, by rw [HAA.out, HS.out], HK2.out.drewN _⟩
                    case measure => simp [intOf]; omega
                · have hq : (x == y) = false := beq_eq_false_iff_ne.2 hx2
                  have HS : Hid (A2 = A) := AF2.out (by omega)
                  have HAA := Lib.hid hA
                  clear hxy hA AT2 AF2 hx2
                  go_wp2
                  go_quiet (fail)
                  go_wp2
                  go_roundw
                  case rel => exact ⟨j + 1, by omega, by go_num, by rw [HAA.out, HS.out], HK2.out.drewN _⟩
                  case measure => simp [intOf]; omega
            · obtain rfl : j = k := by omega
              have ci3 := HK2.out.cell CI.out
              have i0 : (0 : Int) ≤ (i : Int) := by omega
              have i1 : (i : Int) < (j : Int) := by omega
              generalize ahF zs i j = A at *
              generalize hM : mdF zs m (i + 1) = M2 at DT DF
              generalize zs.getD i 0 = y at ci3 DT
              generalize mdF zs m i = M1 at *
              by_cases hA : A = m
              · have z1 : (((A : Nat) : Int) == ((m : Nat) : Int)) = true := beq_iff_eq.2 (by omega)
                have z2 : (A == m) = true := beq_iff_eq.2 hA
                have HS := Lib.hid (DT.out hA)
                have HMM := Lib.hid hM
                clear hA hM DT DF
                go_wp2
                go_roundw
                case rel => exact ⟨i + 1, by omega, by go_num, by rw [HMM.out, HS.out], HK2.out⟩
                case measure => simp [intOf]; omega
              · have z1 : (((A : Nat) : Int) == ((m : Nat) : Int)) = false := beq_eq_false_iff_ne.2 (by omega)
                have z2 : (A == m) = false := beq_eq_false_iff_ne.2 hA
                have HS := Lib.hid (DF.out hA)
                have HMM := Lib.hid hM
                clear hA hM DT DF
                go_wp2
                go_roundw
                case rel => exact ⟨i + 1, by omega, by go_num, by rw [HMM.out, HS.out], HK2.out⟩
                case measure => simp [intOf]; omega
        · obtain rfl : i = k := by omega
          go_wp2
          go_ret2
          exact ⟨by rw [E1.out, E2.out]; rfl, HK.out⟩
theorem rmid_any (v : Value) (zs : List Int) (w : World) (hr : Reads w v zs) : Calls Try.prog 21 #[v] w fun e w' => e = .returned (.tuple #[.int .i64 (midQ zs), .int .i64 (midE zs)]) ∧ Kpt w w' := by
  have hl : zs.length ≤ maxLen := by obtain ⟨a, cap, rfl, hm, hc⟩ := id hr; exact hm
  rcases hr.cell with ⟨h0, a, cap, rfl⟩ | ⟨h0, b, off, cap, rfl, hc⟩
  · subst h0
    exact rmid_none a cap w
  · by_cases h40 : 40 < zs.length
    · have e : midE zs = 2 := by unfold midE; rw [if_neg (by omega), if_pos h40]
      rw [show midQ zs = 0 by unfold midQ; rw [e]; rfl, e]
      exact rmid_many _ _ cap h40 hl w
    · exact rmid_few b off cap _ zs w rfl h0 (by omega) hc

end Go.Proofs.Ytgccipmeiceonaa
