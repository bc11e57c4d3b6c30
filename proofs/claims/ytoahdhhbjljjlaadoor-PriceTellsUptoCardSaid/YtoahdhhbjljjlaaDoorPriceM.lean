/-
  The plain arithmetic of decimal texts.
-/
import Derived.Test.YtoahdhhbjljjlaaDoorPriceC
namespace Go.Proofs.YtoahdhhbjljjlaaDoor
open Go.RowKit
set_option linter.unusedVariables false

/-- a digit's letter -/
def dg (n : Nat) : UInt8 := UInt8.ofNat (48 + n)
theorem dg_nat {n : Nat} (h : n < 10) : (dg n).toNat = 48 + n := by
  unfold dg
  rw [UInt8.toNat_ofNat']
  omega
theorem dg_dig {n : Nat} (h : n < 10) : digB (dg n) = true := decide_eq_true (by rw [dg_nat h]; omega)
theorem dg_of {c : UInt8} (h : digB c = true) : dg (c.toNat - 48) = c := by
  have h2 : 48 ≤ c.toNat ∧ c.toNat ≤ 57 := of_decide_eq_true h
  apply UInt8.toNat_inj.1
  rw [dg_nat (by omega)]; omega
theorem val_one (c : UInt8) : valD [c] = c.toNat - 48 := by unfold valD; simp
theorem val_dg {n : Nat} (h : n < 10) : valD [dg n] = n := by rw [val_one, dg_nat h]; omega
theorem dec_all (u : Nat) : (Lib.decDigits u).all digB = true := by
  induction u using Nat.strongRecOn with
  | ind u ih =>
    by_cases h : u < 10
    · rw [dec_len1 h]; simp [show UInt8.ofNat (48 + u) = dg u from rfl, dg_dig h]
    · rw [dec_step (by omega), List.all_append, ih (u / 10) (by omega)]
      simp [show UInt8.ofNat (48 + u % 10) = dg (u % 10) from rfl, dg_dig (Nat.mod_lt u (by decide))]
theorem dec_val_of (u : Nat) : valD (Lib.decDigits u) = u := by
  induction u using Nat.strongRecOn with
  | ind u ih =>
    by_cases h : u < 10
    · rw [dec_len1 h]; exact val_dg h
    · rw [dec_step (by omega), val_app, ih (u / 10) (by omega)]
      show u / 10 * 10 ^ 1 + valD [dg (u % 10)] = u
      rw [val_dg (Nat.mod_lt u (by decide))]; omega
theorem dec_pos (u : Nat) : 1 ≤ (Lib.decDigits u).length := by
  by_cases h : u < 10
  · rw [dec_len1 h]; simp
  · rw [dec_step (by omega)]; simp
/-- no nought ahead -/
def lead (l : List UInt8) : Bool := l == [48] || !(l.head? == some 48)
theorem dec_lead (u : Nat) : lead (Lib.decDigits u) = true := by
  by_cases h0 : u = 0
  · subst h0; rw [dec_len1 (by decide)]; rfl
  · have key : ∀ u : Nat, 1 ≤ u → (Lib.decDigits u).head? ≠ some 48 := by
      intro u
      induction u using Nat.strongRecOn with
      | ind u ih =>
        intro h1
        by_cases h : u < 10
        · rw [dec_len1 h]
          intro e
          have : dg u = 48 := Option.some.inj e
          have e2 := congrArg UInt8.toNat this
          rw [dg_nat h] at e2
          have : (48 : UInt8).toNat = 48 := rfl
          omega
        · rw [dec_step (by omega)]
          have p := dec_pos (u / 10)
          have i := ih (u / 10) (by omega) (by omega)
          cases hd : Lib.decDigits (u / 10) with
          | nil => rw [hd] at p; simp at p
          | cons a t => rw [hd] at i; simpa using i
    unfold lead
    have := key u (by omega)
    simp [this]
/-- a text of digits without a nought ahead is its number's -/
theorem dec_back {l : List UInt8} (hne : l ≠ []) (ha : l.all digB = true) (hl : lead l = true) : Lib.decDigits (valD l) = l := by
  have key : ∀ n : Nat, ∀ l : List UInt8, l.length = n → l ≠ [] → l.all digB = true → lead l = true → Lib.decDigits (valD l) = l := by
    intro n
    induction n using Nat.strongRecOn with
    | ind n ih =>
      intro l hn hne ha hl
      obtain ⟨m, c, rfl⟩ : ∃ m c, l = m ++ [c] := ⟨l.dropLast, l.getLast hne, (List.dropLast_concat_getLast hne).symm⟩
      rw [List.all_append, Bool.and_eq_true] at ha
      obtain ⟨ha1, ha2⟩ := ha
      have hc : digB c = true := by simpa using ha2
      have hc2 : 48 ≤ c.toNat ∧ c.toNat ≤ 57 := of_decide_eq_true hc
      rw [val_app, List.length_singleton, Nat.pow_one, val_one]
      by_cases hm : m = []
      · subst hm
        rw [show valD [] = 0 from rfl, Nat.zero_mul, Nat.zero_add, dec_len1 (by omega)]
        show [dg (c.toNat - 48)] = [c]
        rw [dg_of hc]
      · have hlm : lead m = true := by
          unfold lead at hl ⊢
          cases m with
          | nil => exact absurd rfl hm
          | cons a t =>
            have h1 : ¬ a = 48 := by
              intro e; subst e
              simp at hl
            simp [h1]
        have i := ih m.length (by rw [← hn]; simp) m rfl hm ha1 hlm
        have vp : 1 ≤ valD m := by
          rcases Nat.eq_zero_or_pos (valD m) with e | e
          · exfalso
            rw [e, dec_len1 (by decide)] at i
            rw [← i] at hl
            unfold lead at hl
            simp at hl
          · exact e
        rw [dec_step (by omega)]
        rw [show (valD m * 10 + (c.toNat - 48)) / 10 = valD m by omega, show (valD m * 10 + (c.toNat - 48)) % 10 = c.toNat - 48 by omega, i]
        show m ++ [dg (c.toNat - 48)] = m ++ [c]
        rw [dg_of hc]
  exact key _ l rfl hne ha hl

/-- four places -/
def four (r : Nat) : List UInt8 := [dg (r / 1000 % 10), dg (r / 100 % 10), dg (r / 10 % 10), dg (r % 10)]
theorem four_all (r : Nat) : (four r).all digB = true := by
  unfold four
  simp [dg_dig (Nat.mod_lt _ (by decide : 10 > 0))]
theorem four_val {r : Nat} (h : r < 10000) : valD (four r) = r := by
  unfold four valD
  simp only [List.foldl_cons, List.foldl_nil]
  rw [dg_nat (Nat.mod_lt _ (by decide)), dg_nat (Nat.mod_lt _ (by decide)), dg_nat (Nat.mod_lt _ (by decide)), dg_nat (Nat.mod_lt _ (by decide))]
  omega
theorem four_of {l : List UInt8} (hl : l.length = 4) (ha : l.all digB = true) : four (valD l) = l := by
  match l, hl with
  | [a, b, c, d], _ =>
    simp only [List.all_cons, List.all_nil, Bool.and_true, Bool.and_eq_true] at ha
    obtain ⟨h1, h2, h3, h4⟩ := ha
    have b1 : 48 ≤ a.toNat ∧ a.toNat ≤ 57 := of_decide_eq_true h1
    have b2 : 48 ≤ b.toNat ∧ b.toNat ≤ 57 := of_decide_eq_true h2
    have b3 : 48 ≤ c.toNat ∧ c.toNat ≤ 57 := of_decide_eq_true h3
    have b4 : 48 ≤ d.toNat ∧ d.toNat ≤ 57 := of_decide_eq_true h4
    have e : valD [a, b, c, d] = (a.toNat - 48) * 1000 + (b.toNat - 48) * 100 + (c.toNat - 48) * 10 + (d.toNat - 48) := by
      unfold valD; simp only [List.foldl_cons, List.foldl_nil]; omega
    rw [e]
    unfold four
    rw [show ((a.toNat - 48) * 1000 + (b.toNat - 48) * 100 + (c.toNat - 48) * 10 + (d.toNat - 48)) / 1000 % 10 = a.toNat - 48 by omega,
      show ((a.toNat - 48) * 1000 + (b.toNat - 48) * 100 + (c.toNat - 48) * 10 + (d.toNat - 48)) / 100 % 10 = b.toNat - 48 by omega,
      show ((a.toNat - 48) * 1000 + (b.toNat - 48) * 100 + (c.toNat - 48) * 10 + (d.toNat - 48)) / 10 % 10 = c.toNat - 48 by omega,
      show ((a.toNat - 48) * 1000 + (b.toNat - 48) * 100 + (c.toNat - 48) * 10 + (d.toNat - 48)) % 10 = d.toNat - 48 by omega,
      dg_of h1, dg_of h2, dg_of h3, dg_of h4]
theorem plS_list {p : Int} (h : 0 ≤ p) : (plS p).data.toList = Lib.trimRightB (four (p % 10000).toNat) 48 := by
  have e : (itS (10000 + p % 10000)).data.toList = 49 :: four (p % 10000).toNat := by
    rw [itS_list _ (by omega), dec_four (by omega) (by omega)]
    unfold four dg
    rw [show (10000 + p % 10000).toNat / 1000 % 10 = (p % 10000).toNat / 1000 % 10 by omega, show (10000 + p % 10000).toNat / 100 % 10 = (p % 10000).toNat / 100 % 10 by omega,
      show (10000 + p % 10000).toNat / 10 % 10 = (p % 10000).toNat / 10 % 10 by omega, show (10000 + p % 10000).toNat % 10 = (p % 10000).toNat % 10 by omega]
  unfold plS
  rw [ByteArray.data_extract, Array.toList_extract, e]
  show (Lib.trimRightB (((49 :: four (p % 10000).toNat).drop 1).take _) 48) = _
  rw [itS_five (by omega) (by omega)]
  rfl

/-- noughts at the end -/
theorem trim_back {l : List UInt8} {k : Nat} (h : l.getLast? ≠ some 48) : Lib.trimRightB (l ++ List.replicate k 48) 48 = l := by
  unfold Lib.trimRightB
  rw [List.reverse_append, List.reverse_replicate]
  have : ∀ k : Nat, (List.replicate k (48 : UInt8) ++ l.reverse).dropWhile (· == 48) = l.reverse := by
    intro k
    induction k with
    | zero =>
      rw [List.replicate_zero, List.nil_append]
      cases hr : l.reverse with
      | nil => rfl
      | cons a t =>
        have : l.getLast? = some a := by rw [← List.head?_reverse, hr]; rfl
        rw [this] at h
        have ha : ¬ a = 48 := fun e => h (by rw [e])
        rw [List.dropWhile_cons_of_neg (by simpa using ha)]
    | succ k ih => rw [List.replicate_succ, List.cons_append, List.dropWhile_cons_of_pos (by rfl)]; exact ih
  rw [this, List.reverse_reverse]
theorem trim_form (l : List UInt8) : ∃ k, l = Lib.trimRightB l 48 ++ List.replicate k 48 ∧ (Lib.trimRightB l 48).getLast? ≠ some 48 := by
  have key : ∀ m : List UInt8, ∃ k, m = List.replicate k 48 ++ m.dropWhile (· == 48) ∧ (m.dropWhile (· == 48)).head? ≠ some 48 := by
    intro m
    induction m with
    | nil => exact ⟨0, rfl, by simp⟩
    | cons a t ih =>
      by_cases e : a = 48
      · subst e
        obtain ⟨k, h1, h2⟩ := ih
        refine ⟨k + 1, ?_, ?_⟩
        · rw [List.dropWhile_cons_of_pos (by rfl), List.replicate_succ, List.cons_append, ← h1]
        · rw [List.dropWhile_cons_of_pos (by rfl)]; exact h2
      · refine ⟨0, ?_, ?_⟩
        · rw [List.dropWhile_cons_of_neg (by simpa using e)]; rfl
        · rw [List.dropWhile_cons_of_neg (by simpa using e)]
          intro k; exact e (Option.some.inj k)
  obtain ⟨k, h1, h2⟩ := key l.reverse
  refine ⟨k, ?_, ?_⟩
  · unfold Lib.trimRightB
    have := congrArg List.reverse h1
    rw [List.reverse_reverse, List.reverse_append, List.reverse_replicate] at this
    exact this
  · unfold Lib.trimRightB
    rw [List.getLast?_reverse]
    exact h2

end Go.Proofs.YtoahdhhbjljjlaaDoor
