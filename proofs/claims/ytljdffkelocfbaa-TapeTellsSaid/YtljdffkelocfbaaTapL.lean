/-
  Tapes that are put together, and cut: the mathematics.
-/
import Derived.Test.YtljdffkelocfbaaTapH
namespace Go.Proofs.Ytljdffkelocfbaa
open Go.RowKit
set_option linter.unusedVariables false

theorem fsz_app {t x : List Nat} (h : 2 ≤ t.length) : fsz (t ++ x) = fsz t := by
  unfold fsz
  rw [List.take_append_of_le_length h]
theorem bdy_app {t x : List Nat} (h : fst? t = true) : bdy (t ++ x) = bdy t := by
  obtain ⟨h1, h2, h3, h4⟩ := fst_t h
  unfold bdy
  rw [fsz_app h1, List.drop_append_of_le_length h1, List.take_append_of_le_length (by rw [List.length_drop]; omega)]
theorem fst_app {t x : List Nat} (h : fst? t = true) : fst? (t ++ x) = true := by
  obtain ⟨h1, h2, h3, h4⟩ := fst_t h
  unfold fst?
  refine decide_eq_true ⟨by rw [List.length_append]; omega, by rw [fsz_app h1]; exact h2, by rw [fsz_app h1, List.length_append]; omega, ?_⟩
  rw [fsz_app h1, bdy_app h, List.drop_append_of_le_length (by omega), List.take_append_of_le_length (by rw [List.length_drop]; omega)]
  exact h4
theorem recs_app (t x : List Nat) : recs (t ++ x) = recs t ++ recs (t.drop (ends (recs t)) ++ x) := by
  obtain ⟨n, hn⟩ : ∃ n, t.length ≤ n := ⟨_, Nat.le_refl _⟩
  induction n generalizing t with
  | zero =>
    obtain rfl : t = [] := List.eq_nil_of_length_eq_zero (by omega)
    rw [show recs [] = [] from rfl]; simp
  | succ n ih =>
    cases hf : fst? t with
    | false => rw [recs_f hf]; simp [ends]
    | true =>
      have h' := fst_t hf
      rw [recs_t (fst_app (x := x) hf), recs_t hf, bdy_app hf, fsz_app h'.1, List.drop_append_of_le_length (by omega), ih _ (by rw [List.length_drop]; omega), List.cons_append]
      have e : ends (bdy t :: recs (t.drop (fsz t + 6))) = fsz t + 6 + ends (recs (t.drop (fsz t + 6))) := by rw [ends_cons, bdy_len hf]
      rw [e, List.drop_drop]
theorem rcd_take (b x : List Nat) : (rcd b ++ x).take 2 = byt b.length 2 := by
  unfold rcd
  rw [List.append_assoc, List.append_assoc, List.take_append_of_le_length (by rw [byt_len]; omega), List.take_of_length_le (by rw [byt_len]; omega)]
theorem rcd_fst {b x : List Nat} (hb : 0 < b.length) (hl : b.length < 65536) : fst? (rcd b ++ x) = true ∧ fsz (rcd b ++ x) = b.length ∧ bdy (rcd b ++ x) = b := by
  have e1 : fsz (rcd b ++ x) = b.length := by unfold fsz; rw [rcd_take, nub_byt2 hl]
  have d2 : (rcd b ++ x).drop 2 = b ++ (byt (crc b) 4 ++ x) := by
    unfold rcd
    rw [List.append_assoc, List.append_assoc, List.drop_append, List.drop_of_length_le (by rw [byt_len]; omega), byt_len]; simp
  have e2 : bdy (rcd b ++ x) = b := by
    unfold bdy
    rw [e1, d2, List.take_append_of_le_length (Nat.le_refl _), List.take_length]
  have e3 : ((rcd b ++ x).drop (2 + b.length)).take 4 = byt (crc b) 4 := by
    rw [← List.drop_drop, d2, List.drop_append_of_le_length (Nat.le_refl _), List.drop_length, List.nil_append, List.take_append_of_le_length (by rw [byt_len]; omega), List.take_of_length_le (by rw [byt_len]; omega)]
  refine ⟨?_, e1, e2⟩
  unfold fst?
  refine decide_eq_true ⟨by rw [List.length_append, rcd_len]; omega, by omega, by rw [List.length_append, rcd_len]; omega, ?_⟩
  rw [e1, e2, e3, nub_byt4 (crc_lt b)]
theorem recs_rcd {b : List Nat} (hb : 0 < b.length) (hl : b.length < 65536) : recs (rcd b) = [b] := by
  have h := rcd_fst (x := []) hb hl
  rw [List.append_nil] at h
  rw [recs_t h.1, h.2.2, h.2.1, List.drop_of_length_le (by rw [rcd_len]; omega)]
  rfl
theorem recs_put {t b : List Nat} (ht : ends (recs t) = t.length) (hb : 0 < b.length) (hl : b.length < 65536) : recs (t ++ rcd b) = recs t ++ [b] := by
  rw [recs_app, ht, List.drop_length, List.nil_append, recs_rcd hb hl]
theorem ends_put {t b : List Nat} (ht : ends (recs t) = t.length) (hb : 0 < b.length) (hl : b.length < 65536) : ends (recs (t ++ rcd b)) = (t ++ rcd b).length := by
  rw [recs_put ht hb hl, ends_app, ht, List.length_append, rcd_len]; simp [ends]
/-- what stands whole ahead of a cut is got -/
theorem recs_cut (t : List Nat) (k : Nat) : ∃ j, j ≤ (recs t).length ∧ recs (t.take k) = (recs t).take j ∧ ends ((recs t).take j) ≤ k ∧ (j = (recs t).length ∨ k < ends ((recs t).take (j + 1))) := by
  obtain ⟨n, hn⟩ : ∃ n, t.length ≤ n := ⟨_, Nat.le_refl _⟩
  induction n generalizing t k with
  | zero =>
    obtain rfl : t = [] := List.eq_nil_of_length_eq_zero (by omega)
    exact ⟨0, Nat.le_refl _, by simp; rfl, by simp [ends], .inl rfl⟩
  | succ n ih =>
    have hpre : t.take k ++ t.drop k = t := List.take_append_drop k t
    cases hf : fst? t with
    | false =>
      have hf2 : fst? (t.take k) = false := by
        cases hq : fst? (t.take k) with
        | false => rfl
        | true => have := fst_app (x := t.drop k) hq; rw [hpre, hf] at this; cases this
      rw [recs_f hf, recs_f hf2]
      exact ⟨0, Nat.le_refl _, rfl, by simp [ends], .inl rfl⟩
    | true =>
      have h' := fst_t hf
      have hb := bdy_len hf
      by_cases hk : fsz t + 6 ≤ k
      · obtain ⟨j, j1, j2, j3, j4⟩ := ih (t.drop (fsz t + 6)) (k - (fsz t + 6)) (by rw [List.length_drop]; omega)
        have hz : fsz (t.take k) = fsz t := by unfold fsz; rw [List.take_take, Nat.min_eq_left (by omega)]
        have hy : bdy (t.take k) = bdy t := by
          unfold bdy
          rw [hz, List.drop_take, List.take_take, Nat.min_eq_left (by omega)]
        have hf2 : fst? (t.take k) = true := by
          unfold fst?
          refine decide_eq_true ⟨by rw [List.length_take]; omega, by rw [hz]; exact h'.2.1, by rw [hz, List.length_take]; omega, ?_⟩
          rw [hz, hy, List.drop_take, List.take_take, Nat.min_eq_left (by omega)]
          exact h'.2.2.2
        rw [recs_t hf, recs_t hf2, hy, hz, List.drop_take, j2]
        refine ⟨j + 1, by simp; omega, by simp, ?_, ?_⟩
        · rw [List.take_succ_cons, ends_cons, hb]; omega
        · rcases j4 with j4 | j4
          · left; simp [j4]
          · right; rw [List.take_succ_cons, ends_cons, hb]; omega
      · have hf2 : fst? (t.take k) = false := by
          cases hq : fst? (t.take k) with
          | false => rfl
          | true =>
            exfalso
            have hq' := fst_t hq
            have hz : fsz (t.take k) = fsz t := by
              have := fsz_app (x := t.drop k) hq'.1
              rw [hpre] at this
              exact this.symm
            rw [hz, List.length_take] at hq'
            omega
        rw [recs_t hf, recs_f hf2]
        refine ⟨0, Nat.zero_le _, rfl, by simp [ends], .inr ?_⟩
        rw [List.take_succ_cons, ends_cons, hb]; omega
theorem ends_mono (L : List (List Nat)) (j : Nat) : ends (L.take j) ≤ ends L := by
  have : ends L = ends (L.take j) + ends (L.drop j) := by rw [← ends_app, List.take_append_drop]
  omega
/-- a tape cut where its records end -/
theorem recs_end (t : List Nat) : recs (t.take (ends (recs t))) = recs t := by
  obtain ⟨j, j1, j2, j3, j4⟩ := recs_cut t (ends (recs t))
  rcases j4 with j4 | j4
  · rw [j2, j4, List.take_length]
  · have := ends_mono (recs t) (j + 1); omega

end Go.Proofs.Ytljdffkelocfbaa
