/-
  What Spare of package margin does.
-/
import Derived.Test.YtlojdehjbcombaaMarE
namespace Go.Proofs.Ytlojdehjbcombaa
open Go.RowKit
set_option linter.unusedVariables false

/-- the stake at a place -/
def stkAt (l : List (Int × Int × Int)) (at' : Int) : Int × Int × Int := l.getD at'.toNat default
/-- the error of Spare -/
def spE (l : List (Int × Int × Int)) (ps : List Int) (need at' : Int) : Int :=
  orE (mcE l ps) (if sumB need = true then (if 0 ≤ at' ∧ at' < l.length then orE (amE (wsum ps l)) (if wsum ps l < need then 4 else 0) else 5) else 3)
noncomputable def spV (l : List (Int × Int × Int)) (ps : List Int) (need at' : Int) : Int := if spE l ps need at' = 0 then (stkAt l at').2.1 - kpV ps (stkAt l at').1 (stkAt l at').2.1 (stkAt l at').2.2 (wsum ps l - need) else 0
theorem spE_0 {l : List (Int × Int × Int)} {ps : List Int} {need at' : Int} (h : spE l ps need at' = 0) : mcE l ps = 0 ∧ sumB need = true ∧ (0 ≤ at' ∧ at' < l.length) ∧ amtB (wsum ps l) = true ∧ need ≤ wsum ps l := by
  obtain ⟨h1, h2⟩ := orE_0 h
  by_cases a : sumB need = true
  · rw [if_pos a] at h2
    by_cases b : 0 ≤ at' ∧ at' < l.length
    · rw [if_pos b] at h2
      obtain ⟨h3, h4⟩ := orE_0 h2
      refine ⟨h1, a, b, ?_, ?_⟩
      · cases c : amtB (wsum ps l) with
        | true => rfl
        | false => rw [(am_no c).2] at h3; cases h3
      · by_cases d : wsum ps l < need
        · rw [if_pos d] at h4; cases h4
        · omega
    · rw [if_neg b] at h2; cases h2
  · rw [if_neg a] at h2; cases h2
def SpIs (v u : Value) (need at' V E : Int) (w : World) : Prop := Calls Try.prog 37 #[v, u, .int .i64 need, .int .i64 at'] w fun e w' => e = .returned (.tuple #[.int .i64 V, .int .i64 E]) ∧ Kpt w w'
set_option maxHeartbeats 2000000 in
theorem spare_bad (v u : Value) (l : List (Int × Int × Int)) (ps : List Int) (need at' : Int) (w : World) (hl : ReadsP w v l) (hr : Reads w u ps) (h : spE l ps need at' ≠ 0) : SpIs v u need at' 0 (spE l ps need at') w := by
  have CA := Lib.hid (checkAt_run v u l ps w hl hr)
  unfold SpIs
  by_cases h0 : mcE l ps = 0
  · have h1 : spE l ps need at' = (if sumB need = true then (if 0 ≤ at' ∧ at' < l.length then orE (amE (wsum ps l)) (if wsum ps l < need then 4 else 0) else 5) else 3) := orE_r h0
    rw [h1] at h ⊢
    clear h1
    obtain ⟨⟨h40, hs⟩, hps⟩ := mcE_0 h0
    have TO := Lib.hid (fun w' (k : Kpt w w') => total_run v u l ps w' (hl.kpt k) (hr.kpt k) hps hs (by omega))
    have I1 := Lib.hid (fun w => isSum_run need w)
    rw [h0] at CA
    clear h0 hs
    obtain ⟨a, cap, rfl, -, hm, -, -⟩ := hl
    unfold maxLen at hm
    clear hr
    by_cases h2 : sumB need = true
    · rw [if_pos h2] at h ⊢
      rw [h2] at I1
      clear h2
      by_cases h3 : 0 ≤ at' ∧ at' < l.length
      · rw [if_pos h3] at h ⊢
        obtain ⟨h3a, h3b⟩ := h3
        have y1 : decide (at' < 0) = false := decide_eq_false (by omega)
        have y2 : decide ((l.length : Int) ≤ at') = false := decide_eq_false (by omega)
        by_cases h4 : amtB (wsum ps l) = true
        · obtain ⟨q1, q2⟩ := am_ok h4
          rw [orE_r q2] at h ⊢
          rw [q1, q2] at TO
          by_cases h5 : wsum ps l < need
          · rw [if_pos h5]
            clear h4 q1 q2 h
            generalize wsum ps l = S at *
            generalize l.length = n at *
            go_enter Try.func37, Try.ntmps37
            go_wp2_with (first
              | (go_at_call 71; (with_reducible refine CA.out.mono ?_); rintro e w1 ⟨rfl, k1⟩; have K1 := Lib.hid k1; clear k1)
              | (go_at_call 76; (with_reducible refine (I1.out _).mono ?_); rintro e w2 ⟨rfl, rfl⟩)
              | (go_at_call 72; (with_reducible refine (TO.out _ K1.out).mono ?_); rintro e w3 ⟨rfl, k2⟩; have K2 := Lib.hid (ktr K1.out k2); clear k2))
            go_ret2
            exact ⟨rfl, K2.out⟩
          · rw [if_neg h5] at h; exact absurd rfl h
        · obtain ⟨q1, q2⟩ := am_no (by simpa using h4)
          rw [q2, orE_l _ (by decide)]
          rw [q1, q2] at TO
          clear h4 q1 q2 h
          generalize l.length = n at *
          go_enter Try.func37, Try.ntmps37
          go_wp2_with (first
            | (go_at_call 71; (with_reducible refine CA.out.mono ?_); rintro e w1 ⟨rfl, k1⟩; have K1 := Lib.hid k1; clear k1)
            | (go_at_call 76; (with_reducible refine (I1.out _).mono ?_); rintro e w2 ⟨rfl, rfl⟩)
            | (go_at_call 72; (with_reducible refine (TO.out _ K1.out).mono ?_); rintro e w3 ⟨rfl, k2⟩; have K2 := Lib.hid (ktr K1.out k2); clear k2))
          go_ret2
          exact ⟨rfl, K2.out⟩
      · rw [if_neg h3]
        clear TO h
        generalize l.length = n at *
        by_cases h4 : at' < 0
        · have y1 : decide (at' < 0) = true := decide_eq_true h4
          clear h3
          go_enter Try.func37, Try.ntmps37
          go_wp2_with (first
            | (go_at_call 71; (with_reducible refine CA.out.mono ?_); rintro e w1 ⟨rfl, k1⟩; have K1 := Lib.hid k1; clear k1)
            | (go_at_call 76; (with_reducible refine (I1.out _).mono ?_); rintro e w2 ⟨rfl, rfl⟩))
          go_ret2
          exact ⟨rfl, K1.out⟩
        · have y1 : decide (at' < 0) = false := decide_eq_false h4
          have h5 : (n : Int) ≤ at' := by omega
          have y2 : decide ((n : Int) ≤ at') = true := decide_eq_true h5
          clear h3
          go_enter Try.func37, Try.ntmps37
          go_wp2_with (first
            | (go_at_call 71; (with_reducible refine CA.out.mono ?_); rintro e w1 ⟨rfl, k1⟩; have K1 := Lib.hid k1; clear k1)
            | (go_at_call 76; (with_reducible refine (I1.out _).mono ?_); rintro e w2 ⟨rfl, rfl⟩))
          go_ret2
          exact ⟨rfl, K1.out⟩
    · rw [if_neg h2]
      rw [show sumB need = false by simpa using h2] at I1
      clear TO h h2
      generalize l.length = n at *
      go_enter Try.func37, Try.ntmps37
      go_wp2_with (first
        | (go_at_call 71; (with_reducible refine CA.out.mono ?_); rintro e w1 ⟨rfl, k1⟩; have K1 := Lib.hid k1; clear k1)
        | (go_at_call 76; (with_reducible refine (I1.out _).mono ?_); rintro e w2 ⟨rfl, rfl⟩))
      go_ret2
      exact ⟨rfl, K1.out⟩
  · have h1 : spE l ps need at' = mcE l ps := orE_l _ h0
    rw [h1]
    have z : (mcE l ps != 0) = true := bne_iff_ne.2 h0
    clear h0 h1 h hl hr
    generalize mcE l ps = E at *
    go_enter Try.func37, Try.ntmps37
    go_wp2_with (go_at_call 71; (with_reducible refine CA.out.mono ?_); rintro e w1 ⟨rfl, k1⟩; have K1 := Lib.hid k1; clear k1)
    go_ret2
    exact ⟨rfl, K1.out⟩
theorem srch_ex (p : Nat → Bool) : ∀ n, ∃ k, SrchOk n p k
  | 0 => ⟨0, Nat.le_refl _, fun h => absurd h (Nat.lt_irrefl _), fun h => absurd h (Nat.lt_irrefl _)⟩
  | n + 1 => by
    obtain ⟨k, a1, a2, a3⟩ := srch_ex p n
    by_cases hk : k < n
    · exact ⟨k, by omega, fun _ => a2 hk, a3⟩
    · obtain rfl : k = n := by omega
      cases hb : p k with
      | true => exact ⟨k, by omega, fun _ => hb, a3⟩
      | false => exact ⟨k + 1, Nat.le_refl _, fun h => absurd h (Nat.lt_irrefl _), fun _ => hb⟩
theorem kpV_bd {ps : List Int} (h : PrsOk ps) {P U C most : Int} (h0 : 0 ≤ C) (hU : 0 ≤ U) (hm : 0 ≤ most) : (kpV ps P U C most : Int) ≤ U ∧ wrt ps (P, U, C) - most ≤ wrt ps (P, (kpV ps P U C most : Int), C) ∧ (0 < kpV ps P U C most → wrt ps (P, ((kpV ps P U C most - 1 : Nat) : Int), C) < wrt ps (P, U, C) - most) := by
  obtain ⟨k, hk⟩ := srch_ex (kpP ps P U C most) U.toNat
  rw [kpV_is h h0 hk]
  obtain ⟨a1, a2, a3⟩ := hk
  refine ⟨by omega, ?_, fun h1 => ?_⟩
  · by_cases hl : k < U.toNat
    · exact of_decide_eq_true (a2 hl)
    · have : (k : Int) = U := by omega
      rw [this]; omega
  · have := of_decide_eq_false (a3 h1)
    omega

end Go.Proofs.Ytlojdehjbcombaa
