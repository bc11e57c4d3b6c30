/-
  Merged: LawPS.
-/
import Derived.Test.YtgccipmeiceonaaGreatMa44
import Derived.Test.YtgccipmeiceonaaGreatMa43
import Derived.Test.YtgccipmeiceonaaGreatMa25
-- LawPS
namespace Go.Proofs.YtgccipmeiceonaaGreat
open Go.RowKit
set_option linter.unusedVariables false

/-- all that f says of those below k -/
def addF (f : Nat → Int) : Nat → Int
  | 0 => 0
  | k + 1 => addF f k + f k
theorem sumL_unit (f : Nat → Int) (u : Nat) : ∀ k, unitS (sumL f k) u = if u = 0 then addF f k else 0
  | 0 => by simp [sumL, unitS, addF]
  | k + 1 => by
    have ih := sumL_unit f u k
    unfold sumL
    by_cases h : f k = 0
    · rw [if_pos h, ih]; simp only [addF]; rw [h]; split <;> omega
    · rw [if_neg h, unitS_append, ih]
      simp only [unitS]
      by_cases hu : u = 0
      · subst hu; simp [addF]
      · rw [if_neg hu, if_neg hu, if_neg (by omega)]; rfl
theorem addF_add (f g : Nat → Int) : ∀ k, addF (fun x => f x + g x) k = addF f k + addF g k
  | 0 => rfl
  | k + 1 => by have := addF_add f g k; simp only [addF] at this ⊢; omega
theorem addF_one (a n : Int) (h0 : 0 ≤ a) : ∀ k : Nat, addF (fun x => if a = (x : Int) then n else 0) k = if a < k then n else 0
  | 0 => by simp only [addF]; rw [if_neg (by omega)]
  | k + 1 => by
    have := addF_one a n h0 k
    simp only [addF] at this ⊢
    rw [this]
    by_cases h : a < k
    · rw [if_pos h, if_neg (by omega), if_pos (by omega)]; omega
    · rw [if_neg h]
      by_cases h2 : a = k
      · rw [if_pos h2, if_pos (by omega)]; omega
      · rw [if_neg h2, if_neg (by omega)]; rfl
theorem addF_sub (f g : Nat → Int) : ∀ k, addF (fun x => f x - g x) k = addF f k - addF g k
  | 0 => rfl
  | k + 1 => by have := addF_sub f g k; simp only [addF] at this ⊢; omega
theorem stand_even {ps : List (Int × Int × Int)} (h : ∀ p ∈ ps, (0 ≤ p.1 ∧ p.1 ≤ 30) ∧ 0 ≤ p.2.1 ∧ p.2.1 ≤ 30) : addF (standF ps) 31 = 0 := by
  induction ps with
  | nil => rfl
  | cons p l ih =>
    have h1 := h p (by simp)
    have h2 := ih fun q hq => h q (by simp [hq])
    have e : addF (standF (p :: l)) 31 = addF (fun x => ((if p.2.1 = (x : Int) then p.2.2 else 0) - (if p.1 = (x : Int) then p.2.2 else 0)) + standF l x) 31 := rfl
    rw [e, addF_add (fun x : Nat => (if p.2.1 = (x : Int) then p.2.2 else 0) - (if p.1 = (x : Int) then p.2.2 else 0)) (standF l), addF_sub (fun x : Nat => if p.2.1 = (x : Int) then p.2.2 else 0) (fun x : Nat => if p.1 = (x : Int) then p.2.2 else 0), addF_one _ _ h1.2.1, addF_one _ _ h1.1.1, h2]
    rw [if_pos (by omega), if_pos (by omega)]; omega

theorem sumL_pts (f : Nat → Int) : ∀ k, k ≤ 31 → (∀ j, j < k → amtB (f j) = true) → ∀ p ∈ sumL f k, ptB p = true
  | 0, _, _ => by simp [sumL]
  | k + 1, hk, hf => by
    have ih := sumL_pts f k (by omega) fun j hj => hf j (by omega)
    have ha := amt_t (hf k (by omega))
    unfold sumL
    split
    · exact ih
    · next h0 =>
      intro p hp
      rcases List.mem_append.1 hp with h | h
      · exact ih p h
      · rw [List.mem_singleton] at h
        subst h
        exact pt_mk ⟨by show (0 : Int) ≤ (k : Int); omega, by show (k : Int) ≤ 100; omega, Int.le_refl 0, by show (0 : Int) ≤ 20; decide, h0, ha.1, ha.2⟩
theorem sumD_chk {ps : List (Int × Int × Int)} (h : sumE ps = 0) : chkE (sumD ps) = 0 ∧ ∀ p ∈ sumD ps, ptB p = true := by
  have e : sumD ps = sumL (standF ps) 31 := by unfold sumD; rw [if_pos h]
  rw [e]
  unfold sumE at h
  split at h
  · next h0 =>
    split at h
    · next ha =>
      split at h
      · cases h
      · next hn =>
        have hp := sumL_pts (standF ps) 31 (Nat.le_refl _) fun j hj => List.all_eq_true.1 ha j (List.mem_range.2 hj)
        have hl := sumL_len (standF ps) 31
        refine ⟨chk_mk (List.length_pos_iff.2 hn) (by omega) hp (evn_mk fun u _ => ?_), hp⟩
        rw [sumL_unit, stand_even fun p hp => ?_]
        · split <;> rfl
        · have := due_t ((net_0 h0).2 p hp).1
          omega
    · cases h
  · next h' => exact absurd h h'

def PsA (v : Value) (ps : List (Int × Int × Int)) (w : World) : Prop := ∀ w', Kpt w w' → Calls Tryz.prog 5 #[v] w' (SumRes w' ps)
theorem PsA.run {v : Value} {ps : List (Int × Int × Int)} {w : World} (h : PsA v ps w) (w' : World) (k : Kpt w w') : Calls Tryz.prog 5 #[v] w' (SumRes w' ps) := h w' k
def PsR (v : Value) (ps : List (Int × Int × Int)) (w : World) : Prop := ∀ w', Kpt w w' → Calls Tryz.prog 6 #[v] w' (SumRes w' ps)
theorem PsR.run {v : Value} {ps : List (Int × Int × Int)} {w : World} (h : PsR v ps w) (w' : World) (k : Kpt w w') : Calls Tryz.prog 6 #[v] w' (SumRes w' ps) := h w' k

set_option maxRecDepth 100000 in
set_option maxHeartbeats 4000000 in
theorem psums_plain (v : Value) (ps : List (Int × Int × Int)) (w : World) (hr : ReadsP w v ps) :
    Calls Tryz.prog 3 #[v] w fun e w' => e = .returned (.bool true) ∧ Kpt w w' := by
  have A1 : Hid (PsA v ps w) := fun w' k => sum_any v ps w' (hr.kpt k)
  have A2 : Hid (PsR v ps w) := fun w' k => rps_any v ps w' (hr.kpt k)
  have K0 : Hid (Kpt w w) := Kpt.refl w
  by_cases hE : sumE ps = 0
  · have HP := Lib.hid (sumD_chk hE).2
    have CK := Lib.hid (sumD_chk hE).1
    have HE := Lib.hid hE
    clear hE hr
    go_enter Tryz.func3, Tryz.ntmps3
    go_wp2_with (first
      | (go_at_call 5; (with_reducible refine (A1.out.run _ K0.out).mono ?_); rintro e w1 ⟨d1, rfl, o1, k1⟩; have K1 := Lib.hid (ktr K0.out k1); rw [HE.out]; have RD1 := Lib.hid (OwnsP.reads o1 (inP_of HP.out)); obtain ⟨a1, c1, rfl⟩ := OwnsP.form o1; clear k1 o1)
      | (go_at_call 6; (with_reducible refine (A2.out.run _ K1.out).mono ?_); rintro e w2 ⟨d2, rfl, o2, k2⟩; have K2 := Lib.hid (ktr K1.out k2); rw [HE.out]; have RD2 := Lib.hid (OwnsP.reads o2 (inP_of HP.out)); have RD1 := Lib.hid (RD1.out.kpt k2); obtain ⟨a2, c2, rfl⟩ := OwnsP.form o2; clear k2 o2)
      | (go_at_call 7; (with_reducible refine (penaltyBegun _).mono ?_); rintro e w3 ⟨rfl, k3⟩; have K3 := Lib.hid (ktr K2.out k3); have RD1 := Lib.hid (RD1.out.kpt k3); have RD2 := Lib.hid (RD2.out.kpt k3); clear k3)
      | (go_at_call 8; (with_reducible refine (bookBegun _).mono ?_); rintro e w4 ⟨rfl, k4⟩; have K4 := Lib.hid (ktr K3.out k4); have RD1 := Lib.hid (RD1.out.kpt k4); have RD2 := Lib.hid (RD2.out.kpt k4); clear k4)
      | (go_at_call 9; (with_reducible refine (same_any _ _ _ _ RD1.out RD2.out).mono ?_); rintro e w5 ⟨rfl, k5⟩; have K5 := Lib.hid (ktr K4.out k5); have RD1 := Lib.hid (RD1.out.kpt k5); clear k5)
      | (go_at_call 10; (with_reducible refine (bookCheck_any _ _ _ RD1.out).mono ?_); rintro e w6 ⟨rfl, k6⟩; have K6 := Lib.hid (ktr K5.out k6.kpt); rw [CK.out]; clear k6)
      | fail)
    go_ret
    exact ⟨rfl, K6.out⟩
  · have HD : Hid (sumD ps = []) := if_neg hE
    have q : (sumE ps != 0) = true := bne_iff_ne.2 hE
    clear hE hr
    obtain ⟨E, hE⟩ : ∃ E, E = sumE ps := ⟨_, rfl⟩
    rw [← hE] at q
    have HE := Lib.hid hE.symm
    clear hE
    go_enter Tryz.func3, Tryz.ntmps3
    go_wp2_with (first
      | (go_at_call 5; (with_reducible refine (A1.out.run _ K0.out).mono ?_); rintro e w1 ⟨d1, rfl, o1, k1⟩; have K1 := Lib.hid (ktr K0.out k1); rw [HE.out]; rw [HD.out] at o1; obtain ⟨a1, c1, rfl⟩ := OwnsP.form o1; have RD1 : Hid (ReadsP w1 (.slice a1 0 c1) []) := OwnsP.reads o1 (by simp [InP]); clear k1 o1)
      | (go_at_call 6; (with_reducible refine (A2.out.run _ K1.out).mono ?_); rintro e w2 ⟨d2, rfl, o2, k2⟩; have K2 := Lib.hid (ktr K1.out k2); rw [HE.out]; rw [HD.out] at o2; obtain ⟨a2, c2, rfl⟩ := OwnsP.form o2; have RD2 : Hid (ReadsP w2 (.slice a2 0 c2) []) := OwnsP.reads o2 (by simp [InP]); have RD1 := Lib.hid (RD1.out.kpt k2); clear k2 o2)
      | (go_at_call 7; (with_reducible refine (penaltyBegun _).mono ?_); rintro e w3 ⟨rfl, k3⟩; have K3 := Lib.hid (ktr K2.out k3); have RD1 := Lib.hid (RD1.out.kpt k3); have RD2 := Lib.hid (RD2.out.kpt k3); clear k3)
      | (go_at_call 8; (with_reducible refine (bookBegun _).mono ?_); rintro e w4 ⟨rfl, k4⟩; have K4 := Lib.hid (ktr K3.out k4); have RD1 := Lib.hid (RD1.out.kpt k4); have RD2 := Lib.hid (RD2.out.kpt k4); clear k4)
      | (go_at_call 9; (with_reducible refine (same_any _ _ _ _ RD1.out RD2.out).mono ?_); rintro e w5 ⟨rfl, k5⟩; have K5 := Lib.hid (ktr K4.out k5); clear k5)
      | fail)
    go_ret
    exact ⟨rfl, K5.out⟩

end Go.Proofs.YtgccipmeiceonaaGreat
