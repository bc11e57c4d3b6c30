/-
  FailTells: all ways.
-/
import Derived.Test.YtppeaenacgkgaaaLawFTb
import Derived.Test.YtppeaenacgkgaaaLawFTc
namespace Go.Proofs.Ytppeaenacgkgaaa
open Go.RowKit
set_option linter.unusedVariables false

set_option maxHeartbeats 4000000 in
theorem failTells_walk (i f t c p d u x b y n : Int) (vl : Value) (id : Int) (fs : List (List Int)) (w : World) (hr : ReadsF w vl fs) :
    Calls Try.prog 3 #[.agg #[.int .i64 i, .int .i64 f, .int .i64 t, .int .i64 c, .int .i64 p, .int .i64 d, .int .i64 u, .int .i64 x, .int .i64 b, .int .i64 y], .int .i64 n, vl, .int .i64 id] w fun e w' => e = .returned (.bool true) ∧ Kpt w w' := by
  obtain ⟨r0, r1, r2, r3, r4, r5, r6, r7, r8, r9, R, HD, RA⟩ := less_deliver i f t c p d u x b y n
  obtain ⟨q0, q1, q2, q3, q4, q5, q6, q7, q8, q9, Q, HB, RB⟩ := less_buy i f t c p d u x b y n
  have HC := fun w' => fcheck_run i f t c p d u x b y w'
  have RCK := fun w' => rfc_run i f t c p d u x b y w'
  have HO := fun w' => fopenX_run i f t c p d u x b y w'
  have HS := fun w' (k : Kpt w w') => checks_run vl fs w' (hr.kpt k)
  have HRS := fun w' (k : Kpt w w') => rfcs_run vl fs w' (hr.kpt k)
  have FI := fun w' (k : Kpt w w') => find_run vl fs id w' (hr.kpt k)
  have RF := fun w' (k : Kpt w w') => rff_run vl fs id w' (hr.kpt k)
  have hsl : ∃ a l cap, vl = .slice a l cap := by obtain ⟨a, cap, rfl, _⟩ := hr; exact ⟨_, _, _, rfl⟩
  clear hr
  by_cases hE : failE i f t c p d u x b y = 0
  · obtain ⟨g1, g2, g3, g4⟩ := fail_0 hE
    obtain ⟨-, -, -, -, -, hu⟩ := fdue_t g1
    obtain ⟨hx, hb, hy⟩ := ftk_t g3
    have RO := fun w' => rfo_run i f t c p d u x b y w' hu hx hb hy
    rw [← open_at' hE] at RO
    rw [hE] at HC RCK HO
    by_cases ho : openV i f t c p d u x b y = 0
    · have HP := fun w' => pay_none i f t c p d u x b y w' hE ho
      rw [ho] at HO RO
      by_cases hU : checksE fs = 0
      · rw [hU] at HS HRS
        by_cases hX : idxF id fs 0 < 0
        · exact ft_b2 i f t c p d u x b y n id 0 0 _ 0 _ _ _ _ _ _ _ _ _ _ _ _ _ _ _ _ _ _ _ _ _ _ vl w HD HB RA RB HP HO (fun w' k => (FI w' k).2.1 hU hX) HC RCK HS HRS RO RF hX (decide_eq_true hX) hsl
        · exact ft_b3 i f t c p d u x b y n id 0 0 _ 0 _ _ _ _ _ _ _ _ _ _ _ _ _ _ _ _ _ _ _ _ _ _ vl w HD HB RA RB HP HO (fun w' k => (FI w' k).2.2 hU hX) HC RCK HS HRS RO RF hX (decide_eq_false hX) hsl
      · exact ft_b1 i f t c p d u x b y n id 0 _ 0 0 _ _ _ _ _ _ _ _ _ _ _ _ _ _ _ _ _ _ _ _ _ _ vl w HD HB RA RB HP HO (fun w' k => (FI w' k).1 hU) HC RCK HS HRS RO (beq_eq_false_iff_ne.2 hU) hsl
    · have hv := open_at' hE
      have HP := fun w' => pay_ok i f t c p d u x b y w' (openV i f t c p d u x b y) hE rfl ho (by omega) (by omega) (by omega) (by omega)
      have z1 : (openV i f t c p d u x b y == 0) = false := beq_eq_false_iff_ne.2 ho
      have e1 : IntKind.i64.wrap (y + openV i f t c p d u x b y) = y + openV i f t c p d u x b y := by unfold IntKind.wrap; simp [IntKind.bits, IntKind.signed]; omega
      by_cases hU : checksE fs = 0
      · rw [hU] at HS HRS
        by_cases hX : idxF id fs 0 < 0
        · exact ft_c2 i f t c p d u x b y n id 0 0 _ _ _ _ _ _ _ _ _ _ _ _ _ _ _ _ _ _ _ _ _ _ _ _ vl w HD HB RA RB HP HO (fun w' k => (FI w' k).2.1 hU hX) HC RCK HS HRS RO z1 e1 RF hX (decide_eq_true hX) hsl
        · exact ft_c3 i f t c p d u x b y n id 0 0 _ _ _ _ _ _ _ _ _ _ _ _ _ _ _ _ _ _ _ _ _ _ _ _ vl w HD HB RA RB HP HO (fun w' k => (FI w' k).2.2 hU hX) HC RCK HS HRS RO z1 e1 RF hX (decide_eq_false hX) hsl
      · exact ft_c1 i f t c p d u x b y n id 0 _ 0 _ _ _ _ _ _ _ _ _ _ _ _ _ _ _ _ _ _ _ _ _ _ _ vl w HD HB RA RB HP HO (fun w' k => (FI w' k).1 hU) HC RCK HS HRS RO z1 e1 (beq_eq_false_iff_ne.2 hU) hsl
  · have HP := fun w' => pay_bad i f t c p d u x b y w' _ _ rfl rfl hE
    have z1 : (failE i f t c p d u x b y == 0) = false := beq_eq_false_iff_ne.2 hE
    have o0 : openV i f t c p d u x b y = 0 := by unfold openV; rw [if_neg hE]
    rw [o0] at HO
    by_cases hU : checksE fs = 0
    · rw [hU] at HS HRS
      by_cases hX : idxF id fs 0 < 0
      · exact ft_a2 i f t c p d u x b y n id _ 0 _ 0 _ _ _ _ _ _ _ _ _ _ _ _ _ _ _ _ _ _ _ _ _ _ vl w HD HB RA RB HP HO (fun w' k => (FI w' k).2.1 hU hX) HC RCK HS HRS z1 RF hX (decide_eq_true hX) hsl
      · exact ft_a3 i f t c p d u x b y n id _ 0 _ 0 _ _ _ _ _ _ _ _ _ _ _ _ _ _ _ _ _ _ _ _ _ _ vl w HD HB RA RB HP HO (fun w' k => (FI w' k).2.2 hU hX) HC RCK HS HRS z1 RF hX (decide_eq_false hX) hsl
    · exact ft_a1 i f t c p d u x b y n id _ _ 0 0 _ _ _ _ _ _ _ _ _ _ _ _ _ _ _ _ _ _ _ _ _ _ vl w HD HB RA RB HP HO (fun w' k => (FI w' k).1 hU) HC RCK HS HRS z1 (beq_eq_false_iff_ne.2 hU) hsl

end Go.Proofs.Ytppeaenacgkgaaa
