/-
  What must be of ages in any case: ageBegun answers true.
-/
import Derived.Test.YtbidafbllnhmnaaAgeE
namespace Go.Proofs.Ytbidafbllnhmnaa
open Go.RowKit
set_option linter.unusedVariables false

theorem someT_run (w : World) : Calls Try.prog 68 #[] w fun e w' => e = .returned (.agg #[.int .i64 4, .int .i64 7, .int .i64 2, .int .i64 100]) ∧ Kpt w w' := by
  go_enter Try.func68, Try.ntmps68
  go_wp2
  exact bodyPost_ret (v := .agg #[.int .i64 4, .int .i64 7, .int .i64 2, .int .i64 100]) (by simp [results, Try.results68, go_sem]) rfl ⟨rfl, by repeat (first | exact Kpt.refl _ | refine Kpt.alloc ?_ _ | refine Kpt.setCell ?_ (by simp) _)⟩
theorem someF_run (w : World) : Calls Try.prog 60 #[] w fun e w' => e = .returned (.agg #[.int .i64 7, .int .i64 1, .int .i64 2, .int .i64 0, .int .i64 3, .int .i64 739935, .int .i64 100, .int .i64 0, .int .i64 0, .int .i64 0]) ∧ Kpt w w' := by
  have R1 := Lib.hid (Blk.made w #[.int .i64 0, .int .i64 0, .int .i64 0, .int .i64 0, .int .i64 0, .int .i64 0, .int .i64 0, .int .i64 0, .int .i64 0, .int .i64 0] 43)
  have K1 : Hid (Kpt w (w.alloc (.cells #[.int .i64 0, .int .i64 0, .int .i64 0, .int .i64 0, .int .i64 0, .int .i64 0, .int .i64 0, .int .i64 0, .int .i64 0, .int .i64 0] 43))) := (Kpt.refl w).alloc _
  go_enter Try.func60, Try.ntmps60
  go_wp2_with (refine wp_storeF rfl (.tmp 0) (.tmp 1) rfl w.heap.size _ _ rfl rfl R1.out rfl rfl (by simp [Value.oneCell']) ?_; intro w9 r9 k9 _; have R9 := Lib.hid r9; have K9 : Hid (Kpt w w9) := k9 _ _ K1.out (Nat.le_refl _); clear r9 k9)
  exact bodyPost_ret (v := .agg #[.int .i64 7, .int .i64 1, .int .i64 2, .int .i64 0, .int .i64 3, .int .i64 739935, .int .i64 100, .int .i64 0, .int .i64 0, .int .i64 0]) (results_cell_row Try.results60 _ _ w.heap.size _ _ _ _ rfl R9.out Try.underlying43 rfl Try.sizeFail) rfl ⟨rfl, K9.out⟩

theorem ab_cal : calE 96 wkH = 0 := by decide +kernel
theorem ab_ct : ctE 96 wkH 4 7 2 100 = 0 := by unfold ctE; rw [if_pos ab_cal]; decide
theorem ab_s1 : steR 96 wkH 739935 4 = 739942 ∧ steE 96 wkH 739935 4 = 0 := ste_up ab_cal (by decide) (by decide) (by decide) (by decide) (by decide) (by decide +kernel) (by decide +kernel)
theorem ab_s2 : steR 96 wkH 739942 7 = 739951 ∧ steE 96 wkH 739942 7 = 0 := ste_up ab_cal (by decide) (by decide) (by decide) (by decide) (by decide) (by decide +kernel) (by decide +kernel)
theorem ab_s3 : steR 96 wkH 739951 2 = 739953 ∧ steE 96 wkH 739951 2 = 0 := ste_up ab_cal (by decide) (by decide) (by decide) (by decide) (by decide) (by decide +kernel) (by decide +kernel)
theorem ab_d1 : dayAt 96 wkH 739935 4 7 2 1 = 739942 := ab_s1.1
theorem ab_d2 : dayAt 96 wkH 739935 4 7 2 2 = 739951 := by
  show steR 96 wkH (dayAt 96 wkH 739935 4 7 2 1) 7 = 739951
  rw [ab_d1]; exact ab_s2.1
theorem ab_d3 : dayAt 96 wkH 739935 4 7 2 3 = 739953 := by
  show steR 96 wkH (dayAt 96 wkH 739935 4 7 2 2) 2 = 739953
  rw [ab_d2]; exact ab_s3.1
theorem ab_w : wlkE 96 wkH 739935 4 7 2 = 0 := by
  refine wlk_no fun j hj => ?_
  rcases (show j = 0 ∨ j = 1 ∨ j = 2 by omega) with rfl | rfl | rfl
  · exact ab_s1.2
  · show steE 96 wkH (dayAt 96 wkH 739935 4 7 2 1) 7 = 0
    rw [ab_d1]; exact ab_s2.2
  · show steE 96 wkH (dayAt 96 wkH 739935 4 7 2 2) 2 = 0
    rw [ab_d2]; exact ab_s3.2
theorem ab_lk (q : Int) (h : dayB q = true) : lkE 96 wkH 4 7 2 100 7 1 2 0 3 739935 100 0 0 0 q = 0 := by
  unfold lkE
  rw [if_pos ab_ct, if_pos (by decide), if_pos h]; exact ab_w
theorem ab_1 (v : Value) (w : World) (hr : Reads w v wkH) : Calls Try.prog 67 #[calV 96 v, .agg #[.int .i64 4, .int .i64 7, .int .i64 2, .int .i64 100], .int .i64 739935] w fun z w' => z = .returned (.tuple #[.int .i64 739942, .int .i64 739951, .int .i64 739953, .int .i64 0]) ∧ Kpt w w' := by
  have := days_run 96 739935 4 7 2 100 v wkH w hr wk_fits
  have hE : agE 96 wkH 4 7 2 100 739935 = 0 := by unfold agE; rw [if_pos ab_ct]; exact ab_w
  unfold agD at this
  rwa [hE, if_pos rfl, if_pos rfl, if_pos rfl, ab_d1, ab_d2, ab_d3] at this
theorem ab_st (q s : Int) (hq : dayB q = true) (hs : stgV 100 739935 739942 739951 739953 q = s) (v : Value) (w : World) (hr : Reads w v wkH) : Calls Try.prog 23 #[calV 96 v, .agg #[.int .i64 4, .int .i64 7, .int .i64 2, .int .i64 100], .agg #[.int .i64 7, .int .i64 1, .int .i64 2, .int .i64 0, .int .i64 3, .int .i64 739935, .int .i64 100, .int .i64 0, .int .i64 0, .int .i64 0], .int .i64 q] w fun z w' => z = .returned (.tuple #[.int .i64 s, .int .i64 0]) ∧ Kpt w w' := by
  have := stg_ok 96 4 7 2 100 7 1 2 0 3 739935 100 0 0 0 q v wkH w hr wk_fits (ab_lk q hq)
  rwa [ab_d1, ab_d2, ab_d3, show openV 7 1 2 0 3 739935 100 0 0 0 = 100 by decide, hs] at this
theorem ab_4 (v : Value) (w : World) (hr : Reads w v wkH) : Calls Try.prog 69 #[calV 96 v, .agg #[.int .i64 4, .int .i64 7, .int .i64 2, .int .i64 100], .agg #[.int .i64 7, .int .i64 1, .int .i64 2, .int .i64 0, .int .i64 3, .int .i64 739935, .int .i64 100, .int .i64 0, .int .i64 0, .int .i64 0], .int .i64 739953] w fun z w' => z = .returned (.tuple #[.int .i64 0, .int .i64 0]) ∧ Kpt w w' := by
  have := lft_ok 96 4 7 2 100 7 1 2 0 3 739935 100 0 0 0 739953 v wkH w hr wk_fits (ab_lk _ (by decide)) (by rw [ab_d3]; decide)
  have hc := cou_ok (f := 739953) (t := 739953) ab_cal (by decide) (by decide) (by decide)
  rwa [ab_d3, hc.1, hc.2, cnt_self] at this
theorem ab_5 (v : Value) (w : World) (hr : Reads w v wkH) : Calls Try.prog 23 #[calV 96 v, .agg #[.int .i64 0, .int .i64 101, .int .i64 0, .int .i64 0], .agg #[.int .i64 7, .int .i64 1, .int .i64 2, .int .i64 0, .int .i64 3, .int .i64 739935, .int .i64 100, .int .i64 0, .int .i64 0, .int .i64 0], .int .i64 1] w fun z w' => z = .returned (.tuple #[.int .i64 0, .int .i64 3]) ∧ Kpt w w' := by
  refine stg_bad 96 0 101 0 0 7 1 2 0 3 739935 100 0 0 0 1 v wkH w hr wk_fits 3 ?_ (by decide)
  unfold lkE
  have : ctE 96 wkH 0 101 0 0 = 3 := by unfold ctE; rw [if_pos ab_cal]; decide
  rw [if_neg (by rw [this]; decide), this]

set_option maxRecDepth 100000 in
set_option maxHeartbeats 4000000 in
theorem ageBegun (w : World) : Calls Try.prog 22 #[] w fun e w' => e = .returned (.bool true) ∧ Kpt w w' := by
  have G : Hid (Kpt w w) := Kpt.refl w
  have HV : Hid True := trivial
  go_enter Try.func22, Try.ntmps22
  go_wp2_with (first
    | (go_at_call 61; (with_reducible refine (week_any _).mono ?_); rintro z wq ⟨vq, rfl, hrq, kq⟩; have G := Lib.hid (ktr G.out kq); have HV := Lib.hid hrq; clear kq hrq)
    | (go_at_call 68; (with_reducible refine (someT_run _).mono ?_); rintro z wt ⟨rfl, kt⟩; have G := Lib.hid (ktr G.out kt); have HV := Lib.hid (Reads.kpt HV.out kt); clear kt)
    | (go_at_call 60; (with_reducible refine (someF_run _).mono ?_); rintro z wf ⟨rfl, kf⟩; have G := Lib.hid (ktr G.out kf); have HV := Lib.hid (Reads.kpt HV.out kf); clear kf)
    | (go_at_call 67; (with_reducible refine (ab_1 _ _ HV.out).mono ?_); rintro z w1 ⟨rfl, k1⟩; have G := Lib.hid (ktr G.out k1); clear k1)
    | (go_at_call 23; (with_reducible refine (ab_st 739942 1 (by decide) (by decide) _ _ HV.out).mono ?_); rintro z w2 ⟨rfl, k2⟩; have G := Lib.hid (ktr G.out k2); clear k2)
    | (go_at_call 23; (with_reducible refine (ab_st 739943 2 (by decide) (by decide) _ _ HV.out).mono ?_); rintro z w3 ⟨rfl, k3⟩; have G := Lib.hid (ktr G.out k3); clear k3)
    | (go_at_call 69; (with_reducible refine (ab_4 _ _ HV.out).mono ?_); rintro z w4 ⟨rfl, k4⟩; have G := Lib.hid (ktr G.out k4); clear k4)
    | (go_at_call 23; (with_reducible refine (ab_5 _ _ HV.out).mono ?_); rintro z w5 ⟨rfl, k5⟩; have G := Lib.hid (ktr G.out k5); clear k5))
  go_ret
  exact ⟨rfl, G.out⟩

end Go.Proofs.Ytbidafbllnhmnaa
