/-
  Business days: all calls answer just what the reference says, in all ways.
-/
import Derived.Test.YtpkhhbplabfeaaaDoorLawCT
import Derived.Test.YtpkhhbplabfeaaaDoorLawCT11
import Derived.Test.YtpkhhbplabfeaaaDoorLawCT10
import Derived.Test.YtpkhhbplabfeaaaDoorLawCT01
import Derived.Test.YtpkhhbplabfeaaaDoorLawCT00
namespace Go.Proofs.YtpkhhbplabfeaaaDoor
open Go.RowKit
set_option linter.unusedVariables false

theorem cs_back {W : Int} {hs : List Int} {n : Int} (hE : calE W hs = 0) (n0 : 0 ≤ n) (n1 : n ≤ 3652058) :
    (csV W hs n (-1) < 0 ∧ dnR W hs (n - 1) 1 = 0 ∧ dnE W hs (n - 1) 1 = 8) ∨ (¬ csV W hs n (-1) < 0 ∧ dnR W hs (n - 1) 1 = csV W hs n (-1) ∧ dnE W hs (n - 1) 1 = 0) := by
  have e : steE W hs n (-1) = dnE W hs (n - 1) 1 := by unfold steE stpE; rw [days_mk1 hE n0 n1]; rfl
  have r : steR W hs n (-1) = dnR W hs (n - 1) 1 := by unfold steR stpR; rw [days_mk1 hE n0 n1]; rfl
  unfold csV
  rw [e, r]
  rcases dn_cases W hs (n := n - 1) (m := 1) (by omega) (by omega) (by omega) with ⟨e1, e2, _⟩ | ⟨e1, e2, _⟩
  · right; rw [if_pos e1]; exact ⟨by omega, rfl, e1⟩
  · left; rw [if_neg (by rw [e1]; decide)]; exact ⟨by omega, e2, e1⟩
theorem cs_rel {W : Int} {hs : List Int} {n m : Int} (hE : calE W hs = 0) (n0 : 0 ≤ n) (n1 : n ≤ 3652058) (m0 : -500 ≤ m) (m1 : m ≤ 500) :
    (csV W hs n m < 0 ∧ steR W hs n m = 0 ∧ steE W hs n m = 8) ∨ (¬ csV W hs n m < 0 ∧ steR W hs n m = csV W hs n m ∧ steE W hs n m = 0) := by
  unfold csV
  rcases ste_cases W hs n m with ⟨e, _, _, _, _, _, r0, _⟩ | ⟨e, r⟩
  · right; rw [if_pos e]; exact ⟨by omega, rfl, e⟩
  · left; rw [if_neg e]
    refine ⟨by omega, r, ?_⟩
    unfold steE stpE at e ⊢
    rw [days_mk1 hE n0 n1] at e ⊢
    rw [if_pos rfl, if_neg (by omega)] at e ⊢
    by_cases z : m = 0
    · rw [if_pos z] at e; exact absurd rfl e
    · rw [if_neg z] at e ⊢
      by_cases p : 0 < m
      · rw [if_pos p] at e ⊢
        rcases up_cases W hs (n := n) (m := m.toNat) (by omega) n1 (by omega) with ⟨x, _⟩ | ⟨x, _⟩
        · exact absurd x e
        · exact x
      · rw [if_neg p] at e ⊢
        rcases dn_cases W hs (n := n - 1) (m := (-m).toNat) (by omega) (by omega) (by omega) with ⟨x, _⟩ | ⟨x, _⟩
        · exact absurd x e
        · exact x

set_option maxHeartbeats 4000000 in
theorem calTells_walk (W n m tq : Int) (v : Value) (hs : List Int) (w : World) (ht : Tab w) (hr : Reads w v hs) (hf : Fits hs) :
    Calls Tryd.prog 3 #[calV W v, .int .i64 n, .int .i64 m, .int .i64 tq] w fun z w' => z = .returned (.bool true) ∧ Kpt w w' := by
  have hsl : ∃ a l cap, v = .slice a l cap := by obtain ⟨a, cap, rfl, _⟩ := id hr; exact ⟨_, _, _, rfl⟩
  have HI := fun w' (k : Kpt w w') => is_any W n v hs w' (hr.kpt k) hf
  have HN := fun w' (k : Kpt w w') => next_any W n v hs w' (hr.kpt k) hf
  have HS := fun w' (k : Kpt w w') => step_any W n m v hs w' (hr.kpt k) hf
  have HK := fun w' (k : Kpt w w') => count_any W n tq v hs w' (hr.kpt k) hf
  have HE := fun w' (k : Kpt w w') => rce_run W n v hs w' (hr.kpt k)
  have HCK := fun w' (k : Kpt w w') => (calCheck_any W v hs w' (hr.kpt k) hf).mono fun e w'' (h : e = .returned (.int .i64 (calE W hs)) ∧ Grew w' w'') => (⟨h.1, h.2.kpt⟩ : e = .returned (.int .i64 (calE W hs)) ∧ Kpt w' w'')
  have HCC := fun w' (k : Kpt w w') => rcc_run W v hs w' (hr.kpt k)
  by_cases hE : daysE W hs [n] = 0
  · obtain ⟨h0, n0, n1⟩ := daysE_1 hE
    have HB := fun w' (k : Kpt w w') => rbz_run W n v hs w' (hr.kpt k) h0
    rw [show dayB n = true from decide_eq_true ⟨n0, n1⟩, Bool.true_and] at HB
    rw [(is_ok' h0 n0 n1).1, hE] at HI
    rw [hE] at HE
    have HCN := fun w' (k : Kpt w w') => rcn_run W n v hs h0 n0 n1 w' (hr.kpt k)
    have HCS := fun (a : -500 ≤ m) (b : m ≤ 500) w' (k : Kpt w w') => rst_run W n m v hs h0 n0 n1 a b w' (hr.kpt k)
    have HBX : ∀ y : Int, 0 ≤ y → y ≤ 3652058 → ∀ w', Kpt w w' → Calls Tryd.prog 10 #[calV W v, .int .i64 y] w' fun z w'' => z = .returned (.bool (bizB W hs y)) ∧ Kpt w' w'' := fun y y0 y1 w' k => by
      have := rbz_run W y v hs w' (hr.kpt k) h0
      rw [show dayB y = true from decide_eq_true ⟨y0, y1⟩, Bool.true_and] at this
      exact this
    have XS : ((m < -500 ∨ 500 < m) ∧ steR W hs n m = 0 ∧ steE W hs n m = 3) ∨ ((-500 ≤ m ∧ m ≤ 500) ∧ ((csV W hs n m < 0 ∧ steR W hs n m = 0 ∧ steE W hs n m = 8) ∨ (¬ csV W hs n m < 0 ∧ steR W hs n m = csV W hs n m ∧ steE W hs n m = 0))) := by
      by_cases hm : m < -500 ∨ 500 < m
      · left; refine ⟨hm, ?_, ?_⟩
        · unfold steR stpR; rw [hE, if_pos rfl, if_pos hm]
        · unfold steE stpE; rw [hE, if_pos rfl, if_pos hm]
      · right; exact ⟨by omega, cs_rel h0 n0 n1 (by omega) (by omega)⟩
    have XK : ((tq < 0 ∨ 3652058 < tq) ∧ couR W hs n tq = 0 ∧ couE W hs n tq = 3) ∨ ((0 ≤ tq ∧ tq ≤ 3652058) ∧ ((tq < n ∧ couR W hs n tq = 0 ∧ couE W hs n tq = 1) ∨ (n ≤ tq ∧ couR W hs n tq = (cnt (bizB W hs) n tq : Nat) ∧ couE W hs n tq = 0))) := by
      by_cases hq : tq < 0 ∨ 3652058 < tq
      · left
        have d3 : daysE W hs [n, tq] = 3 := by
          unfold daysE; rw [if_pos h0]; unfold dysE
          rw [if_neg (by simp [dayB]; omega)]
        refine ⟨hq, ?_, ?_⟩
        · unfold couR; rw [d3, if_neg (by decide)]
        · unfold couE; rw [d3, if_neg (by decide)]
      · right; refine ⟨by omega, ?_⟩
        have d0 := days_mk2 (W := W) (hs := hs) (f := n) (t := tq) h0 n0 n1 (by omega) (by omega)
        by_cases hl : tq < n
        · left; refine ⟨hl, ?_, ?_⟩
          · unfold couR; rw [d0, if_pos rfl, if_pos hl]
          · unfold couE; rw [d0, if_pos rfl, if_pos hl]
        · right; obtain ⟨c1, c2⟩ := cou_ok (W := W) (hs := hs) (f := n) (t := tq) h0 n0 (by omega) (by omega)
          exact ⟨by omega, c1, c2⟩
    -- the fitted day
    have FT : ∃ t i F : Int, (∀ w', Kpt w w' → Calls Tryd.prog 8 #[calV W v, .int .i64 n] w' fun z w'' => z = .returned (.tuple #[.int .i64 t, .int .i64 i]) ∧ Kpt w' w'') ∧ (∀ w', Kpt w w' → Calls Tryd.prog 13 #[calV W v, .int .i64 n] w' fun z w'' => z = .returned (.int .i64 F) ∧ Kpt w' w'') ∧ ((F < 0 ∧ t = 0 ∧ i = 8) ∨ (¬ F < 0 ∧ t = F ∧ i = 0)) := by
      have hsl2 : ∃ a cap, v = .slice a hs.length cap := by obtain ⟨a, cap, rfl, _⟩ := id hr; exact ⟨_, _, rfl⟩
      have CSB := fun w' (k : Kpt w w') => rst_run W n (-1) v hs h0 n0 n1 (by omega) (by omega) w' (hr.kpt k)
      obtain ⟨y, mo, d, hv, hN⟩ := num_onto n n0 n1
      have D1 := fun w' => ref_of_at y mo d n hv hN w'
      have uc := up_cases W hs (n := n - 1) (m := 1) (by omega) (by omega) (by omega)
      rw [show n - 1 + 1 = n by omega] at uc
      rcases uc with ⟨e1, e2, e3, e4, e5⟩ | ⟨e1, e2, e3⟩
      · have cn : cnV W hs n = upR W hs n 1 := by unfold cnV nxtE nxtR; rw [hE, if_pos rfl, if_pos rfl, if_pos e1]
        have HCN' := HCN
        rw [cn] at HCN'
        obtain ⟨Y, M, D, hV, hM⟩ := num_onto (upR W hs n 1) (by omega) e3
        have D2 := fun w' => ref_of_at Y M D _ hV hM w'
        by_cases hy : Y = y
        · by_cases hm : M = mo
          · subst hy; subst hm
            exact ⟨_, _, _, fun w' k => fit_same W n v hs Y M d D _ hv hN hV hM w' (ht.kpt k) (hr.kpt k) hf hE rfl e1, fun w' k => rcf_same W n _ Y M d D v _ w' hsl2 (fun a b => HCN' a (ktr k b)) D1 D2 (by omega) (decide_eq_true (by omega)), .inr ⟨by omega, rfl, rfl⟩⟩
          · exact ⟨_, _, _, fun w' k => fit_other W n v hs y mo d Y M D _ hv hN hV hM (fun h => hm h.2.symm) w' (ht.kpt k) (hr.kpt k) hf hE rfl e1, fun w' k => rcf_m W n _ y mo d Y M D _ v _ w' hsl2 (fun a b => HCN' a (ktr k b)) D1 D2 (fun a b => CSB a (ktr k b)) (by omega) (decide_eq_true (by omega)) (beq_eq_false_iff_ne.2 hm) (beq_iff_eq.2 hy), cs_back h0 n0 n1⟩
        · exact ⟨_, _, _, fun w' k => fit_other W n v hs y mo d Y M D _ hv hN hV hM (fun h => hy h.1.symm) w' (ht.kpt k) (hr.kpt k) hf hE rfl e1, fun w' k => rcf_y W n _ y mo d Y M D _ v _ w' hsl2 (fun a b => HCN' a (ktr k b)) D1 D2 (fun a b => CSB a (ktr k b)) (by omega) (decide_eq_true (by omega)) (beq_eq_false_iff_ne.2 hy), cs_back h0 n0 n1⟩
      · have cn : cnV W hs n = -1 := by unfold cnV nxtE; rw [hE, if_pos rfl, if_neg (by rw [e1]; decide)]
        have HCN' := HCN
        rw [cn] at HCN'
        exact ⟨_, _, _, fun w' k => fit_none W n v hs w' (ht.kpt k) (hr.kpt k) hf hE e1, fun w' k => rcf_none W n _ y mo d _ v _ w' hsl2 (fun a b => HCN' a (ktr k b)) D1 (fun a b => CSB a (ktr k b)) (by omega) (decide_eq_false (by omega)), cs_back h0 n0 n1⟩
    obtain ⟨t, i, F, HF, HCF, XF⟩ := FT
    have nx : (cnV W hs n < 0 ∧ nxtR W hs n = 0 ∧ nxtE W hs n = 8) ∨ (¬ cnV W hs n < 0 ∧ nxtR W hs n = cnV W hs n ∧ nxtE W hs n = 0) := by
      unfold cnV
      rcases nxt_cases W hs n with ⟨h1, _, h2, h3, _⟩ | ⟨h1, h2⟩
      · right; rw [if_pos h1]; exact ⟨by omega, rfl, h1⟩
      · left; rw [if_neg h1]; refine ⟨by omega, h2, ?_⟩
        unfold nxtE at h1 ⊢
        rw [hE, if_pos rfl] at h1 ⊢
        have uc := up_cases W hs (n := n - 1) (m := 1) (by omega) (by omega) (by omega)
        rw [show n - 1 + 1 = n by omega] at uc
        rcases uc with ⟨e1, _⟩ | ⟨e1, _⟩
        · exact absurd e1 h1
        · exact e1
    rcases nx with ⟨a1, a2, a3⟩ | ⟨a1, a2, a3⟩
    · rw [a2, a3] at HN
      rcases XF with ⟨b1, rfl, rfl⟩ | ⟨b1, rfl, rfl⟩
      · exact ctl_ok11 W n m tq _ _ _ _ _ _ _ _ _ _ v hs w ht hsl HI HN HS HK HF HE HCK HCC HB HCN HCS HCF HBX n0 n1 (decide_eq_true a1) (decide_eq_true b1) XS XK
      · exact ctl_ok10 W n m tq _ _ _ _ _ _ _ _ _ _ v hs w ht hsl HI HN HS HK HF HE HCK HCC HB HCN HCS HCF HBX n0 n1 (decide_eq_true a1) (decide_eq_false b1) XS XK
    · rw [a2, a3] at HN
      rcases XF with ⟨b1, rfl, rfl⟩ | ⟨b1, rfl, rfl⟩
      · exact ctl_ok01 W n m tq _ _ _ _ _ _ _ _ _ _ v hs w ht hsl HI HN HS HK HF HE HCK HCC HB HCN HCS HCF HBX n0 n1 (decide_eq_false a1) (decide_eq_true b1) XS XK
      · exact ctl_ok00 W n m tq _ _ _ _ _ _ _ _ _ _ v hs w ht hsl HI HN HS HK HF HE HCK HCC HB HCN HCS HCF HBX n0 n1 (decide_eq_false a1) (decide_eq_false b1) XS XK
  · have HF := fun w' (k : Kpt w w') => fit_bad W n v hs w' (hr.kpt k) hf hE
    have d2 : daysE W hs [n, tq] = daysE W hs [n] := by
      unfold daysE at hE ⊢
      by_cases hc : calE W hs = 0
      · rw [if_pos hc] at hE ⊢
        rw [if_pos hc]
        unfold dysE at hE ⊢
        by_cases hd : dayB n = true
        · exact absurd (by rw [if_pos (by simpa using hd)]) hE
        · have hd : dayB n = false := by simpa using hd
          rw [if_neg (by simp [hd]), if_neg (by simp [hd])]
      · rw [if_neg hc, if_neg hc]
    have i0 : isR W hs n = false := by unfold isR; rw [if_neg hE]
    have x0 : nxtR W hs n = 0 := by unfold nxtR; rw [if_neg hE]
    have x1 : nxtE W hs n = daysE W hs [n] := by unfold nxtE; rw [if_neg hE]
    have s0 : steR W hs n m = 0 := by unfold steR; rw [if_neg hE]
    have s1 : steE W hs n m = daysE W hs [n] := by unfold steE; rw [if_neg hE]
    have k0 : couR W hs n tq = 0 := by unfold couR; rw [if_neg (by rw [d2]; exact hE)]
    have k1 : couE W hs n tq = daysE W hs [n] := by unfold couE; rw [if_neg (by rw [d2]; exact hE), d2]
    rw [i0] at HI; rw [x0, x1] at HN; rw [s0, s1] at HS; rw [k0, k1] at HK
    exact ctl_e W n m tq _ _ v hs w ht hsl HI HN HS HK HF HE HCK HCC (beq_eq_false_iff_ne.2 hE)

end Go.Proofs.YtpkhhbplabfeaaaDoor
