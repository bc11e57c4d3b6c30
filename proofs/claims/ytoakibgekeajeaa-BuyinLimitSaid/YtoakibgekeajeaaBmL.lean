/-
  Merged: LawBL.
-/
import Derived.Test.YtoakibgekeajeaaBmF
import Derived.Test.YtoakibgekeajeaaSl
-- LawBL
namespace Go.Proofs.Ytoakibgekeajeaa
open Go.RowKit Go.Lib
set_option linter.unusedVariables false

set_option maxRecDepth 100000 in
set_option maxHeartbeats 1000000 in
theorem blim_no (v : Value) (u lim more E : Int) (h : E ≠ 0) (w : World) (B0 : TkE w v u lim E) : Calls Try.prog 4 #[v, .int .i64 u, .int .i64 lim, .int .i64 more] w fun x w' => x = .returned (.bool true) ∧ Kpt w w' := by
  have B := Lib.hid B0
  have q : (E != 0) = true := bne_iff_ne.2 h
  have K0 : Hid (Kpt w w) := Kpt.refl w
  clear B0 h
  go_enter Try.func4, Try.ntmps4
  go_wp2_with (first
    | (go_at_call 16; (with_reducible refine (B.out.run _ K0.out).mono ?_); rintro e w1 ⟨rfl, k1⟩; have K0 := Lib.hid (ktr K0.out k1); clear k1)
    | (go_at_call 26; (with_reducible refine (buyinBegun _).mono ?_); rintro e w1 ⟨rfl, k1⟩; have K0 := Lib.hid (ktr K0.out k1); clear k1))
  go_ret
  exact ⟨rfl, K0.out⟩

set_option maxRecDepth 100000 in
set_option maxHeartbeats 8000000 in
theorem blim_ok (a : Option Addr) (cap : Nat) (ps : List (Int × Int × Int)) (T : List Int) (M u lim more : Int) (w : World) (h40 : ps.length ≤ 40) (hu : 0 ≤ u ∧ u ≤ 1073741824) (hM : 0 ≤ M ∧ M ≤ u) (hTl : T.length = ps.length) (hTs : T.sum + M = u) (hTn : ∀ z ∈ T, 0 ≤ z)
    (hf : ∀ j : Nat, j < ps.length → (0 ≤ T.getD j 0 ∧ T.getD j 0 ≤ (ps.getD j default).2.1) ∧ (lim < (ps.getD j default).2.2 → T.getD j 0 = 0) ∧ (0 < M → (ps.getD j default).2.2 ≤ lim → T.getD j 0 = (ps.getD j default).2.1))
    (hr : ReadsP w (.slice a ps.length cap) ps) (B0 : TkR w (.slice a ps.length cap) ps.length u lim T M)
    (B1 : (∃ E, E ≠ 0 ∧ TkE w (.slice a ps.length cap) u more E) ∨ (∃ T2 M2, (more < lim ∨ M2 ≤ M) ∧ TkR w (.slice a ps.length cap) ps.length u more T2 M2)) :
    Calls Try.prog 4 #[.slice a ps.length cap, .int .i64 u, .int .i64 lim, .int .i64 more] w fun x w' => x = .returned (.bool true) ∧ Kpt w w' := by
  have B := Lib.hid B0
  have BB := Lib.hid B1
  have HF := Lib.hid hf
  have TL := Lib.hid hTl
  have HC : Hid (∀ j, j < ps.length → ∃ b off, a = some ⟨b, off, none⟩ ∧ PtAt w b (off + j * 3) (ps.getD j default)) := by
    obtain ⟨a', cap', e, -, -, -, hc⟩ := hr
    injection e with e1 _ e3
    subst e1 e3
    exact hc
  have TG : Hid (∀ w' g, Row w' g T → Calls Try.prog 28 #[.slice (some ⟨g, 0, none⟩) ps.length ps.length] w' fun e w'' => e = .returned (.int .i64 (u - M)) ∧ Kpt w' w'') := fun w' g r => by
    have := tog_all _ T w' (r.reads (by unfold maxLen; omega) T.length) hTn (by omega)
    rwa [show T.sum = u - M by omega, hTl] at this
  have K0 : Hid (Kpt w w) := Kpt.refl w
  obtain ⟨u0, u1⟩ := hu
  obtain ⟨M0, M1⟩ := hM
  have q1 : decide (M < 0) = false := decide_eq_false (by omega)
  have m1 : IntKind.i64.wrap (u - M + M) = u := by rw [show u - M + M = u by omega]; exact IntWalk.i64_in _ (by omega)
  clear B0 B1 hf hTl hr hTs hTn
  go_enter Try.func4, Try.ntmps4
  go_wp2_with (first
    | (go_at_call 16; (with_reducible refine (B.out.run _ K0.out).mono ?_); rintro e w1 ⟨g, rfl, _, r1, k1⟩; have K0 := Lib.hid (ktr K0.out k1); have R1 := Lib.hid r1; clear k1 r1)
    | (go_at_call 26; (with_reducible refine (buyinBegun _).mono ?_); rintro e w1 ⟨rfl, k1⟩; have K0 := Lib.hid (ktr K0.out k1); have R1 := Lib.hid (Row.kptL R1.out k1); clear k1)
    | (go_at_call 28; (with_reducible refine (TG.out _ _ R1.out).mono ?_); rintro e w1 ⟨rfl, k1⟩; have K0 := Lib.hid (ktr K0.out k1); have R1 := Lib.hid (Row.kptL R1.out k1); clear k1))
  go_loopw [12] (fun i wr => ∃ k : Nat, k ≤ ps.length ∧ i = .int .i64 k ∧ Hid (Row wr g T) ∧ Hid (Kpt w wr)) (fun i _ => ps.length - (intOf i).toNat)
  case atStart => exact ⟨0, Nat.zero_le _, rfl, R1.out, K0.out⟩
  case round =>
    obtain ⟨k, hk, rfl, HR, HK⟩ := hrel
    clear R1 K0
    by_cases hlt : k < ps.length
    · have c1 := HR.out.cell (j := k) (by rw [TL.out]; exact hlt)
      obtain ⟨b, off, rfl, hp⟩ := HC.out k hlt
      obtain ⟨-, c2, c3⟩ := hp.kpt HK.out
      obtain ⟨⟨f1, f2⟩, f3, f4⟩ := HF.out k hlt
      clear hp
      generalize T.getD k 0 = t at *
      generalize (ps.getD k default).2.1 = U at *
      generalize (ps.getD k default).2.2 = C at *
      have k0 : (0 : Int) ≤ (k : Int) := by omega
      have k1 : (k : Int) < ps.length := by omega
      have d1 : decide (t < 0) = false := decide_eq_false (by omega)
      have d2 : decide (U < t) = false := decide_eq_false (by omega)
      by_cases t0 : 0 < t
      · have d3 : decide (0 < t) = true := decide_eq_true t0
        have hC : C ≤ lim := by
          rcases Int.lt_or_le lim C with g | g
          · have := f3 g; omega
          · exact g
        have d4 : decide (lim < C) = false := decide_eq_false (by omega)
        by_cases hm : 0 < M
        · have d5 : decide (0 < M) = true := decide_eq_true hm
          have d6 : decide (C ≤ lim) = true := decide_eq_true hC
          have d7 : decide (t < U) = false := decide_eq_false (by have := f4 hm hC; omega)
          clear t0 hm hC
          clear f1 f2 f3 f4
          go_wp2
          go_quiet (fail)
          go_wp2
          go_roundw
          case rel => exact ⟨k + 1, by omega, by go_num, HR.out.below (below_drewN (Below.refl _ _) _) HR.out.lt, HK.out.drewN _⟩
          case measure => simp [intOf]; omega
        · have d5 : decide (0 < M) = false := decide_eq_false hm
          clear t0 hm hC
          clear f1 f2 f3 f4
          go_wp2
          go_quiet (fail)
          go_wp2
          go_roundw
          case rel => exact ⟨k + 1, by omega, by go_num, HR.out.below (below_drewN (Below.refl _ _) _) HR.out.lt, HK.out.drewN _⟩
          case measure => simp [intOf]; omega
      · have d3 : decide (0 < t) = false := decide_eq_false t0
        by_cases hm : 0 < M
        · have d5 : decide (0 < M) = true := decide_eq_true hm
          by_cases hC : C ≤ lim
          · have d6 : decide (C ≤ lim) = true := decide_eq_true hC
            have d7 : decide (t < U) = false := decide_eq_false (by have := f4 hm hC; omega)
            clear t0 hm hC
            clear f1 f2 f3 f4
            go_wp2
            go_quiet (fail)
            go_wp2
            go_roundw
            case rel => exact ⟨k + 1, by omega, by go_num, HR.out.below (below_drewN (Below.refl _ _) _) HR.out.lt, HK.out.drewN _⟩
            case measure => simp [intOf]; omega
          · have d6 : decide (C ≤ lim) = false := decide_eq_false hC
            clear t0 hm hC
            clear f1 f2 f3 f4
            go_wp2
            go_quiet (fail)
            go_wp2
            go_roundw
            case rel => exact ⟨k + 1, by omega, by go_num, HR.out.below (below_drewN (Below.refl _ _) _) HR.out.lt, HK.out.drewN _⟩
            case measure => simp [intOf]; omega
        · have d5 : decide (0 < M) = false := decide_eq_false hm
          clear t0 hm
          clear f1 f2 f3 f4
          go_wp2
          go_quiet (fail)
          go_wp2
          go_roundw
          case rel => exact ⟨k + 1, by omega, by go_num, HR.out.below (below_drewN (Below.refl _ _) _) HR.out.lt, HK.out.drewN _⟩
          case measure => simp [intOf]; omega
    · obtain rfl : k = ps.length := by omega
      rcases BB.out with ⟨E, hE, b1⟩ | ⟨T2, M2, hm, b1⟩
      · have BE := Lib.hid b1
        have q : (E != 0) = true := bne_iff_ne.2 hE
        clear b1 hE
        go_wp2_with (go_at_call 16; (with_reducible refine (BE.out.run _ HK.out).mono ?_); rintro e w2 ⟨rfl, k1⟩; have K2 := Lib.hid (ktr HK.out k1); clear k1)
        go_ret
        exact ⟨rfl, K2.out⟩
      · have BR := Lib.hid b1
        clear b1
        by_cases hml : more < lim
        · have q : decide (more < lim) = true := decide_eq_true hml
          clear hm hml
          go_wp2_with (go_at_call 16; (with_reducible refine (BR.out.run _ HK.out).mono ?_); rintro e w2 ⟨g2, rfl, _, _, k1⟩; have K2 := Lib.hid (ktr HK.out k1); clear k1)
          go_ret
          exact ⟨rfl, K2.out⟩
        · have q : decide (more < lim) = false := decide_eq_false hml
          have q2 : decide (M2 ≤ M) = true := decide_eq_true (by omega)
          clear hm hml
          go_wp2_with (go_at_call 16; (with_reducible refine (BR.out.run _ HK.out).mono ?_); rintro e w2 ⟨g2, rfl, _, _, k1⟩; have K2 := Lib.hid (ktr HK.out k1); clear k1)
          go_ret
          exact ⟨rfl, K2.out⟩

theorem blim_plain (v : Value) (u lim more : Int) (ps : List (Int × Int × Int)) (w : World) (hr : ReadsP w v ps) : Calls Try.prog 4 #[v, .int .i64 u, .int .i64 lim, .int .i64 more] w fun x w' => x = .returned (.bool true) ∧ Kpt w w' := by
  obtain ⟨a, cap, rfl, -, -, -, -⟩ := id hr
  rcases take_way a cap ps u lim w hr with ⟨E, hE, _, B⟩ | ⟨hE, B⟩
  · exact blim_no _ u lim more E hE w B
  · obtain ⟨h1, hp⟩ := takE_0 hE
    obtain ⟨h0, u0, u1⟩ := for_0 h1
    have ht := take_is_ok (u := u) (lim := lim) h0 (by omega)
    refine blim_ok a cap ps _ _ u lim more w (loan_0 h0).1 ⟨by omega, u1⟩ ht.left ht.len ht.sum (nnB_of ht.len fun j hj => (ht.bd j hj).1) (fun j hj => ⟨ht.bd j hj, ht.dear j hj, fun hm hC => ht.full hm j hj hC⟩) hr B ?_
    rcases take_way a cap ps u more w hr with ⟨E, hE', _, B'⟩ | ⟨hE', B'⟩
    · exact .inl ⟨E, hE', B'⟩
    · refine .inr ⟨_, _, ?_, B'⟩
      rcases Int.lt_or_le more lim with g | g
      · exact .inl g
      · exact .inr (take_more h0 (by omega) g)

end Go.Proofs.Ytoakibgekeajeaa
