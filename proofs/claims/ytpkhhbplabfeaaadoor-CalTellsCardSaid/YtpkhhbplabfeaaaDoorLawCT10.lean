/-
  Business days: all calls answer just what the reference says.
-/
import Derived.Test.YtpkhhbplabfeaaaDoorRefCal3
import Derived.Test.YtpkhhbplabfeaaaDoorCalJ
import Derived.Test.YtpkhhbplabfeaaaDoorQuietK
import Derived.Deep.Cut
import Derived.Deep.CutRange
namespace Go.Proofs.YtpkhhbplabfeaaaDoor
open Go.RowKit
set_option linter.unusedVariables false


set_option maxRecDepth 100000 in
set_option maxHeartbeats 8000000 in
theorem ctl_ok10 (W n m tq : Int) (s g k h N M F C : Int) (B : Bool) (β : Int → Bool) (v : Value) (hs : List Int) (w : World) (ht : Tab w) (hsl : ∃ a l cap, v = .slice a l cap) (HI : (∀ w' : World, Kpt w w' → Calls Tryd.prog 4 #[calV W v, .int .i64 n] w' fun z w'' => z = .returned (.tuple #[.bool B, .int .i64 0]) ∧ Kpt w' w'')) (HN : (∀ w' : World, Kpt w w' → Calls Tryd.prog 5 #[calV W v, .int .i64 n] w' fun z w'' => z = .returned (.tuple #[.int .i64 0, .int .i64 8]) ∧ Kpt w' w'')) (HS : (∀ w' : World, Kpt w w' → Calls Tryd.prog 6 #[calV W v, .int .i64 n, .int .i64 m] w' fun z w'' => z = .returned (.tuple #[.int .i64 s, .int .i64 g]) ∧ Kpt w' w'')) (HK : (∀ w' : World, Kpt w w' → Calls Tryd.prog 7 #[calV W v, .int .i64 n, .int .i64 tq] w' fun z w'' => z = .returned (.tuple #[.int .i64 k, .int .i64 h]) ∧ Kpt w' w'')) (HF : (∀ w' : World, Kpt w w' → Calls Tryd.prog 8 #[calV W v, .int .i64 n] w' fun z w'' => z = .returned (.tuple #[.int .i64 F, .int .i64 0]) ∧ Kpt w' w'')) (HE : (∀ w' : World, Kpt w w' → Calls Tryd.prog 9 #[calV W v, .int .i64 n] w' fun z w'' => z = .returned (.int .i64 0) ∧ Kpt w' w'')) (HCK : (∀ w' : World, Kpt w w' → Calls Tryd.prog 15 #[calV W v] w' fun z w'' => z = .returned (.int .i64 C) ∧ Kpt w' w'')) (HCC : (∀ w' : World, Kpt w w' → Calls Tryd.prog 16 #[calV W v] w' fun z w'' => z = .returned (.int .i64 C) ∧ Kpt w' w'')) (HB : (∀ w' : World, Kpt w w' → Calls Tryd.prog 10 #[calV W v, .int .i64 n] w' fun z w'' => z = .returned (.bool B) ∧ Kpt w' w'')) (HCN : (∀ w' : World, Kpt w w' → Calls Tryd.prog 11 #[calV W v, .int .i64 n] w' fun z w'' => z = .returned (.int .i64 N) ∧ Kpt w' w'')) (HCS : -500 ≤ m → m ≤ 500 → (∀ w' : World, Kpt w w' → Calls Tryd.prog 12 #[calV W v, .int .i64 n, .int .i64 m] w' fun z w'' => z = .returned (.int .i64 M) ∧ Kpt w' w'')) (HCF : (∀ w' : World, Kpt w w' → Calls Tryd.prog 13 #[calV W v, .int .i64 n] w' fun z w'' => z = .returned (.int .i64 F) ∧ Kpt w' w'')) (HBX : ∀ y : Int, 0 ≤ y → y ≤ 3652058 → (∀ w' : World, Kpt w w' → Calls Tryd.prog 10 #[calV W v, .int .i64 y] w' fun z w'' => z = .returned (.bool (β y)) ∧ Kpt w' w'')) (n0 : 0 ≤ n) (n1 : n ≤ 3652058) (y1 : decide (N < 0) = true) (yf : decide (F < 0) = false) (XS : ((m < -500 ∨ 500 < m) ∧ s = 0 ∧ g = 3) ∨ ((-500 ≤ m ∧ m ≤ 500) ∧ ((M < 0 ∧ s = 0 ∧ g = 8) ∨ (¬ M < 0 ∧ s = M ∧ g = 0)))) (XK : ((tq < 0 ∨ 3652058 < tq) ∧ k = 0 ∧ h = 3) ∨ ((0 ≤ tq ∧ tq ≤ 3652058) ∧ ((tq < n ∧ k = 0 ∧ h = 1) ∨ (n ≤ tq ∧ k = (cnt β n tq : Nat) ∧ h = 0)))) :
    Calls Tryd.prog 3 #[calV W v, .int .i64 n, .int .i64 m, .int .i64 tq] w fun z w' => z = .returned (.bool true) ∧ Kpt w w' := by
  obtain ⟨a, l, cap, rfl⟩ := hsl
  obtain ⟨k0, a0, a1⟩ := W1cells W a l cap w
  have K0 := Lib.hid k0
  have HT := Lib.hid ht
  have KW : Hid (Kpt (w.alloc (.cells #[.int .i64 W, .slice a l cap] 24)) (w.alloc (.cells #[.int .i64 W, .slice a l cap] 24))) := Kpt.refl _
  have B0 := Lib.hid a0
  have B1 := Lib.hid a1
  clear k0 ht
  have HI := Lib.hid HI
  have HN := Lib.hid HN
  have HS := Lib.hid HS
  have HK := Lib.hid HK
  have HF := Lib.hid HF
  have HE := Lib.hid HE
  have HCK := Lib.hid HCK
  have HCC := Lib.hid HCC
  have HB := Lib.hid HB
  have HCN := Lib.hid HCN
  have HCS := Lib.hid HCS
  have HCF := Lib.hid HCF
  have HBX := Lib.hid HBX
  have XS := Lib.hid XS
  have XK := Lib.hid XK
  unfold calV at *
  go_enter Tryd.func3, Tryd.ntmps3
  obtain ⟨bs, hb0⟩ : ∃ b0 : Bool, b0 = decide (m < -500 ∨ 500 < m) := ⟨_, rfl⟩
  have Hbs := Lib.hid hb0
  clear hb0
  go_upto_region 14 with (first
    | (go_at_call 4; (with_reducible refine (HI.out _ (ktr K0.out KW.out)).mono ?_); rintro e q1 ⟨rfl, k1⟩; have K1 : Hid (Kpt (w.alloc (.cells #[.int .i64 W, .slice a l cap] 24)) q1) := ktr KW.out k1; have a0 := k1.cell a0; have a1 := k1.cell a1; clear k1)
    | (go_at_call 5; (with_reducible refine (HN.out _ (ktr K0.out K1.out)).mono ?_); rintro e q2 ⟨rfl, k1⟩; have K2 : Hid (Kpt (w.alloc (.cells #[.int .i64 W, .slice a l cap] 24)) q2) := ktr K1.out k1; have a0 := k1.cell a0; have a1 := k1.cell a1; clear k1)
    | (go_at_call 6; (with_reducible refine (HS.out _ (ktr K0.out K2.out)).mono ?_); rintro e q3 ⟨rfl, k1⟩; have K3 : Hid (Kpt (w.alloc (.cells #[.int .i64 W, .slice a l cap] 24)) q3) := ktr K2.out k1; have a0 := k1.cell a0; have a1 := k1.cell a1; clear k1)
    | (go_at_call 7; (with_reducible refine (HK.out _ (ktr K0.out K3.out)).mono ?_); rintro e q4 ⟨rfl, k1⟩; have K4 : Hid (Kpt (w.alloc (.cells #[.int .i64 W, .slice a l cap] 24)) q4) := ktr K3.out k1; have a0 := k1.cell a0; have a1 := k1.cell a1; clear k1)
    | (go_at_call 8; (with_reducible refine (HF.out _ (ktr K0.out K4.out)).mono ?_); rintro e q5 ⟨rfl, k1⟩; have K5 : Hid (Kpt (w.alloc (.cells #[.int .i64 W, .slice a l cap] 24)) q5) := ktr K4.out k1; have a0 := k1.cell a0; have a1 := k1.cell a1; clear k1)
    | (go_at_call 9; (with_reducible refine (HE.out _ (ktr K0.out K5.out)).mono ?_); rintro e q6 ⟨rfl, k1⟩; have K6 : Hid (Kpt (w.alloc (.cells #[.int .i64 W, .slice a l cap] 24)) q6) := ktr K5.out k1; have a0 := k1.cell a0; have a1 := k1.cell a1; clear k1)
    | (go_at_call 10; (with_reducible refine (HB.out _ (ktr K0.out K6.out)).mono ?_); rintro e q7 ⟨rfl, k1⟩; have K7 : Hid (Kpt (w.alloc (.cells #[.int .i64 W, .slice a l cap] 24)) q7) := ktr K6.out k1; have a0 := k1.cell a0; have a1 := k1.cell a1; clear k1)
    | (go_at_call 11; (with_reducible refine (HCN.out _ (ktr K0.out K7.out)).mono ?_); rintro e q8 ⟨rfl, k1⟩; have K8 : Hid (Kpt (w.alloc (.cells #[.int .i64 W, .slice a l cap] 24)) q8) := ktr K7.out k1; have a0 := k1.cell a0; have a1 := k1.cell a1; clear k1))
  go_cut [84] from 79 to 83 (fun v0 wx => v0 = .bool bs ∧ wx = q8)
  case first =>
    by_cases c1 : m < -500
    · have y1 : decide (m < -500) = true := decide_eq_true c1
      go_wp2
      go_meet
      case rel => exact ⟨by rw [Hbs.out, decide_eq_true (by omega)], rfl⟩
    · have y1 : decide (m < -500) = false := decide_eq_false c1
      by_cases c2 : 500 < m
      · have y2 : decide (500 < m) = true := decide_eq_true c2
        go_wp2
        go_meet
        case rel => exact ⟨by rw [Hbs.out, decide_eq_true (by omega)], rfl⟩
      · have y2 : decide (500 < m) = false := decide_eq_false c2
        go_wp2
        go_meet
        case rel => exact ⟨by rw [Hbs.out, decide_eq_false (by omega)], rfl⟩
  case rest =>
  obtain ⟨rfl, hw⟩ := hcut
  subst hw
  go_upto_if 84 with fail
  go_cut [21, 26] from 85 to 90 (fun v21 v26 wx => v21 = .int .i64 g ∧ v26 = .int .i64 s ∧ Hid (Kpt (w.alloc (.cells #[.int .i64 W, .slice a l cap] 24)) wx))
  case first =>
    rcases XS.out with ⟨h1, h2, h3⟩ | ⟨⟨h1, h1'⟩, hm⟩
    · have E2 := Lib.hid h2
      have E3 := Lib.hid h3
      clear h2 h3
      obtain rfl : bs = true := by rw [Hbs.out]; exact decide_eq_true h1
      clear h1
      go_wp2
      go_meet
      case rel => exact ⟨by rw [E3.out], by rw [E2.out], K8.out⟩
    · have HC2 := Lib.hid (HCS.out h1 h1')
      obtain rfl : bs = false := by rw [Hbs.out]; exact decide_eq_false (by omega)
      rcases hm with ⟨h4, h2, h3⟩ | ⟨h4, h2, h3⟩
      · have y3 : decide (M < 0) = true := decide_eq_true (by omega)
        have E2 := Lib.hid h2
        have E3 := Lib.hid h3
        clear h2 h3
        go_wp2_with (go_at_call 12; (with_reducible refine (HC2.out _ (ktr K0.out K8.out)).mono ?_); rintro e q9 ⟨rfl, k1⟩; have K9 : Hid (Kpt (w.alloc (.cells #[.int .i64 W, .slice a l cap] 24)) q9) := ktr K8.out k1; clear k1)
        go_meet
        case rel => exact ⟨by rw [E3.out], by rw [E2.out], K9.out⟩
      · have y3 : decide (M < 0) = false := decide_eq_false (by omega)
        have E2 := Lib.hid h2
        have E3 := Lib.hid h3
        clear h2 h3
        go_wp2_with (go_at_call 12; (with_reducible refine (HC2.out _ (ktr K0.out K8.out)).mono ?_); rintro e q9 ⟨rfl, k1⟩; have K9 : Hid (Kpt (w.alloc (.cells #[.int .i64 W, .slice a l cap] 24)) q9) := ktr K8.out k1; clear k1)
        go_meet
        case rel => exact ⟨by rw [E3.out], by rw [E2.out], K9.out⟩
  case rest =>
  obtain ⟨rfl, rfl, K9⟩ := hcut
  have a0 := K9.out.cell B0.out
  have a1 := K9.out.cell B1.out
  clear XS
  obtain ⟨bt, hb0⟩ : ∃ b0 : Bool, b0 = decide (tq < 0 ∨ 3652058 < tq) := ⟨_, rfl⟩
  have Hbt := Lib.hid hb0
  clear hb0
  go_upto_region 19 with fail
  go_cut [96] from 91 to 95 (fun v0 wx => v0 = .bool bt ∧ wx = wc)
  case first =>
    by_cases c1 : tq < 0
    · have y1 : decide (tq < 0) = true := decide_eq_true c1
      go_wp2
      go_meet
      case rel => exact ⟨by rw [Hbt.out, decide_eq_true (by omega)], rfl⟩
    · have y1 : decide (tq < 0) = false := decide_eq_false c1
      by_cases c2 : 3652058 < tq
      · have y2 : decide (3652058 < tq) = true := decide_eq_true c2
        go_wp2
        go_meet
        case rel => exact ⟨by rw [Hbt.out, decide_eq_true (by omega)], rfl⟩
      · have y2 : decide (3652058 < tq) = false := decide_eq_false c2
        go_wp2
        go_meet
        case rel => exact ⟨by rw [Hbt.out, decide_eq_false (by omega)], rfl⟩
  case rest =>
  obtain ⟨rfl, hw⟩ := hcut
  subst hw
  go_upto_if 96 with fail
  go_cut [22, 27] from 97 to 116 (fun v22 v27 wx => v22 = .int .i64 h ∧ v27 = .int .i64 k ∧ Hid (Kpt (w.alloc (.cells #[.int .i64 W, .slice a l cap] 24)) wx))
  case first =>
    rcases XK.out with ⟨h1, h2, h3⟩ | ⟨⟨h1, h1'⟩, hm⟩
    · have E2 := Lib.hid h2
      have E3 := Lib.hid h3
      clear h2 h3
      obtain rfl : bt = true := by rw [Hbt.out]; exact decide_eq_true h1
      clear h1
      go_wp2
      go_meet
      case rel => exact ⟨by rw [E3.out], by rw [E2.out], K9.out⟩
    · obtain rfl : bt = false := by rw [Hbt.out]; exact decide_eq_false (by omega)
      rcases hm with ⟨h4, h2, h3⟩ | ⟨h4, h2, h3⟩
      · have y3 : decide (tq < n) = true := decide_eq_true (by omega)
        have E2 := Lib.hid h2
        have E3 := Lib.hid h3
        clear h2 h3
        go_wp2
        go_meet
        case rel => exact ⟨by rw [E3.out], by rw [E2.out], K9.out⟩
      · have c3 : ¬ tq < n := by omega
        have y3 : decide (tq < n) = false := decide_eq_false c3
        have E2 := Lib.hid h2
        have E3 := Lib.hid h3
        clear h2 h3
        by_cases c4 : 3000 < tq - n
        · have y4 : decide (3000 < tq - n) = true := decide_eq_true c4
          go_wp2
          go_meet
          case rel => exact ⟨by rw [E3.out], rfl, K9.out⟩
        · have y4 : decide (3000 < tq - n) = false := decide_eq_false c4
          go_wp2
          go_loopw [27, 29] (fun lv dv wr => ∃ y c : Int, lv = .int .i64 c ∧ dv = .int .i64 y ∧ n + 1 ≤ y ∧ y ≤ tq + 1 ∧ 0 ≤ c ∧ c ≤ y ∧ Hid (c = (cnt β n (y - 1) : Nat)) ∧ Hid (Kpt (w.alloc (.cells #[.int .i64 W, .slice a l cap] 24)) wr)) (fun _ dv _ => (tq + 2 - intOf dv).toNat)
          case atStart => exact ⟨n + 1, 0, rfl, rfl, Int.le_refl _, by omega, Int.le_refl _, by omega, by unfold Hid; rw [show n + 1 - 1 = n by omega, cnt_self]; rfl, K9.out⟩
          case round =>
            obtain ⟨y, c9, rfl, rfl, u0, u1, u2, u3, HI9, HK9⟩ := hrel
            have a0 := HK9.out.cell B0.out
            have a1 := HK9.out.cell B1.out
            by_cases hx : y ≤ tq
            · have yx : decide (y ≤ tq) = true := decide_eq_true hx
              have CSx := cnt_succ β (show n ≤ y - 1 by omega)
              rw [show y - 1 + 1 = y by omega] at CSx
              have BB := Lib.hid (HBX.out y (by omega) (by omega) _ (ktr K0.out HK9.out))
              cases hb : β y with
              | true =>
                rw [hb] at BB
                have HI2 : Hid (c9 + 1 = (cnt β n (y + 1 - 1) : Nat)) := by
                  unfold Hid; rw [show y + 1 - 1 = y by omega, CSx, if_pos hb]; have := HI9.out; omega
                clear hb CSx HI9
                go_wp2_with (go_at_call 10; (with_reducible refine BB.out.mono ?_); rintro z w5 ⟨rfl, k5⟩; have K5 := Lib.hid (ktr HK9.out k5); clear k5)
                go_roundw
                case rel => exact ⟨y + 1, c9 + 1, rfl, rfl, by omega, by omega, by omega, by omega, HI2.out, K5.out⟩
                case measure => simp [intOf]; omega
              | false =>
                rw [hb] at BB
                have HI2 : Hid (c9 = (cnt β n (y + 1 - 1) : Nat)) := by
                  unfold Hid; rw [show y + 1 - 1 = y by omega, CSx, if_neg (by rw [hb]; simp)]; have := HI9.out; omega
                clear hb CSx HI9
                go_wp2_with (go_at_call 10; (with_reducible refine BB.out.mono ?_); rintro z w5 ⟨rfl, k5⟩; have K5 := Lib.hid (ktr HK9.out k5); clear k5)
                go_roundw
                case rel => exact ⟨y + 1, c9, rfl, rfl, by omega, by omega, by omega, by omega, HI2.out, K5.out⟩
                case measure => simp [intOf]; omega
            · have yx : decide (y ≤ tq) = false := decide_eq_false hx
              have EQ : Hid (c9 = k) := by
                unfold Hid; rw [E2.out, HI9.out, show y - 1 = tq by omega]
              clear HI9
              go_wp2
              go_meet
              case rel => exact ⟨by rw [E3.out], by rw [EQ.out], HK9.out⟩
  case rest =>
  obtain ⟨rfl, rfl, KA⟩ := hcut
  have a0 := KA.out.cell B0.out
  have a1 := KA.out.cell B1.out
  clear XK
  go_wp2_with (go_at_call 13; (with_reducible refine (HCF.out _ (ktr K0.out KA.out)).mono ?_); rintro e qb ⟨rfl, k1⟩; have KB : Hid (Kpt (w.alloc (.cells #[.int .i64 W, .slice a l cap] 24)) qb) := ktr KA.out k1; have a0 := k1.cell a0; have a1 := k1.cell a1; clear k1)
  have f0 := cell_k (q := qb) (a := ⟨w.heap.size, 0, none⟩) (v := .int .i64 W) a0
  have f1 := cell_k (q := qb) (a := ⟨w.heap.size, 1, none⟩) (v := .slice a l cap) a1
  have CBQ := Lib.hid (fun p : KptTo qb => calBegun p.w (HT.out.kpt (ktr K0.out (ktr KB.out p.h))))
  have CKQ := Lib.hid (fun p : KptTo qb => HCK.out p.w (ktr K0.out (ktr KB.out p.h)))
  have CCQ := Lib.hid (fun p : KptTo qb => HCC.out p.w (ktr K0.out (ktr KB.out p.h)))
  have mixed : Tryd.prog.follows .mixedOrders = true := by kernel_rfl
  refine quiet_k (q := qb) mixed (by kernel_rfl) ?_
  repeat (quiet_step (first | (go_at_call 14; with_reducible refine calls_k (CBQ.out _)) | (go_at_call 15; with_reducible refine calls_k (CKQ.out _)) | (go_at_call 16; with_reducible refine calls_k (CCQ.out _))))
  refine wpQuiet_nil ?_
  intro w8 hw1
  obtain ⟨⟨wz, kz⟩, hw2⟩ := hw1
  have hw3 : w8 = wz := hw2
  clear hw2
  subst hw3
  go_wp2
  go_ret
  exact ⟨rfl, ktr K0.out (ktr KB.out kz)⟩

end Go.Proofs.YtpkhhbplabfeaaaDoor
