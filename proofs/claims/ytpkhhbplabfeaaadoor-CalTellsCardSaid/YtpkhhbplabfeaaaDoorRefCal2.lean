/-
  What CalStep of the reference does.
-/
import Derived.Test.YtpkhhbplabfeaaaDoorRefCal
import Derived.Test.YtpkhhbplabfeaaaDoorCalM
namespace Go.Proofs.YtpkhhbplabfeaaaDoor
open Go.RowKit
set_option linter.unusedVariables false

/-- what a step is told as: -1 where there is none -/
def csV (W : Int) (hs : List Int) (n many : Int) : Int := if steE W hs n many = 0 then steR W hs n many else -1
theorem cs_zero {W : Int} {hs : List Int} {n : Int} (h : calE W hs = 0) (h0 : 0 ≤ n) (h2 : n ≤ 3652058) : csV W hs n 0 = n := by
  obtain ⟨a, b⟩ := ste_zero (W := W) (hs := hs) h h0 h2
  unfold csV; rw [if_pos b, a]
theorem cs_up {W : Int} {hs : List Int} {n k m : Int} (h : calE W hs = 0) (h0 : 0 ≤ n) (h1 : n < k) (h2 : k ≤ 3652058) (m0 : 0 < m) (m1 : m ≤ 500) (hb : bizB W hs k = true) (hc : cnt (bizB W hs) n k = m.toNat) : csV W hs n m = k := by
  obtain ⟨a, b⟩ := ste_up h h0 h1 h2 m0 m1 hb hc
  unfold csV; rw [if_pos b, a]
theorem cs_dn {W : Int} {hs : List Int} {n k m : Int} (h : calE W hs = 0) (h0 : 0 ≤ k) (h1 : k < n) (h2 : n ≤ 3652058) (m0 : m < 0) (m1 : -500 ≤ m) (hb : bizB W hs k = true) (hc : cnt (bizB W hs) (k - 1) (n - 1) = (-m).toNat) : csV W hs n m = k := by
  obtain ⟨a, b⟩ := ste_dn h h0 h1 h2 m0 m1 hb hc
  unfold csV; rw [if_pos b, a]
theorem cs_far {W : Int} {hs : List Int} {n m : Int} (m0 : 0 < m) (hc : cnt (bizB W hs) n 3652058 < m.toNat) : csV W hs n m = -1 := by
  unfold csV
  rcases ste_cases W hs n m with ⟨_, _, _, _, _, _, _, r1, c⟩ | ⟨e, _⟩
  · rcases c with ⟨z, _⟩ | ⟨p, l, b, k⟩ | ⟨q, _⟩
    · omega
    · have := cnt_mono (bizB W hs) (Int.le_of_lt l) r1
      omega
    · omega
  · rw [if_neg e]
theorem cs_low {W : Int} {hs : List Int} {n m : Int} (m0 : m < 0) (hn : 0 ≤ n) (hc : cnt (bizB W hs) (-1) (n - 1) < (-m).toNat) : csV W hs n m = -1 := by
  unfold csV
  rcases ste_cases W hs n m with ⟨_, _, _, _, _, _, r0, _, c⟩ | ⟨e, _⟩
  · rcases c with ⟨z, _⟩ | ⟨p, _⟩ | ⟨q, l, b, k⟩
    · omega
    · omega
    · have := cnt_add (bizB W hs) (show (-1 : Int) ≤ steR W hs n m - 1 by omega) (show steR W hs n m - 1 ≤ n - 1 by omega)
      omega
  · rw [if_neg e]

set_option maxRecDepth 100000 in
set_option maxHeartbeats 4000000 in
theorem rst_up (W n : Int) (m : Nat) (a : Option Addr) (cap : Nat) (hs : List Int) (hE : calE W hs = 0) (n0 : 0 ≤ n) (n1 : n ≤ 3652058) (hm : m ≤ 500) (w : World) (hr : Reads w (.slice a hs.length cap) hs) :
    Calls Tryd.prog 12 #[calV W (.slice a hs.length cap), .int .i64 n, .int .i64 (m : Int)] w fun e w' => e = .returned (.int .i64 (csV W hs n (m : Int))) ∧ Kpt w w' := by
  obtain ⟨k0, b0, b1⟩ := W1cells W a hs.length cap w
  have BZ := Lib.hid (fun w' (k : Kpt (w.alloc (.cells #[.int .i64 W, .slice a hs.length cap] 24)) w') z => rbz_run W z (.slice a hs.length cap) hs w' ((hr.kpt k0).kpt k) hE)
  have K0 := Lib.hid k0
  have B0 := Lib.hid b0
  have B1 := Lib.hid b1
  have KW : Hid (Kpt (w.alloc (.cells #[.int .i64 W, .slice a hs.length cap] 24)) (w.alloc (.cells #[.int .i64 W, .slice a hs.length cap] 24))) := Kpt.refl _
  clear k0 b0 b1 hr
  generalize hs.length = l at *
  go_enter Tryd.func12, Tryd.ntmps12
  go_wp2
  generalize w.alloc (.cells #[.int .i64 W, .slice a l cap] 24) = w1 at *
  generalize w.heap.size = g1 at *
  go_loopw [1, 2] (fun nv mv wr => ∃ (q : Int) (r : Nat), nv = .int .i64 q ∧ mv = .int .i64 (r : Int) ∧ n ≤ q ∧ q ≤ 3652058 ∧ r ≤ 500 ∧ Hid (cnt (bizB W hs) n q + r = m ∧ (r = 0 → (q = n ∧ m = 0) ∨ (n < q ∧ bizB W hs q = true))) ∧ Hid (Kpt w1 wr)) (fun nv _ _ => (3652059 - intOf nv).toNat)
  case atStart => exact ⟨n, m, rfl, rfl, Int.le_refl _, n1, hm, ⟨by rw [cnt_self]; omega, fun h => .inl ⟨rfl, h⟩⟩, KW.out⟩
  case round =>
    obtain ⟨q, r, rfl, rfl, q0, q1, r1, HI, HK⟩ := hrel
    have a0 := HK.out.cell B0.out
    have a1 := HK.out.cell B1.out
    by_cases hr0 : r = 0
    · subst hr0
      have EV : Hid (csV W hs n (m : Int) = q) := by
        obtain ⟨h1, h2⟩ := HI.out
        rcases h2 rfl with ⟨rfl, rfl⟩ | ⟨h3, h4⟩
        · exact cs_zero hE n0 n1
        · have := cnt_pos (β := bizB W hs) h3 (Int.le_refl _) h4
          exact cs_up hE n0 h3 q1 (by omega) (by omega) h4 (by omega)
      go_wp2
      go_ret
      exact ⟨ret_int EV.out.symm, ktr K0.out HK.out⟩
    · have z1 : ((r : Int) != 0) = true := bne_iff_ne.2 (by omega)
      have z2 : decide (0 < (r : Int)) = true := decide_eq_true (by omega)
      have z3 : (0 : Int) < (r : Int) := by omega
      have z4 : ¬ (r : Int) = 0 := by omega
      have z5 : decide (0 < r) = true := decide_eq_true (by omega)
      have z6 : (r != 0) = true := bne_iff_ne.2 hr0
      by_cases hq : q = 3652058
      · have Y : btw 0 3652058 (q + 1) = false := decide_eq_false (by omega)
        have EV : Hid (csV W hs n (m : Int) = -1) := by
          have := HI.out.1; rw [hq] at this
          exact cs_far (by omega) (by omega)
        clear hq
        go_wp2_with (go_at_call 25; (with_reducible refine (rbt_any _ _ _ _ Y _).mono ?_); rintro e w9 ⟨rfl, rfl⟩)
        go_ret
        exact ⟨ret_int EV.out.symm, ktr K0.out HK.out⟩
      · have Y : btw 0 3652058 (q + 1) = true := decide_eq_true (by omega)
        have hd : dayB (q + 1) = true := decide_eq_true (by omega)
        have CSx := cnt_succ (bizB W hs) q0
        cases hb : bizB W hs (q + 1) with
        | true =>
          have HI2 : Hid (cnt (bizB W hs) n (q + 1) + (r - 1) = m ∧ (r - 1 = 0 → (q + 1 = n ∧ m = 0) ∨ (n < q + 1 ∧ bizB W hs (q + 1) = true))) := ⟨by rw [CSx, if_pos hb]; have := HI.out.1; omega, fun _ => .inr ⟨by omega, hb⟩⟩
          have BB := Lib.hid (fun w' (k : Kpt w1 w') => by have := BZ.out w' k (q + 1); rw [hd, hb] at this; exact this)
          obtain ⟨r', hr'⟩ : ∃ r', r = r' + 1 := ⟨r - 1, by omega⟩
          have e1 : (r : Int) - 1 = (r' : Int) := by omega
          have HI3 : Hid (cnt (bizB W hs) n (q + 1) + r' = m ∧ (r' = 0 → (q + 1 = n ∧ m = 0) ∨ (n < q + 1 ∧ bizB W hs (q + 1) = true))) := by rw [show r' = r - 1 by omega]; exact HI2.out
          have r2 : r' ≤ 500 := by omega
          clear hb hd CSx HI2 hr0 hr'
          go_wp2_with (first
            | (go_at_call 25; (with_reducible refine (rbt_any _ _ _ _ Y _).mono ?_); rintro e w9 ⟨rfl, rfl⟩)
            | (go_at_call 10; (with_reducible refine (BB.out _ HK.out).mono ?_); rintro e w5 ⟨rfl, k5⟩; have K5 := Lib.hid (ktr HK.out k5); clear k5))
          go_roundw
          case rel => exact ⟨q + 1, r', rfl, by go_num, by omega, by omega, r2, HI3.out, K5.out⟩
          case measure => simp [intOf]; omega
        | false =>
          have HI2 : Hid (cnt (bizB W hs) n (q + 1) + r = m ∧ (r = 0 → (q + 1 = n ∧ m = 0) ∨ (n < q + 1 ∧ bizB W hs (q + 1) = true))) := ⟨by rw [CSx, if_neg (by rw [hb]; simp)]; have := HI.out.1; omega, fun h => absurd h hr0⟩
          have BB := Lib.hid (fun w' (k : Kpt w1 w') => by have := BZ.out w' k (q + 1); rw [hd, hb] at this; exact this)
          clear hb hd CSx hr0
          go_wp2_with (first
            | (go_at_call 25; (with_reducible refine (rbt_any _ _ _ _ Y _).mono ?_); rintro e w9 ⟨rfl, rfl⟩)
            | (go_at_call 10; (with_reducible refine (BB.out _ HK.out).mono ?_); rintro e w5 ⟨rfl, k5⟩; have K5 := Lib.hid (ktr HK.out k5); have c0 := k5.cell a0; have c1 := k5.cell a1; clear k5)
            | (go_at_call 10; (with_reducible refine (BB.out _ K5.out).mono ?_); rintro e w6 ⟨rfl, k6⟩; have K6 := Lib.hid (ktr K5.out k6); clear k6))
          go_roundw
          case rel => exact ⟨q + 1, r, rfl, rfl, by omega, by omega, r1, HI2.out, K6.out⟩
          case measure => simp [intOf]; omega

set_option maxRecDepth 100000 in
set_option maxHeartbeats 4000000 in
theorem rst_dn (W n : Int) (m : Nat) (a : Option Addr) (cap : Nat) (hs : List Int) (hE : calE W hs = 0) (n0 : 0 ≤ n) (n1 : n ≤ 3652058) (hm : m ≤ 500) (w : World) (hr : Reads w (.slice a hs.length cap) hs) :
    Calls Tryd.prog 12 #[calV W (.slice a hs.length cap), .int .i64 n, .int .i64 (-(m : Int))] w fun e w' => e = .returned (.int .i64 (csV W hs n (-(m : Int)))) ∧ Kpt w w' := by
  obtain ⟨k0, b0, b1⟩ := W1cells W a hs.length cap w
  have BZ := Lib.hid (fun w' (k : Kpt (w.alloc (.cells #[.int .i64 W, .slice a hs.length cap] 24)) w') z => rbz_run W z (.slice a hs.length cap) hs w' ((hr.kpt k0).kpt k) hE)
  have K0 := Lib.hid k0
  have B0 := Lib.hid b0
  have B1 := Lib.hid b1
  have KW : Hid (Kpt (w.alloc (.cells #[.int .i64 W, .slice a hs.length cap] 24)) (w.alloc (.cells #[.int .i64 W, .slice a hs.length cap] 24))) := Kpt.refl _
  clear k0 b0 b1 hr
  generalize hs.length = l at *
  go_enter Tryd.func12, Tryd.ntmps12
  go_wp2
  generalize w.alloc (.cells #[.int .i64 W, .slice a l cap] 24) = w1 at *
  generalize w.heap.size = g1 at *
  go_loopw [1, 2] (fun nv mv wr => ∃ (q r : Int), nv = .int .i64 q ∧ mv = .int .i64 r ∧ 0 ≤ q ∧ q ≤ n ∧ -500 ≤ r ∧ r ≤ 0 ∧ Hid ((cnt (bizB W hs) (q - 1) (n - 1) : Int) - r = (m : Int) ∧ (r = 0 → (q = n ∧ m = 0) ∨ (q < n ∧ bizB W hs q = true))) ∧ Hid (Kpt w1 wr)) (fun nv _ _ => (intOf nv + 1).toNat)
  case atStart => exact ⟨n, -(m : Int), rfl, rfl, n0, Int.le_refl _, by omega, by omega, ⟨by rw [cnt_self]; omega, fun h => .inl ⟨rfl, by omega⟩⟩, KW.out⟩
  case round =>
    obtain ⟨q, r, rfl, rfl, q0, q1, r1, r2, HI, HK⟩ := hrel
    have a0 := HK.out.cell B0.out
    have a1 := HK.out.cell B1.out
    by_cases hr0 : r = 0
    · subst hr0
      have EV : Hid (csV W hs n (-(m : Int)) = q) := by
        obtain ⟨h1, h2⟩ := HI.out
        rcases h2 rfl with ⟨rfl, rfl⟩ | ⟨h3, h4⟩
        · exact cs_zero hE n0 n1
        · have := cnt_pos (β := bizB W hs) (a := q - 1) (b := n - 1) (x := q) (by omega) (by omega) h4
          exact cs_dn hE q0 h3 n1 (by omega) (by omega) h4 (by omega)
      go_wp2
      go_ret
      exact ⟨ret_int EV.out.symm, ktr K0.out HK.out⟩
    · have z1 : (r != 0) = true := bne_iff_ne.2 hr0
      have z2 : decide (0 < r) = false := decide_eq_false (by omega)
      have z3 : ¬ (0 : Int) < r := by omega
      by_cases hq : q = 0
      · have Y : btw 0 3652058 (q - 1) = false := decide_eq_false (by omega)
        have EV : Hid (csV W hs n (-(m : Int)) = -1) := by
          have := HI.out.1; rw [hq] at this
          exact cs_low (by omega) n0 (by rw [show (0 : Int) - 1 = -1 from rfl] at this; omega)
        clear hq
        go_wp2_with (go_at_call 25; (with_reducible refine (rbt_any _ _ _ _ Y _).mono ?_); rintro e w9 ⟨rfl, rfl⟩)
        go_ret
        exact ⟨ret_int EV.out.symm, ktr K0.out HK.out⟩
      · have Y : btw 0 3652058 (q - 1) = true := decide_eq_true (by omega)
        have hd : dayB (q - 1) = true := decide_eq_true (by omega)
        have CSx := cnt_pre (bizB W hs) (show q - 1 ≤ n - 1 by omega)
        cases hb : bizB W hs (q - 1) with
        | true =>
          have HI2 : Hid ((cnt (bizB W hs) (q - 1 - 1) (n - 1) : Int) - (r + 1) = (m : Int) ∧ (r + 1 = 0 → (q - 1 = n ∧ m = 0) ∨ (q - 1 < n ∧ bizB W hs (q - 1) = true))) := ⟨by rw [CSx, if_pos hb]; have := HI.out.1; omega, fun _ => .inr ⟨by omega, hb⟩⟩
          have BB := Lib.hid (fun w' (k : Kpt w1 w') => by have := BZ.out w' k (q - 1); rw [hd, hb] at this; exact this)
          clear hb hd CSx
          go_wp2_with (first
            | (go_at_call 25; (with_reducible refine (rbt_any _ _ _ _ Y _).mono ?_); rintro e w9 ⟨rfl, rfl⟩)
            | (go_at_call 10; (with_reducible refine (BB.out _ HK.out).mono ?_); rintro e w5 ⟨rfl, k5⟩; have K5 := Lib.hid (ktr HK.out k5); have c0 := k5.cell a0; have c1 := k5.cell a1; clear k5)
            | (go_at_call 10; (with_reducible refine (BB.out _ K5.out).mono ?_); rintro e w6 ⟨rfl, k6⟩; have K6 := Lib.hid (ktr K5.out k6); clear k6))
          go_roundw
          case rel => exact ⟨q - 1, r + 1, rfl, rfl, by omega, by omega, by omega, by omega, HI2.out, K6.out⟩
          case measure => simp [intOf]; omega
        | false =>
          have HI2 : Hid ((cnt (bizB W hs) (q - 1 - 1) (n - 1) : Int) - r = (m : Int) ∧ (r = 0 → (q - 1 = n ∧ m = 0) ∨ (q - 1 < n ∧ bizB W hs (q - 1) = true))) := ⟨by rw [CSx, if_neg (by rw [hb]; simp)]; have := HI.out.1; omega, fun h => absurd h hr0⟩
          have BB := Lib.hid (fun w' (k : Kpt w1 w') => by have := BZ.out w' k (q - 1); rw [hd, hb] at this; exact this)
          clear hb hd CSx
          go_wp2_with (first
            | (go_at_call 25; (with_reducible refine (rbt_any _ _ _ _ Y _).mono ?_); rintro e w9 ⟨rfl, rfl⟩)
            | (go_at_call 10; (with_reducible refine (BB.out _ HK.out).mono ?_); rintro e w5 ⟨rfl, k5⟩; have K5 := Lib.hid (ktr HK.out k5); have c0 := k5.cell a0; have c1 := k5.cell a1; clear k5)
            | (go_at_call 10; (with_reducible refine (BB.out _ K5.out).mono ?_); rintro e w6 ⟨rfl, k6⟩; have K6 := Lib.hid (ktr K5.out k6); clear k6))
          go_roundw
          case rel => exact ⟨q - 1, r, rfl, rfl, by omega, by omega, by omega, by omega, HI2.out, K6.out⟩
          case measure => simp [intOf]; omega
theorem rst_run (W n many : Int) (v : Value) (hs : List Int) (hE : calE W hs = 0) (n0 : 0 ≤ n) (n1 : n ≤ 3652058) (h1 : -500 ≤ many) (h2 : many ≤ 500) (w : World) (hr : Reads w v hs) :
    Calls Tryd.prog 12 #[calV W v, .int .i64 n, .int .i64 many] w fun e w' => e = .returned (.int .i64 (csV W hs n many)) ∧ Kpt w w' := by
  obtain ⟨a, cap, rfl, -⟩ := id hr
  by_cases h : 0 ≤ many
  · obtain ⟨m, rfl⟩ : ∃ m : Nat, many = (m : Int) := ⟨many.toNat, by omega⟩
    exact rst_up W n m a cap hs hE n0 n1 (by omega) w hr
  · obtain ⟨m, rfl⟩ : ∃ m : Nat, many = -(m : Int) := ⟨(-many).toNat, by omega⟩
    exact rst_dn W n m a cap hs hE n0 n1 (by omega) w hr

end Go.Proofs.YtpkhhbplabfeaaaDoor
