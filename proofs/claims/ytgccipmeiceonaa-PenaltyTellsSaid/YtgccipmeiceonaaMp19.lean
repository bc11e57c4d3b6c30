/-
  Merged: RefCal, RefCal2.
-/
import Derived.Test.YtgccipmeiceonaaMp18
import Derived.Test.YtgccipmeiceonaaMp5
import Derived.Test.YtgccipmeiceonaaMp15
import Derived.Deep.QuietTactic
import Derived.BigQuiet
import Derived.Test.YtgccipmeiceonaaMp4
-- RefCal
namespace Go.Proofs.Ytgccipmeiceonaa
open Go.RowKit
set_option linter.unusedVariables false

theorem W1cells (W : Int) (a : Option Addr) (n cap : Nat) (w : World) : Kpt w (w.alloc (.cells #[.int .i64 W, .slice a n cap] 24)) ∧ (w.alloc (.cells #[.int .i64 W, .slice a n cap] 24)).cell? ⟨w.heap.size, 0, none⟩ = some (.int .i64 W) ∧ (w.alloc (.cells #[.int .i64 W, .slice a n cap] 24)).cell? ⟨w.heap.size, 1, none⟩ = some (.slice a n cap) :=
  ⟨(Kpt.refl w).alloc _, (Blk.made w _ _).cell 0, (Blk.made w _ _).cell 1⟩
theorem rcc_w (W : Int) (a : Option Addr) (n cap : Nat) (w : World) (Y : btw 0 126 W = false) :
    Calls Try.prog 109 #[calV W (.slice a n cap)] w fun e w' => e = .returned (.int .i64 3) ∧ Kpt w w' := by
  go_enter Try.func109, Try.ntmps109
  go_wp2_with (go_at_call 61; (with_reducible refine (rbt_any _ _ _ _ Y _).mono ?_); rintro e w9 ⟨rfl, rfl⟩)
  go_ret
  exact ⟨rfl, (Kpt.refl w).alloc _⟩
theorem rcc_m (W : Int) (a : Option Addr) (n cap : Nat) (w : World) (Y : btw 0 126 W = true) (hn : 60 < n) (hm : n ≤ maxLen) :
    Calls Try.prog 109 #[calV W (.slice a n cap)] w fun e w' => e = .returned (.int .i64 2) ∧ Kpt w w' := by
  unfold maxLen at hm
  have y1 : decide ((60 : Int) < (n : Int)) = true := decide_eq_true (by omega)
  have y2 : (60 : Int) < (n : Int) := by omega
  go_enter Try.func109, Try.ntmps109
  go_wp2_with (go_at_call 61; (with_reducible refine (rbt_any _ _ _ _ Y _).mono ?_); rintro e w9 ⟨rfl, rfl⟩)
  go_ret
  exact ⟨rfl, (Kpt.refl w).alloc _⟩
def prevH (hs : List Int) : Nat → Int
  | 0 => -1
  | k + 1 => hs.getD k 0

set_option maxRecDepth 100000 in
set_option maxHeartbeats 4000000 in
theorem rcc_h (W : Int) (a : Option Addr) (cap : Nat) (hs : List Int) (w : World) (hr : Reads w (.slice a hs.length cap) hs) (Y : btw 0 126 W = true) (hn : hs.length ≤ 60) :
    Calls Try.prog 109 #[calV W (.slice a hs.length cap)] w fun e w' => e = .returned (.int .i64 (holE (-1) hs)) ∧ Kpt w w' := by
  obtain ⟨k0, b0, b1⟩ := W1cells W a hs.length cap w
  have HC := Lib.hid (fun k (h : k < hs.length) => (hr.kpt k0).sl k h)
  have HS := Lib.hid (fun b k (h : k < hs.length) => holE_step (b := b) h)
  have K0 := Lib.hid k0
  have B1 := Lib.hid b1
  have KW : Hid (Kpt (w.alloc (.cells #[.int .i64 W, .slice a hs.length cap] 24)) (w.alloc (.cells #[.int .i64 W, .slice a hs.length cap] 24))) := Kpt.refl _
  have DA : Hid (∀ b, holE b (hs.drop hs.length) = 0) := fun b => by rw [List.drop_length]; rfl
  have D0 : Hid (holE (-1) hs = holE (prevH hs 0) (hs.drop 0)) := rfl
  obtain ⟨n, hnn⟩ : ∃ n, n = hs.length := ⟨_, rfl⟩
  rw [← hnn] at HC HS K0 B1 KW DA hn ⊢
  clear k0 b0 b1 hr hnn
  have y1 : decide ((60 : Int) < (n : Int)) = false := decide_eq_false (by omega)
  have y2 : ¬ (60 : Int) < (n : Int) := by omega
  go_enter Try.func109, Try.ntmps109
  go_wp2_with (go_at_call 61; (with_reducible refine (rbt_any _ _ _ _ Y _).mono ?_); rintro e w9 ⟨rfl, rfl⟩)
  generalize w.alloc (.cells #[.int .i64 W, .slice a n cap] 24) = w1 at *
  generalize w.heap.size = g1 at *
  go_loopw [3] (fun ii wr => ∃ k : Nat, k ≤ n ∧ ii = .int .i64 (k : Int) ∧ Hid (holE (-1) hs = holE (prevH hs k) (hs.drop k)) ∧ Hid (Kpt w1 wr)) (fun ii _ => n - (intOf ii).toNat)
  case atStart => exact ⟨0, Nat.zero_le _, rfl, D0.out, KW.out⟩
  case round =>
    obtain ⟨k, hk, rfl, HE, HK⟩ := hrel
    have a1 := HK.out.cell B1.out
    by_cases hlt : k < n
    · obtain ⟨b, off, rfl, hc⟩ := HC.out k hlt
      have HCJ : Hid (∀ j, j < n → w1.cell? ⟨b, off + j, none⟩ = some (.int .i64 (hs.getD j 0))) := fun j hj => by
        obtain ⟨b', off', e, h'⟩ := HC.out j hj
        simp only [Option.some.injEq, Addr.mk.injEq] at e
        obtain ⟨rfl, rfl, -⟩ := e
        exact h'
      have c0 := HK.out.cell hc
      have st := HS.out (prevH hs k) k hlt
      rw [← HE.out] at st
      have EP : Hid (prevH hs (k + 1) = hs.getD k 0) := rfl
      clear hc HE
      generalize hs.getD k 0 = h at *
      have kn : (k : Int) < (n : Int) := by omega
      have k00 : (0 : Int) ≤ (k : Int) := by omega
      cases Y2 : btw 0 3652058 h with
      | false =>
        have hd := btw_f Y2
        rw [if_pos hd] at st
        have ST := Lib.hid st
        clear st hd
        go_wp2_with (go_at_call 61; (with_reducible refine (rbt_any _ _ _ _ Y2 _).mono ?_); rintro e w9 ⟨rfl, rfl⟩)
        go_ret
        exact ⟨ret_int ST.out.symm, ktr K0.out HK.out⟩
      | true =>
        have hd := btw_t Y2
        rw [if_neg (by omega)] at st
        by_cases hk0 : k = 0
        · have p0 : prevH hs k = -1 := by rw [hk0]; rfl
          rw [p0, if_neg (show ¬ h = -1 by omega), if_neg (show ¬ h < -1 by omega), ← EP.out] at st
          have ST := Lib.hid st
          have e2 : decide (0 < (k : Int)) = false := decide_eq_false (by omega)
          have e3 : decide (0 < k) = false := decide_eq_false (by omega)
          have kp : ¬ (0 : Int) < (k : Int) := by omega
          clear st EP p0 hk0
          go_wp2_with (go_at_call 61; (with_reducible refine (rbt_any _ _ _ _ Y2 _).mono ?_); rintro e w9 ⟨rfl, rfl⟩)
          go_quiet (fail)
          go_wp2
          go_quiet (fail)
          go_wp2
          go_roundw
          case rel => exact ⟨k + 1, by omega, by go_num, ST.out, HK.out.drewN _⟩
          case measure => simp [intOf]; omega
        · obtain ⟨m, hm⟩ : ∃ m, k = m + 1 := ⟨k - 1, by omega⟩
          have cm := HK.out.cell (HCJ.out m (by omega))
          have EZ : prevH hs k = hs.getD m 0 := by rw [hm]; rfl
          rw [EZ] at st
          generalize hs.getD m 0 = z at *
          have e1 : IntKind.i64.wrap ((k : Int) - 1) = (m : Int) := by unfold IntKind.wrap; simp [IntKind.bits, IntKind.signed]; omega
          have e2 : decide (0 < (k : Int)) = true := decide_eq_true (by omega)
          have e3 : decide (0 < k) = true := decide_eq_true (by omega)
          have mn : (m : Int) < (n : Int) := by omega
          have m0 : (0 : Int) ≤ (m : Int) := by omega
          have kp : (0 : Int) < (k : Int) := by omega
          by_cases he : h = z
          · rw [if_pos he] at st
            have ST := Lib.hid st
            have q1 : (h == z) = true := beq_iff_eq.2 he
            clear st he EZ hm hk0
            go_wp2_with (go_at_call 61; (with_reducible refine (rbt_any _ _ _ _ Y2 _).mono ?_); rintro e w9 ⟨rfl, rfl⟩)
            go_quiet (fail)
            go_wp2
            go_ret
            exact ⟨ret_int ST.out.symm, ktr K0.out (HK.out.drewN _)⟩
          · rw [if_neg he] at st
            have q1 : (h == z) = false := beq_eq_false_iff_ne.2 he
            by_cases hl : h < z
            · rw [if_pos hl] at st
              have ST := Lib.hid st
              have q2 : decide (h < z) = true := decide_eq_true hl
              clear st he EZ hm hk0
              go_wp2_with (go_at_call 61; (with_reducible refine (rbt_any _ _ _ _ Y2 _).mono ?_); rintro e w9 ⟨rfl, rfl⟩)
              go_quiet (fail)
              go_wp2
              go_quiet (fail)
              go_wp2
              go_ret
              exact ⟨ret_int ST.out.symm, ktr K0.out ((HK.out.drewN _).drewN _)⟩
            · rw [if_neg hl, ← EP.out] at st
              have ST := Lib.hid st
              have q2 : decide (h < z) = false := decide_eq_false hl
              clear st he EZ hm hk0 EP
              go_wp2_with (go_at_call 61; (with_reducible refine (rbt_any _ _ _ _ Y2 _).mono ?_); rintro e w9 ⟨rfl, rfl⟩)
              go_quiet (fail)
              go_wp2
              go_quiet (fail)
              go_wp2
              go_roundw
              case rel => exact ⟨k + 1, by omega, by go_num, ST.out, HK.out.drewN _⟩
              case measure => simp [intOf]; omega
    · obtain rfl : k = n := by omega
      have ST : Hid (holE (-1) hs = 0) := HE.out.trans (DA.out _)
      go_wp2
      go_ret
      exact ⟨ret_int ST.out.symm, ktr K0.out HK.out⟩
theorem rcc_run (W : Int) (v : Value) (hs : List Int) (w : World) (hr : Reads w v hs) :
    Calls Try.prog 109 #[calV W v] w fun e w' => e = .returned (.int .i64 (calE W hs)) ∧ Kpt w w' := by
  have hm := hr.len
  obtain ⟨a, cap, rfl, -⟩ := id hr
  cases Y : btw 0 126 W with
  | false =>
    have hb := btw_f Y
    rw [calE_w (by omega)]
    exact rcc_w W a _ cap w Y
  | true =>
    have hb := btw_t Y
    by_cases hl : 60 < hs.length
    · rw [calE_m (by omega) hl]
      exact rcc_m W a _ cap w Y hl hm
    · rw [calE_h (by omega) (by omega)]
      exact rcc_h W a cap hs w hr Y (by omega)


theorem rbz_out (W n : Int) (a : Option Addr) (l cap : Nat) (h : n < 0 ∨ 3652058 < n) (w : World) :
    Calls Try.prog 111 #[calV W (.slice a l cap), .int .i64 n] w fun e w' => e = .returned (.bool false) ∧ Kpt w w' := by
  rcases h with h | h
  · go_enter Try.func111, Try.ntmps111
    go_wp2
    go_ret
    exact ⟨rfl, (Kpt.refl w).alloc _⟩
  · have h' : ¬ n < 0 := by omega
    go_enter Try.func111, Try.ntmps111
    go_wp2
    go_ret
    exact ⟨rfl, (Kpt.refl w).alloc _⟩
theorem con_iff {hs : List Int} {n : Int} : hs.contains n = true ↔ ∃ k, k < hs.length ∧ hs.getD k 0 = n := by
  rw [List.contains_iff_mem, List.mem_iff_getElem]
  constructor
  · rintro ⟨k, hk, e⟩
    exact ⟨k, hk, by rw [List.getD_eq_getElem?_getD, List.getElem?_eq_getElem hk]; exact e⟩
  · rintro ⟨k, hk, e⟩
    rw [List.getD_eq_getElem?_getD, List.getElem?_eq_getElem hk] at e
    exact ⟨k, hk, e⟩
theorem half_pow (W : Int) (j : Nat) : W / 2 ^ j / 2 = W / 2 ^ (j + 1) := by
  rw [Int.ediv_ediv_of_nonneg (by exact Int.le_of_lt (Int.pow_pos (by decide))), Int.pow_succ]

set_option maxRecDepth 100000 in
set_option maxHeartbeats 4000000 in
theorem rbz_in (W n : Int) (a : Option Addr) (cap : Nat) (hs : List Int) (h0 : 0 ≤ W) (h1 : W ≤ 126) (n0 : 0 ≤ n) (n1 : n ≤ 3652058) (w : World) (hr : Reads w (.slice a hs.length cap) hs) (hl : hs.length ≤ 60) :
    Calls Try.prog 111 #[calV W (.slice a hs.length cap), .int .i64 n] w fun e w' => e = .returned (.bool (bizB W hs n)) ∧ Kpt w w' := by
  obtain ⟨k0, b0, b1⟩ := W1cells W a hs.length cap w
  have HC := Lib.hid (fun k (h : k < hs.length) => (hr.kpt k0).sl k h)
  have K0 := Lib.hid k0
  have B0 := Lib.hid b0
  have B1 := Lib.hid b1
  have KW : Hid (Kpt (w.alloc (.cells #[.int .i64 W, .slice a hs.length cap] 24)) (w.alloc (.cells #[.int .i64 W, .slice a hs.length cap] 24))) := Kpt.refl _
  have CI := Lib.hid (con_iff (hs := hs) (n := n))
  obtain ⟨d, hd, hd6⟩ : ∃ d : Nat, n % 7 = (d : Int) ∧ d ≤ 6 := ⟨(n % 7).toNat, by omega, by omega⟩
  have EB : Hid (bizB W hs n = (!hs.contains n && !decide (W / 2 ^ d % 2 = 1))) := by
    unfold Hid bizB; rw [wk_bit h0 h1 n0, hd]; rfl
  obtain ⟨l, hll⟩ : ∃ l, l = hs.length := ⟨_, rfl⟩
  rw [← hll] at HC K0 B0 B1 KW CI hl ⊢
  clear k0 b0 b1 hr hll
  generalize hs.contains n = C at *
  go_enter Try.func111, Try.ntmps111
  go_wp2
  generalize w.alloc (.cells #[.int .i64 W, .slice a l cap] 24) = w1 at *
  generalize w.heap.size = g1 at *
  go_loopw [5] (fun ii wr => ∃ k : Nat, k ≤ l ∧ ii = .int .i64 (k : Int) ∧ Hid (∀ j, j < k → hs.getD j 0 ≠ n) ∧ wr = w1) (fun ii _ => l - (intOf ii).toNat)
  case atStart => exact ⟨0, Nat.zero_le _, rfl, fun j hj => absurd hj (Nat.not_lt_zero _), rfl⟩
  case round =>
    obtain ⟨k, hk, rfl, HN, rfl⟩ := hrel
    have a1 := B1.out
    by_cases hlt : k < l
    · obtain ⟨b, off, rfl, hc⟩ := HC.out k hlt
      have HT : Hid (hs.getD k 0 = n → C = true) := fun e => CI.out.2 ⟨k, hlt, e⟩
      have HN2 : Hid (hs.getD k 0 ≠ n → ∀ j, j < k + 1 → hs.getD j 0 ≠ n) := fun e j hj => by
        rcases Nat.lt_or_ge j k with q | q
        · exact HN.out j q
        · obtain rfl : j = k := by omega
          exact e
      generalize hs.getD k 0 = h at *
      have kn : (k : Int) < (l : Int) := by omega
      by_cases he : h = n
      · have q1 : (h == n) = true := beq_iff_eq.2 he
        have CT := HT.out he
        have EF : Hid (bizB W hs n = false) := by rw [EB.out, CT]; rfl
        clear he CT
        go_wp2
        go_ret
        exact ⟨ret_bool EF.out.symm, K0.out⟩
      · have q1 : (h == n) = false := beq_eq_false_iff_ne.2 he
        have HN3 := Lib.hid (HN2.out he)
        clear he
        go_wp2
        go_roundw
        case rel => exact ⟨k + 1, by omega, by go_num, HN3.out, trivial⟩
        case measure => simp [intOf]; omega
    · obtain rfl : k = l := by omega
      have CF : C = false := by
        cases hC : C with
        | false => rfl
        | true => obtain ⟨j, j1, j2⟩ := CI.out.1 hC; exact absurd j2 (HN.out j j1)
      have EF : Hid (bizB W hs n = !decide (W / 2 ^ d % 2 = 1)) := by rw [EB.out, CF]; rfl
      have a0 := B0.out
      clear CF HN CI EB
      go_wp2
      go_loopw [6, 7] (fun xv jj wx => ∃ (j : Nat) (x : Int), j ≤ d ∧ jj = .int .i64 (j : Int) ∧ xv = .int .i64 x ∧ 0 ≤ x ∧ x ≤ 126 ∧ Hid (x = W / 2 ^ j) ∧ wx = wr) (fun _ jj _ => d - (intOf jj).toNat)
      case atStart => exact ⟨0, W, Nat.zero_le _, rfl, rfl, h0, h1, by unfold Hid; simp, rfl⟩
      case round =>
        obtain ⟨j, x, hj, rfl, rfl, x0, x1, HX, rfl⟩ := hrel
        by_cases hlt2 : j < d
        · have HX2 : Hid (x / 2 = W / 2 ^ (j + 1)) := by unfold Hid; rw [HX.out, half_pow]
          have jd : (j : Int) < (d : Int) := by omega
          go_wp2
          go_roundw
          case rel => exact ⟨j + 1, x / 2, by omega, by go_num, rfl, by omega, by omega, HX2.out, trivial⟩
          case measure => simp [intOf]; omega
        · obtain rfl : j = d := by omega
          have ER : Hid ((x % 2 == 0) = bizB W hs n) := by
            unfold Hid; rw [EF.out, ← HX.out]
            rcases (show x % 2 = 0 ∨ x % 2 = 1 by omega) with e | e <;> rw [e] <;> rfl
          go_wp2
          go_ret
          exact ⟨ret_bool ER.out, K0.out⟩
theorem rbz_run (W n : Int) (v : Value) (hs : List Int) (w : World) (hr : Reads w v hs) (hE : calE W hs = 0) :
    Calls Try.prog 111 #[calV W v, .int .i64 n] w fun e w' => e = .returned (.bool (dayB n && bizB W hs n)) ∧ Kpt w w' := by
  obtain ⟨a, cap, rfl, -⟩ := id hr
  obtain ⟨h0, h1, hl, -⟩ := cal_right hE
  cases hd : dayB n with
  | false => exact rbz_out W n a _ cap (by have := day_f hd; omega) w
  | true =>
    obtain ⟨n0, n1⟩ := day_t hd
    exact rbz_in W n a cap hs h0 h1 n0 n1 w hr hl

end Go.Proofs.Ytgccipmeiceonaa

-- RefCal2
namespace Go.Proofs.Ytgccipmeiceonaa
open Go.RowKit
set_option linter.unusedVariables false

/-- what a step is told as: -1 where there is none -/
def cstV (W : Int) (hs : List Int) (n many : Int) : Int := if steE W hs n many = 0 then steR W hs n many else -1
theorem cs_zero {W : Int} {hs : List Int} {n : Int} (h : calE W hs = 0) (h0 : 0 ≤ n) (h2 : n ≤ 3652058) : cstV W hs n 0 = n := by
  obtain ⟨a, b⟩ := ste_zero (W := W) (hs := hs) h h0 h2
  unfold cstV; rw [if_pos b, a]
theorem cs_up {W : Int} {hs : List Int} {n k m : Int} (h : calE W hs = 0) (h0 : 0 ≤ n) (h1 : n < k) (h2 : k ≤ 3652058) (m0 : 0 < m) (m1 : m ≤ 500) (hb : bizB W hs k = true) (hc : cnt (bizB W hs) n k = m.toNat) : cstV W hs n m = k := by
  obtain ⟨a, b⟩ := ste_up h h0 h1 h2 m0 m1 hb hc
  unfold cstV; rw [if_pos b, a]
theorem cs_dn {W : Int} {hs : List Int} {n k m : Int} (h : calE W hs = 0) (h0 : 0 ≤ k) (h1 : k < n) (h2 : n ≤ 3652058) (m0 : m < 0) (m1 : -500 ≤ m) (hb : bizB W hs k = true) (hc : cnt (bizB W hs) (k - 1) (n - 1) = (-m).toNat) : cstV W hs n m = k := by
  obtain ⟨a, b⟩ := ste_dn h h0 h1 h2 m0 m1 hb hc
  unfold cstV; rw [if_pos b, a]
theorem cs_far {W : Int} {hs : List Int} {n m : Int} (m0 : 0 < m) (hc : cnt (bizB W hs) n 3652058 < m.toNat) : cstV W hs n m = -1 := by
  unfold cstV
  rcases ste_cases W hs n m with ⟨_, _, _, _, _, _, _, r1, c⟩ | ⟨e, _⟩
  · rcases c with ⟨z, _⟩ | ⟨p, l, b, k⟩ | ⟨q, _⟩
    · omega
    · have := cnt_mono (bizB W hs) (Int.le_of_lt l) r1
      omega
    · omega
  · rw [if_neg e]
theorem cs_low {W : Int} {hs : List Int} {n m : Int} (m0 : m < 0) (hn : 0 ≤ n) (hc : cnt (bizB W hs) (-1) (n - 1) < (-m).toNat) : cstV W hs n m = -1 := by
  unfold cstV
  rcases ste_cases W hs n m with ⟨_, _, _, _, _, _, r0, _, c⟩ | ⟨e, _⟩
  · rcases c with ⟨z, _⟩ | ⟨p, _⟩ | ⟨q, l, b, k⟩
    · omega
    · omega
    · have := cnt_add (bizB W hs) (show (-1 : Int) ≤ steR W hs n m - 1 by omega) (show steR W hs n m - 1 ≤ n - 1 by omega)
      omega
  · rw [if_neg e]

set_option maxRecDepth 100000 in
set_option maxHeartbeats 4000000 in
theorem rst_up (W n : Int) (m : Nat) (a : Option Addr) (cap : Nat) (hs : List Int) (hE : calE W hs = 0) (n0 : 0 ≤ n) (n1 : n ≤ 3652058) (hm : m ≤ 500) (w : World) (hr : Reads w (.slice a hs.length cap) hs) :
    Calls Try.prog 135 #[calV W (.slice a hs.length cap), .int .i64 n, .int .i64 (m : Int)] w fun e w' => e = .returned (.int .i64 (cstV W hs n (m : Int))) ∧ Kpt w w' := by
  obtain ⟨k0, b0, b1⟩ := W1cells W a hs.length cap w
  have BZ := Lib.hid (fun w' (k : Kpt (w.alloc (.cells #[.int .i64 W, .slice a hs.length cap] 24)) w') z => rbz_run W z (.slice a hs.length cap) hs w' ((hr.kpt k0).kpt k) hE)
  have K0 := Lib.hid k0
  have B0 := Lib.hid b0
  have B1 := Lib.hid b1
  have KW : Hid (Kpt (w.alloc (.cells #[.int .i64 W, .slice a hs.length cap] 24)) (w.alloc (.cells #[.int .i64 W, .slice a hs.length cap] 24))) := Kpt.refl _
  clear k0 b0 b1 hr
  generalize hs.length = l at *
  go_enter Try.func135, Try.ntmps135
  go_wp2
  generalize w.alloc (.cells #[.int .i64 W, .slice a l cap] 24) = w1 at *
  generalize w.heap.size = g1 at *
  go_loopw [1, 2] (fun nv mv wr => ∃ (q : Int) (r : Nat), nv = .int .i64 q ∧ mv = .int .i64 (r : Int) ∧ n ≤ q ∧ q ≤ 3652058 ∧ r ≤ 500 ∧ Hid (cnt (bizB W hs) n q + r = m ∧ (r = 0 → (q = n ∧ m = 0) ∨ (n < q ∧ bizB W hs q = true))) ∧ Hid (Kpt w1 wr)) (fun nv _ _ => (3652059 - intOf nv).toNat)
  case atStart => exact ⟨n, m, rfl, rfl, Int.le_refl _, n1, hm, ⟨by rw [cnt_self]; omega, fun h => .inl ⟨rfl, h⟩⟩, KW.out⟩
  case round =>
    obtain ⟨q, r, rfl, rfl, q0, q1, r1, HI, HK⟩ := hrel
    have a0 := HK.out.cell B0.out
    have a1 := HK.out.cell B1.out
    by_cases hr0 : r = 0
    · subst hr0
      have EV : Hid (cstV W hs n (m : Int) = q) := by
        obtain ⟨h1, h2⟩ := HI.out
        rcases h2 rfl with ⟨rfl, rfl⟩ | ⟨h3, h4⟩
        · exact cs_zero hE n0 n1
        · have := cnt_pos (β := bizB W hs) h3 (Int.le_refl _) h4
          exact cs_up hE n0 h3 q1 (by omega) (by omega) h4 (by omega)
      go_wp2
      go_ret
      exact ⟨ret_int EV.out.symm, ktr K0.out HK.out⟩
    · have z1 : ((r : Int) != 0) = true := bne_iff_ne.2 (by omega)
      have z2 : decide (0 < (r : Int)) = true := decide_eq_true (by omega)
      have z3 : (0 : Int) < (r : Int) := by omega
      have z4 : ¬ (r : Int) = 0 := by omega
      have z5 : decide (0 < r) = true := decide_eq_true (by omega)
      have z6 : (r != 0) = true := bne_iff_ne.2 hr0
      by_cases hq : q = 3652058
      · have Y : btw 0 3652058 (q + 1) = false := decide_eq_false (by omega)
        have EV : Hid (cstV W hs n (m : Int) = -1) := by
          have := HI.out.1; rw [hq] at this
          exact cs_far (by omega) (by omega)
        clear hq
        go_wp2_with (go_at_call 61; (with_reducible refine (rbt_any _ _ _ _ Y _).mono ?_); rintro e w9 ⟨rfl, rfl⟩)
        go_ret
        exact ⟨ret_int EV.out.symm, ktr K0.out HK.out⟩
      · have Y : btw 0 3652058 (q + 1) = true := decide_eq_true (by omega)
        have hd : dayB (q + 1) = true := decide_eq_true (by omega)
        have CSx := cnt_succ (bizB W hs) q0
        cases hb : bizB W hs (q + 1) with
        | true =>
          have HI2 : Hid (cnt (bizB W hs) n (q + 1) + (r - 1) = m ∧ (r - 1 = 0 → (q + 1 = n ∧ m = 0) ∨ (n < q + 1 ∧ bizB W hs (q + 1) = true))) := ⟨by rw [CSx, if_pos hb]; have := HI.out.1; omega, fun _ => .inr ⟨by omega, hb⟩⟩
          have BB := Lib.hid (fun w' (k : Kpt w1 w') => by have := BZ.out w' k (q + 1); rw [hd, hb] at this; exact this)
          obtain ⟨r', hr'⟩ : ∃ r', r = r' + 1 := ⟨r - 1, by omega⟩
          have e1 : (r : Int) - 1 = (r' : Int) := by omega
          have HI3 : Hid (cnt (bizB W hs) n (q + 1) + r' = m ∧ (r' = 0 → (q + 1 = n ∧ m = 0) ∨ (n < q + 1 ∧ bizB W hs (q + 1) = true))) := by rw [show r' = r - 1 by omega]; exact HI2.out
          have r2 : r' ≤ 500 := by omega
          clear hb hd CSx HI2 hr0 hr'
          go_wp2_with (first
            | (go_at_call 61; (with_reducible refine (rbt_any _ _ _ _ Y _).mono ?_); rintro e w9 ⟨rfl, rfl⟩)
            | (go_at_call 111; (with_reducible refine (BB.out _ HK.out).mono ?_); rintro e w5 ⟨rfl, k5⟩; have K5 := Lib.hid (ktr HK.out k5); clear k5))
          go_roundw
          case rel => exact ⟨q + 1, r', rfl, by go_num, by omega, by omega, r2, HI3.out, K5.out⟩
          case measure => simp [intOf]; omega
        | false =>
          have HI2 : Hid (cnt (bizB W hs) n (q + 1) + r = m ∧ (r = 0 → (q + 1 = n ∧ m = 0) ∨ (n < q + 1 ∧ bizB W hs (q + 1) = true))) := ⟨by rw [CSx, if_neg (by rw [hb]; simp)]; have := HI.out.1; omega, fun h => absurd h hr0⟩
          have BB := Lib.hid (fun w' (k : Kpt w1 w') => by have := BZ.out w' k (q + 1); rw [hd, hb] at this; exact this)
          clear hb hd CSx hr0
          go_wp2_with (first
            | (go_at_call 61; (with_reducible refine (rbt_any _ _ _ _ Y _).mono ?_); rintro e w9 ⟨rfl, rfl⟩)
            | (go_at_call 111; (with_reducible refine (BB.out _ HK.out).mono ?_); rintro e w5 ⟨rfl, k5⟩; have K5 := Lib.hid (ktr HK.out k5); have c0 := k5.cell a0; have c1 := k5.cell a1; clear k5)
            | (go_at_call 111; (with_reducible refine (BB.out _ K5.out).mono ?_); rintro e w6 ⟨rfl, k6⟩; have K6 := Lib.hid (ktr K5.out k6); clear k6))
          go_roundw
          case rel => exact ⟨q + 1, r, rfl, rfl, by omega, by omega, r1, HI2.out, K6.out⟩
          case measure => simp [intOf]; omega

set_option maxRecDepth 100000 in
set_option maxHeartbeats 4000000 in
theorem rst_dn (W n : Int) (m : Nat) (a : Option Addr) (cap : Nat) (hs : List Int) (hE : calE W hs = 0) (n0 : 0 ≤ n) (n1 : n ≤ 3652058) (hm : m ≤ 500) (w : World) (hr : Reads w (.slice a hs.length cap) hs) :
    Calls Try.prog 135 #[calV W (.slice a hs.length cap), .int .i64 n, .int .i64 (-(m : Int))] w fun e w' => e = .returned (.int .i64 (cstV W hs n (-(m : Int)))) ∧ Kpt w w' := by
  obtain ⟨k0, b0, b1⟩ := W1cells W a hs.length cap w
  have BZ := Lib.hid (fun w' (k : Kpt (w.alloc (.cells #[.int .i64 W, .slice a hs.length cap] 24)) w') z => rbz_run W z (.slice a hs.length cap) hs w' ((hr.kpt k0).kpt k) hE)
  have K0 := Lib.hid k0
  have B0 := Lib.hid b0
  have B1 := Lib.hid b1
  have KW : Hid (Kpt (w.alloc (.cells #[.int .i64 W, .slice a hs.length cap] 24)) (w.alloc (.cells #[.int .i64 W, .slice a hs.length cap] 24))) := Kpt.refl _
  clear k0 b0 b1 hr
  generalize hs.length = l at *
  go_enter Try.func135, Try.ntmps135
  go_wp2
  generalize w.alloc (.cells #[.int .i64 W, .slice a l cap] 24) = w1 at *
  generalize w.heap.size = g1 at *
  go_loopw [1, 2] (fun nv mv wr => ∃ (q r : Int), nv = .int .i64 q ∧ mv = .int .i64 r ∧ 0 ≤ q ∧ q ≤ n ∧ -500 ≤ r ∧ r ≤ 0 ∧ Hid ((cnt (bizB W hs) (q - 1) (n - 1) : Int) - r = (m : Int) ∧ (r = 0 → (q = n ∧ m = 0) ∨ (q < n ∧ bizB W hs q = true))) ∧ Hid (Kpt w1 wr)) (fun nv _ _ => (intOf nv + 1).toNat)
  case atStart => exact ⟨n, -(m : Int), rfl, rfl, n0, Int.le_refl _, by omega, by omega, ⟨by rw [cnt_self]; omega, fun h => .inl ⟨rfl, by omega⟩⟩, KW.out⟩
  case round =>
    obtain ⟨q, r, rfl, rfl, q0, q1, r1, r2, HI, HK⟩ := hrel
    have a0 := HK.out.cell B0.out
    have a1 := HK.out.cell B1.out
    by_cases hr0 : r = 0
    · subst hr0
      have EV : Hid (cstV W hs n (-(m : Int)) = q) := by
        obtain ⟨h1, h2⟩ := HI.out
        rcases h2 rfl with ⟨rfl, rfl⟩ | ⟨h3, h4⟩
        · exact cs_zero hE n0 n1
        · have := cnt_pos (β := bizB W hs) (a := q - 1) (b := n - 1) (x := q) (by omega) (by omega) h4
          exact cs_dn hE q0 h3 n1 (by omega) (by omega) h4 (by omega)
      go_wp2
      go_ret
      exact ⟨ret_int EV.out.symm, ktr K0.out HK.out⟩
    · have z1 : (r != 0) = true := bne_iff_ne.2 hr0
      have z2 : decide (0 < r) = false := decide_eq_false (by omega)
      have z3 : ¬ (0 : Int) < r := by omega
      by_cases hq : q = 0
      · have Y : btw 0 3652058 (q - 1) = false := decide_eq_false (by omega)
        have EV : Hid (cstV W hs n (-(m : Int)) = -1) := by
          have := HI.out.1; rw [hq] at this
          exact cs_low (by omega) n0 (by rw [show (0 : Int) - 1 = -1 from rfl] at this; omega)
        clear hq
        go_wp2_with (go_at_call 61; (with_reducible refine (rbt_any _ _ _ _ Y _).mono ?_); rintro e w9 ⟨rfl, rfl⟩)
        go_ret
        exact ⟨ret_int EV.out.symm, ktr K0.out HK.out⟩
      · have Y : btw 0 3652058 (q - 1) = true := decide_eq_true (by omega)
        have hd : dayB (q - 1) = true := decide_eq_true (by omega)
        have CSx := cnt_pre (bizB W hs) (show q - 1 ≤ n - 1 by omega)
        cases hb : bizB W hs (q - 1) with
        | true =>
          have HI2 : Hid ((cnt (bizB W hs) (q - 1 - 1) (n - 1) : Int) - (r + 1) = (m : Int) ∧ (r + 1 = 0 → (q - 1 = n ∧ m = 0) ∨ (q - 1 < n ∧ bizB W hs (q - 1) = true))) := ⟨by rw [CSx, if_pos hb]; have := HI.out.1; omega, fun _ => .inr ⟨by omega, hb⟩⟩
          have BB := Lib.hid (fun w' (k : Kpt w1 w') => by have := BZ.out w' k (q - 1); rw [hd, hb] at this; exact this)
          clear hb hd CSx
          go_wp2_with (first
            | (go_at_call 61; (with_reducible refine (rbt_any _ _ _ _ Y _).mono ?_); rintro e w9 ⟨rfl, rfl⟩)
            | (go_at_call 111; (with_reducible refine (BB.out _ HK.out).mono ?_); rintro e w5 ⟨rfl, k5⟩; have K5 := Lib.hid (ktr HK.out k5); have c0 := k5.cell a0; have c1 := k5.cell a1; clear k5)
            | (go_at_call 111; (with_reducible refine (BB.out _ K5.out).mono ?_); rintro e w6 ⟨rfl, k6⟩; have K6 := Lib.hid (ktr K5.out k6); clear k6))
          go_roundw
          case rel => exact ⟨q - 1, r + 1, rfl, rfl, by omega, by omega, by omega, by omega, HI2.out, K6.out⟩
          case measure => simp [intOf]; omega
        | false =>
          have HI2 : Hid ((cnt (bizB W hs) (q - 1 - 1) (n - 1) : Int) - r = (m : Int) ∧ (r = 0 → (q - 1 = n ∧ m = 0) ∨ (q - 1 < n ∧ bizB W hs (q - 1) = true))) := ⟨by rw [CSx, if_neg (by rw [hb]; simp)]; have := HI.out.1; omega, fun h => absurd h hr0⟩
          have BB := Lib.hid (fun w' (k : Kpt w1 w') => by have := BZ.out w' k (q - 1); rw [hd, hb] at this; exact this)
          clear hb hd CSx
          go_wp2_with (first
            | (go_at_call 61; (with_reducible refine (rbt_any _ _ _ _ Y _).mono ?_); rintro e w9 ⟨rfl, rfl⟩)
            | (go_at_call 111; (with_reducible refine (BB.out _ HK.out).mono ?_); rintro e w5 ⟨rfl, k5⟩; have K5 := Lib.hid (ktr HK.out k5); have c0 := k5.cell a0; have c1 := k5.cell a1; clear k5)
            | (go_at_call 111; (with_reducible refine (BB.out _ K5.out).mono ?_); rintro e w6 ⟨rfl, k6⟩; have K6 := Lib.hid (ktr K5.out k6); clear k6))
          go_roundw
          case rel => exact ⟨q - 1, r, rfl, rfl, by omega, by omega, by omega, by omega, HI2.out, K6.out⟩
          case measure => simp [intOf]; omega
theorem rst_run (W n many : Int) (v : Value) (hs : List Int) (hE : calE W hs = 0) (n0 : 0 ≤ n) (n1 : n ≤ 3652058) (h1 : -500 ≤ many) (h2 : many ≤ 500) (w : World) (hr : Reads w v hs) :
    Calls Try.prog 135 #[calV W v, .int .i64 n, .int .i64 many] w fun e w' => e = .returned (.int .i64 (cstV W hs n many)) ∧ Kpt w w' := by
  obtain ⟨a, cap, rfl, -⟩ := id hr
  by_cases h : 0 ≤ many
  · obtain ⟨m, rfl⟩ : ∃ m : Nat, many = (m : Int) := ⟨many.toNat, by omega⟩
    exact rst_up W n m a cap hs hE n0 n1 (by omega) w hr
  · obtain ⟨m, rfl⟩ : ∃ m : Nat, many = -(m : Int) := ⟨(-many).toNat, by omega⟩
    exact rst_dn W n m a cap hs hE n0 n1 (by omega) w hr

end Go.Proofs.Ytgccipmeiceonaa
