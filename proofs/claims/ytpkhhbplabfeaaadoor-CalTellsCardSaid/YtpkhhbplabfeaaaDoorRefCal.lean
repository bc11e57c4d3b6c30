/-
  What CalCheck and Business of the reference do.
-/
import Derived.Test.YtpkhhbplabfeaaaDoorRefFail
import Derived.Test.YtpkhhbplabfeaaaDoorCalK
import Derived.Test.YtpkhhbplabfeaaaDoorSl
import Derived.Deep.QuietTactic
import Derived.BigQuiet
namespace Go.Proofs.YtpkhhbplabfeaaaDoor
open Go.RowKit
set_option linter.unusedVariables false

theorem W1cells (W : Int) (a : Option Addr) (n cap : Nat) (w : World) : Kpt w (w.alloc (.cells #[.int .i64 W, .slice a n cap] 24)) ∧ (w.alloc (.cells #[.int .i64 W, .slice a n cap] 24)).cell? ⟨w.heap.size, 0, none⟩ = some (.int .i64 W) ∧ (w.alloc (.cells #[.int .i64 W, .slice a n cap] 24)).cell? ⟨w.heap.size, 1, none⟩ = some (.slice a n cap) :=
  ⟨(Kpt.refl w).alloc _, (Blk.made w _ _).cell 0, (Blk.made w _ _).cell 1⟩
theorem rcc_w (W : Int) (a : Option Addr) (n cap : Nat) (w : World) (Y : btw 0 126 W = false) :
    Calls Tryd.prog 16 #[calV W (.slice a n cap)] w fun e w' => e = .returned (.int .i64 3) ∧ Kpt w w' := by
  go_enter Tryd.func16, Tryd.ntmps16
  go_wp2_with (go_at_call 25; (with_reducible refine (rbt_any _ _ _ _ Y _).mono ?_); rintro e w9 ⟨rfl, rfl⟩)
  go_ret
  exact ⟨rfl, (Kpt.refl w).alloc _⟩
theorem rcc_m (W : Int) (a : Option Addr) (n cap : Nat) (w : World) (Y : btw 0 126 W = true) (hn : 60 < n) (hm : n ≤ maxLen) :
    Calls Tryd.prog 16 #[calV W (.slice a n cap)] w fun e w' => e = .returned (.int .i64 2) ∧ Kpt w w' := by
  unfold maxLen at hm
  have y1 : decide ((60 : Int) < (n : Int)) = true := decide_eq_true (by omega)
  have y2 : (60 : Int) < (n : Int) := by omega
  go_enter Tryd.func16, Tryd.ntmps16
  go_wp2_with (go_at_call 25; (with_reducible refine (rbt_any _ _ _ _ Y _).mono ?_); rintro e w9 ⟨rfl, rfl⟩)
  go_ret
  exact ⟨rfl, (Kpt.refl w).alloc _⟩
def prevH (hs : List Int) : Nat → Int
  | 0 => -1
  | k + 1 => hs.getD k 0

set_option maxRecDepth 100000 in
set_option maxHeartbeats 4000000 in
theorem rcc_h (W : Int) (a : Option Addr) (cap : Nat) (hs : List Int) (w : World) (hr : Reads w (.slice a hs.length cap) hs) (Y : btw 0 126 W = true) (hn : hs.length ≤ 60) :
    Calls Tryd.prog 16 #[calV W (.slice a hs.length cap)] w fun e w' => e = .returned (.int .i64 (holE (-1) hs)) ∧ Kpt w w' := by
  obtain ⟨k0, b0, b1⟩ := W1cells W a hs.length cap w
  have HC := Lib.hid (fun k (h : k < hs.length) => (hr.kpt k0).sl k h)
  have HS := Lib.hid (fun b k (h : k < hs.length) => holE_step (b := b) h)
  have K0 := Lib.hid k0
  have B1 := Lib.hid b1
  have KW : Hid (Kpt (w.alloc (.cells #[.int .i64 W, .slice a hs.length cap] 24)) (w.alloc (.cells #[.int .i64 W, .slice a hs.length cap] 24))) := Kpt.refl _
  have DA : Hid (∀ b, holE b (hs.drop hs.length) = 0) := fun b => by rw [List.drop_length]; rfl
  have D0 : Hid (holE (-1) hs = holE (prevH hs 0) (hs.drop 0)) := rfl
  obtain ⟨n, hnn⟩ : ∃ n, n = hs.length := ⟨_, rfl⟩
  rw [← hnn] at HC HS K0 B1 KW DA hn ⊢
  clear k0 b0 b1 hr hnn
  have y1 : decide ((60 : Int) < (n : Int)) = false := decide_eq_false (by omega)
  have y2 : ¬ (60 : Int) < (n : Int) := by omega
  go_enter Tryd.func16, Tryd.ntmps16
  go_wp2_with (go_at_call 25; (with_reducible refine (rbt_any _ _ _ _ Y _).mono ?_); rintro e w9 ⟨rfl, rfl⟩)
  generalize w.alloc (.cells #[.int .i64 W, .slice a n cap] 24) = w1 at *
  generalize w.heap.size = g1 at *
  go_loopw [3] (fun ii wr => ∃ k : Nat, k ≤ n ∧ ii = .int .i64 (k : Int) ∧ Hid (holE (-1) hs = holE (prevH hs k) (hs.drop k)) ∧ Hid (Kpt w1 wr)) (fun ii _ => n - (intOf ii).toNat)
  case atStart => exact ⟨0, Nat.zero_le _, rfl, D0.out, KW.out⟩
  case round =>
    obtain ⟨k, hk, rfl, HE, HK⟩ := hrel
    have a1 := HK.out.cell B1.out
    by_cases hlt : k < n
    · obtain ⟨b, off, rfl, hc⟩ := HC.out k hlt
      have HCJ : Hid (∀ j, j < n → w1.cell? ⟨b, off + j, none⟩ = some (.int .i64 (hs.getD j 0))) := fun j hj => by
        obtain ⟨b', off', e, h'⟩ := HC.out j hj
        simp only [Option.some.injEq, Addr.mk.injEq] at e
        obtain ⟨rfl, rfl, -⟩ := e
        exact h'
      have c0 := HK.out.cell hc
      have st := HS.out (prevH hs k) k hlt
      rw [← HE.out] at st
      have EP : Hid (prevH hs (k + 1) = hs.getD k 0) := rfl
      clear hc HE
      generalize hs.getD k 0 = h at *
      have kn : (k : Int) < (n : Int) := by omega
      have k00 : (0 : Int) ≤ (k : Int) := by omega
      cases Y2 : btw 0 3652058 h with
      | false =>
        have hd := btw_f Y2
        rw [if_pos hd] at st
        have ST := Lib.hid st
        clear st hd
        go_wp2_with (go_at_call 25; (with_reducible refine (rbt_any _ _ _ _ Y2 _).mono ?_); rintro e w9 ⟨rfl, rfl⟩)
        go_ret
        exact ⟨ret_int ST.out.symm, ktr K0.out HK.out⟩
      | true =>
        have hd := btw_t Y2
        rw [if_neg (by omega)] at st
        by_cases hk0 : k = 0
        · have p0 : prevH hs k = -1 := by rw [hk0]; rfl
          rw [p0, if_neg (show ¬ h = -1 by omega), if_neg (show ¬ h < -1 by omega), ← EP.out] at st
          have ST := Lib.hid st
          have e2 : decide (0 < (k : Int)) = false := decide_eq_false (by omega)
          have e3 : decide (0 < k) = false := decide_eq_false (by omega)
          have kp : ¬ (0 : Int) < (k : Int) := by omega
          clear st EP p0 hk0
          go_wp2_with (go_at_call 25; (with_reducible refine (rbt_any _ _ _ _ Y2 _).mono ?_); rintro e w9 ⟨rfl, rfl⟩)
          go_quiet (fail)
          go_wp2
          go_quiet (fail)
          go_wp2
          go_roundw
          case rel => exact ⟨k + 1, by omega, by go_num, ST.out, HK.out.drewN _⟩
          case measure => simp [intOf]; omega
        · obtain ⟨m, hm⟩ : ∃ m, k = m + 1 := ⟨k - 1, by omega⟩
          have cm := HK.out.cell (HCJ.out m (by omega))
          have EZ : prevH hs k = hs.getD m 0 := by rw [hm]; rfl
          rw [EZ] at st
          generalize hs.getD m 0 = z at *
          have e1 : IntKind.i64.wrap ((k : Int) - 1) = (m : Int) := by unfold IntKind.wrap; simp [IntKind.bits, IntKind.signed]; omega
          have e2 : decide (0 < (k : Int)) = true := decide_eq_true (by omega)
          have e3 : decide (0 < k) = true := decide_eq_true (by omega)
          have mn : (m : Int) < (n : Int) := by omega
          have m0 : (0 : Int) ≤ (m : Int) := by omega
          have kp : (0 : Int) < (k : Int) := by omega
          by_cases he : h = z
          · rw [if_pos he] at st
            have ST := Lib.hid st
            have q1 : (h == z) = true := beq_iff_eq.2 he
            clear st he EZ hm hk0
            go_wp2_with (go_at_call 25; (with_reducible refine (rbt_any _ _ _ _ Y2 _).mono ?_); rintro e w9 ⟨rfl, rfl⟩)
            go_quiet (fail)
            go_wp2
            go_ret
            exact ⟨ret_int ST.out.symm, ktr K0.out (HK.out.drewN _)⟩
          · rw [if_neg he] at st
            have q1 : (h == z) = false := beq_eq_false_iff_ne.2 he
            by_cases hl : h < z
            · rw [if_pos hl] at st
              have ST := Lib.hid st
              have q2 : decide (h < z) = true := decide_eq_true hl
              clear st he EZ hm hk0
              go_wp2_with (go_at_call 25; (with_reducible refine (rbt_any _ _ _ _ Y2 _).mono ?_); rintro e w9 ⟨rfl, rfl⟩)
              go_quiet (fail)
              go_wp2
              go_quiet (fail)
              go_wp2
              go_ret
              exact ⟨ret_int ST.out.symm, ktr K0.out ((HK.out.drewN _).drewN _)⟩
            · rw [if_neg hl, ← EP.out] at st
              have ST := Lib.hid st
              have q2 : decide (h < z) = false := decide_eq_false hl
              clear st he EZ hm hk0 EP
              go_wp2_with (go_at_call 25; (with_reducible refine (rbt_any _ _ _ _ Y2 _).mono ?_); rintro e w9 ⟨rfl, rfl⟩)
              go_quiet (fail)
              go_wp2
              go_quiet (fail)
              go_wp2
              go_roundw
              case rel => exact ⟨k + 1, by omega, by go_num, ST.out, HK.out.drewN _⟩
              case measure => simp [intOf]; omega
    · obtain rfl : k = n := by omega
      have ST : Hid (holE (-1) hs = 0) := HE.out.trans (DA.out _)
      go_wp2
      go_ret
      exact ⟨ret_int ST.out.symm, ktr K0.out HK.out⟩
theorem rcc_run (W : Int) (v : Value) (hs : List Int) (w : World) (hr : Reads w v hs) :
    Calls Tryd.prog 16 #[calV W v] w fun e w' => e = .returned (.int .i64 (calE W hs)) ∧ Kpt w w' := by
  have hm := hr.len
  obtain ⟨a, cap, rfl, -⟩ := id hr
  cases Y : btw 0 126 W with
  | false =>
    have hb := btw_f Y
    rw [calE_w (by omega)]
    exact rcc_w W a _ cap w Y
  | true =>
    have hb := btw_t Y
    by_cases hl : 60 < hs.length
    · rw [calE_m (by omega) hl]
      exact rcc_m W a _ cap w Y hl hm
    · rw [calE_h (by omega) (by omega)]
      exact rcc_h W a cap hs w hr Y (by omega)


theorem rbz_out (W n : Int) (a : Option Addr) (l cap : Nat) (h : n < 0 ∨ 3652058 < n) (w : World) :
    Calls Tryd.prog 10 #[calV W (.slice a l cap), .int .i64 n] w fun e w' => e = .returned (.bool false) ∧ Kpt w w' := by
  rcases h with h | h
  · go_enter Tryd.func10, Tryd.ntmps10
    go_wp2
    go_ret
    exact ⟨rfl, (Kpt.refl w).alloc _⟩
  · have h' : ¬ n < 0 := by omega
    go_enter Tryd.func10, Tryd.ntmps10
    go_wp2
    go_ret
    exact ⟨rfl, (Kpt.refl w).alloc _⟩
theorem con_iff {hs : List Int} {n : Int} : hs.contains n = true ↔ ∃ k, k < hs.length ∧ hs.getD k 0 = n := by
  rw [List.contains_iff_mem, List.mem_iff_getElem]
  constructor
  · rintro ⟨k, hk, e⟩
    exact ⟨k, hk, by rw [List.getD_eq_getElem?_getD, List.getElem?_eq_getElem hk]; exact e⟩
  · rintro ⟨k, hk, e⟩
    rw [List.getD_eq_getElem?_getD, List.getElem?_eq_getElem hk] at e
    exact ⟨k, hk, e⟩
theorem half_pow (W : Int) (j : Nat) : W / 2 ^ j / 2 = W / 2 ^ (j + 1) := by
  rw [Int.ediv_ediv_of_nonneg (by exact Int.le_of_lt (Int.pow_pos (by decide))), Int.pow_succ]

set_option maxRecDepth 100000 in
set_option maxHeartbeats 4000000 in
theorem rbz_in (W n : Int) (a : Option Addr) (cap : Nat) (hs : List Int) (h0 : 0 ≤ W) (h1 : W ≤ 126) (n0 : 0 ≤ n) (n1 : n ≤ 3652058) (w : World) (hr : Reads w (.slice a hs.length cap) hs) (hl : hs.length ≤ 60) :
    Calls Tryd.prog 10 #[calV W (.slice a hs.length cap), .int .i64 n] w fun e w' => e = .returned (.bool (bizB W hs n)) ∧ Kpt w w' := by
  obtain ⟨k0, b0, b1⟩ := W1cells W a hs.length cap w
  have HC := Lib.hid (fun k (h : k < hs.length) => (hr.kpt k0).sl k h)
  have K0 := Lib.hid k0
  have B0 := Lib.hid b0
  have B1 := Lib.hid b1
  have KW : Hid (Kpt (w.alloc (.cells #[.int .i64 W, .slice a hs.length cap] 24)) (w.alloc (.cells #[.int .i64 W, .slice a hs.length cap] 24))) := Kpt.refl _
  have CI := Lib.hid (con_iff (hs := hs) (n := n))
  obtain ⟨d, hd, hd6⟩ : ∃ d : Nat, n % 7 = (d : Int) ∧ d ≤ 6 := ⟨(n % 7).toNat, by omega, by omega⟩
  have EB : Hid (bizB W hs n = (!hs.contains n && !decide (W / 2 ^ d % 2 = 1))) := by
    unfold Hid bizB; rw [wk_bit h0 h1 n0, hd]; rfl
  obtain ⟨l, hll⟩ : ∃ l, l = hs.length := ⟨_, rfl⟩
  rw [← hll] at HC K0 B0 B1 KW CI hl ⊢
  clear k0 b0 b1 hr hll
  generalize hs.contains n = C at *
  go_enter Tryd.func10, Tryd.ntmps10
  go_wp2
  generalize w.alloc (.cells #[.int .i64 W, .slice a l cap] 24) = w1 at *
  generalize w.heap.size = g1 at *
  go_loopw [5] (fun ii wr => ∃ k : Nat, k ≤ l ∧ ii = .int .i64 (k : Int) ∧ Hid (∀ j, j < k → hs.getD j 0 ≠ n) ∧ wr = w1) (fun ii _ => l - (intOf ii).toNat)
  case atStart => exact ⟨0, Nat.zero_le _, rfl, fun j hj => absurd hj (Nat.not_lt_zero _), rfl⟩
  case round =>
    obtain ⟨k, hk, rfl, HN, rfl⟩ := hrel
    have a1 := B1.out
    by_cases hlt : k < l
    · obtain ⟨b, off, rfl, hc⟩ := HC.out k hlt
      have HT : Hid (hs.getD k 0 = n → C = true) := fun e => CI.out.2 ⟨k, hlt, e⟩
      have HN2 : Hid (hs.getD k 0 ≠ n → ∀ j, j < k + 1 → hs.getD j 0 ≠ n) := fun e j hj => by
        rcases Nat.lt_or_ge j k with q | q
        · exact HN.out j q
        · obtain rfl : j = k := by omega
          exact e
      generalize hs.getD k 0 = h at *
      have kn : (k : Int) < (l : Int) := by omega
      by_cases he : h = n
      · have q1 : (h == n) = true := beq_iff_eq.2 he
        have CT := HT.out he
        have EF : Hid (bizB W hs n = false) := by rw [EB.out, CT]; rfl
        clear he CT
        go_wp2
        go_ret
        exact ⟨ret_bool EF.out.symm, K0.out⟩
      · have q1 : (h == n) = false := beq_eq_false_iff_ne.2 he
        have HN3 := Lib.hid (HN2.out he)
        clear he
        go_wp2
        go_roundw
        case rel => exact ⟨k + 1, by omega, by go_num, HN3.out, trivial⟩
        case measure => simp [intOf]; omega
    · obtain rfl : k = l := by omega
      have CF : C = false := by
        cases hC : C with
        | false => rfl
        | true => obtain ⟨j, j1, j2⟩ := CI.out.1 hC; exact absurd j2 (HN.out j j1)
      have EF : Hid (bizB W hs n = !decide (W / 2 ^ d % 2 = 1)) := by rw [EB.out, CF]; rfl
      have a0 := B0.out
      clear CF HN CI EB
      go_wp2
      go_loopw [6, 7] (fun xv jj wx => ∃ (j : Nat) (x : Int), j ≤ d ∧ jj = .int .i64 (j : Int) ∧ xv = .int .i64 x ∧ 0 ≤ x ∧ x ≤ 126 ∧ Hid (x = W / 2 ^ j) ∧ wx = wr) (fun _ jj _ => d - (intOf jj).toNat)
      case atStart => exact ⟨0, W, Nat.zero_le _, rfl, rfl, h0, h1, by unfold Hid; simp, rfl⟩
      case round =>
        obtain ⟨j, x, hj, rfl, rfl, x0, x1, HX, rfl⟩ := hrel
        by_cases hlt2 : j < d
        · have HX2 : Hid (x / 2 = W / 2 ^ (j + 1)) := by unfold Hid; rw [HX.out, half_pow]
          have jd : (j : Int) < (d : Int) := by omega
          go_wp2
          go_roundw
          case rel => exact ⟨j + 1, x / 2, by omega, by go_num, rfl, by omega, by omega, HX2.out, trivial⟩
          case measure => simp [intOf]; omega
        · obtain rfl : j = d := by omega
          have ER : Hid ((x % 2 == 0) = bizB W hs n) := by
            unfold Hid; rw [EF.out, ← HX.out]
            rcases (show x % 2 = 0 ∨ x % 2 = 1 by omega) with e | e <;> rw [e] <;> rfl
          go_wp2
          go_ret
          exact ⟨ret_bool ER.out, K0.out⟩
theorem rbz_run (W n : Int) (v : Value) (hs : List Int) (w : World) (hr : Reads w v hs) (hE : calE W hs = 0) :
    Calls Tryd.prog 10 #[calV W v, .int .i64 n] w fun e w' => e = .returned (.bool (dayB n && bizB W hs n)) ∧ Kpt w w' := by
  obtain ⟨a, cap, rfl, -⟩ := id hr
  obtain ⟨h0, h1, hl, -⟩ := cal_right hE
  cases hd : dayB n with
  | false => exact rbz_out W n a _ cap (by have := day_f hd; omega) w
  | true =>
    obtain ⟨n0, n1⟩ := day_t hd
    exact rbz_in W n a cap hs h0 h1 n0 n1 w hr hl

end Go.Proofs.YtpkhhbplabfeaaaDoor
