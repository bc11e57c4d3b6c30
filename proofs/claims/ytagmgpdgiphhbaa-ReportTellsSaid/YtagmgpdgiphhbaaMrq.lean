/-
  Merged: RefCal, RefRep, RefRep2, RefRep3.
-/
import Derived.Test.YtagmgpdgiphhbaaMrt
import Derived.Test.YtagmgpdgiphhbaaMc3
import Derived.Test.YtagmgpdgiphhbaaSl
import Derived.Deep.QuietTactic
import Derived.BigQuiet
import Derived.Test.YtagmgpdgiphhbaaMra
import Derived.Test.YtagmgpdgiphhbaaBools
-- RefCal
namespace Go.Proofs.Ytagmgpdgiphhbaa
open Go.RowKit
set_option linter.unusedVariables false

theorem W1cells (W : Int) (a : Option Addr) (n cap : Nat) (w : World) : Kpt w (w.alloc (.cells #[.int .i64 W, .slice a n cap] 24)) ∧ (w.alloc (.cells #[.int .i64 W, .slice a n cap] 24)).cell? ⟨w.heap.size, 0, none⟩ = some (.int .i64 W) ∧ (w.alloc (.cells #[.int .i64 W, .slice a n cap] 24)).cell? ⟨w.heap.size, 1, none⟩ = some (.slice a n cap) :=
  ⟨(Kpt.refl w).alloc _, (Blk.made w _ _).cell 0, (Blk.made w _ _).cell 1⟩
theorem rcc_w (W : Int) (a : Option Addr) (n cap : Nat) (w : World) (Y : btw 0 126 W = false) :
    Calls Try.prog 29 #[calV W (.slice a n cap)] w fun e w' => e = .returned (.int .i64 3) ∧ Kpt w w' := by
  go_enter Try.func29, Try.ntmps29
  go_wp2_with (go_at_call 30; (with_reducible refine (rbt_any _ _ _ _ Y _).mono ?_); rintro e w9 ⟨rfl, rfl⟩)
  go_ret
  exact ⟨rfl, (Kpt.refl w).alloc _⟩
theorem rcc_m (W : Int) (a : Option Addr) (n cap : Nat) (w : World) (Y : btw 0 126 W = true) (hn : 60 < n) (hm : n ≤ maxLen) :
    Calls Try.prog 29 #[calV W (.slice a n cap)] w fun e w' => e = .returned (.int .i64 2) ∧ Kpt w w' := by
  unfold maxLen at hm
  have y1 : decide ((60 : Int) < (n : Int)) = true := decide_eq_true (by omega)
  have y2 : (60 : Int) < (n : Int) := by omega
  go_enter Try.func29, Try.ntmps29
  go_wp2_with (go_at_call 30; (with_reducible refine (rbt_any _ _ _ _ Y _).mono ?_); rintro e w9 ⟨rfl, rfl⟩)
  go_ret
  exact ⟨rfl, (Kpt.refl w).alloc _⟩
def prevH (hs : List Int) : Nat → Int
  | 0 => -1
  | k + 1 => hs.getD k 0

set_option maxRecDepth 100000 in
set_option maxHeartbeats 4000000 in
theorem rcc_h (W : Int) (a : Option Addr) (cap : Nat) (hs : List Int) (w : World) (hr : Reads w (.slice a hs.length cap) hs) (Y : btw 0 126 W = true) (hn : hs.length ≤ 60) :
    Calls Try.prog 29 #[calV W (.slice a hs.length cap)] w fun e w' => e = .returned (.int .i64 (holE (-1) hs)) ∧ Kpt w w' := by
  obtain ⟨k0, b0, b1⟩ := W1cells W a hs.length cap w
  have HC := Lib.hid (fun k (h : k < hs.length) => (hr.kpt k0).sl k h)
  have HS := Lib.hid (fun b k (h : k < hs.length) => holE_step (b := b) h)
  have K0 := Lib.hid k0
  have B1 := Lib.hid b1
  have KW : Hid (Kpt (w.alloc (.cells #[.int .i64 W, .slice a hs.length cap] 24)) (w.alloc (.cells #[.int .i64 W, .slice a hs.length cap] 24))) := Kpt.refl _
  have DA : Hid (∀ b, holE b (hs.drop hs.length) = 0) := fun b => by rw [List.drop_length]; rfl
  have D0 : Hid (holE (-1) hs = holE (prevH hs 0) (hs.drop 0)) := rfl
  obtain ⟨n, hnn⟩ : ∃ n, n = hs.length := ⟨_, rfl⟩
  rw [← hnn] at HC HS K0 B1 KW DA hn ⊢
  clear k0 b0 b1 hr hnn
  have y1 : decide ((60 : Int) < (n : Int)) = false := decide_eq_false (by omega)
  have y2 : ¬ (60 : Int) < (n : Int) := by omega
  go_enter Try.func29, Try.ntmps29
  go_wp2_with (go_at_call 30; (with_reducible refine (rbt_any _ _ _ _ Y _).mono ?_); rintro e w9 ⟨rfl, rfl⟩)
  generalize w.alloc (.cells #[.int .i64 W, .slice a n cap] 24) = w1 at *
  generalize w.heap.size = g1 at *
  go_loopw [3] (fun ii wr => ∃ k : Nat, k ≤ n ∧ ii = .int .i64 (k : Int) ∧ Hid (holE (-1) hs = holE (prevH hs k) (hs.drop k)) ∧ Hid (Kpt w1 wr)) (fun ii _ => n - (intOf ii).toNat)
  case atStart => exact ⟨0, Nat.zero_le _, rfl, D0.out, KW.out⟩
  case round =>
    obtain ⟨k, hk, rfl, HE, HK⟩ := hrel
    have a1 := HK.out.cell B1.out
    by_cases hlt : k < n
    · obtain ⟨b, off, rfl, hc⟩ := HC.out k hlt
      have HCJ : Hid (∀ j, j < n → w1.cell? ⟨b, off + j, none⟩ = some (.int .i64 (hs.getD j 0))) := fun j hj => by
        obtain ⟨b', off', e, h'⟩ := HC.out j hj
        simp only [Option.some.injEq, Addr.mk.injEq] at e
        obtain ⟨rfl, rfl, -⟩ := e
        exact h'
      have c0 := HK.out.cell hc
      have st := HS.out (prevH hs k) k hlt
      rw [← HE.out] at st
      have EP : Hid (prevH hs (k + 1) = hs.getD k 0) := rfl
      clear hc HE
      generalize hs.getD k 0 = h at *
      have kn : (k : Int) < (n : Int) := by omega
      have k00 : (0 : Int) ≤ (k : Int) := by omega
      cases Y2 : btw 0 3652058 h with
      | false =>
        have hd := btw_f Y2
        rw [if_pos hd] at st
        have ST := Lib.hid st
        clear st hd
        go_wp2_with (go_at_call 30; (with_reducible refine (rbt_any _ _ _ _ Y2 _).mono ?_); rintro e w9 ⟨rfl, rfl⟩)
        go_ret
        exact ⟨ret_int ST.out.symm, ktr K0.out HK.out⟩
      | true =>
        have hd := btw_t Y2
        rw [if_neg (by omega)] at st
        by_cases hk0 : k = 0
        · have p0 : prevH hs k = -1 := by rw [hk0]; rfl
          rw [p0, if_neg (show ¬ h = -1 by omega), if_neg (show ¬ h < -1 by omega), ← EP.out] at st
          have ST := Lib.hid st
          have e2 : decide (0 < (k : Int)) = false := decide_eq_false (by omega)
          have e3 : decide (0 < k) = false := decide_eq_false (by omega)
          have kp : ¬ (0 : Int) < (k : Int) := by omega
          clear st EP p0 hk0
          go_wp2_with (go_at_call 30; (with_reducible refine (rbt_any _ _ _ _ Y2 _).mono ?_); rintro e w9 ⟨rfl, rfl⟩)
          go_quiet (fail)
          go_wp2
          go_quiet (fail)
          go_wp2
          go_roundw
          case rel => exact ⟨k + 1, by omega, by go_num, ST.out, HK.out.drewN _⟩
          case measure => simp [intOf]; omega
        · obtain ⟨m, hm⟩ : ∃ m, k = m + 1 := ⟨k - 1, by omega⟩
          have cm := HK.out.cell (HCJ.out m (by omega))
          have EZ : prevH hs k = hs.getD m 0 := by rw [hm]; rfl
          rw [EZ] at st
          generalize hs.getD m 0 = z at *
          have e1 : IntKind.i64.wrap ((k : Int) - 1) = (m : Int) := by unfold IntKind.wrap; simp [IntKind.bits, IntKind.signed]; omega
          have e2 : decide (0 < (k : Int)) = true := decide_eq_true (by omega)
          have e3 : decide (0 < k) = true := decide_eq_true (by omega)
          have mn : (m : Int) < (n : Int) := by omega
          have m0 : (0 : Int) ≤ (m : Int) := by omega
          have kp : (0 : Int) < (k : Int) := by omega
          by_cases he : h = z
          · rw [if_pos he] at st
            have ST := Lib.hid st
            have q1 : (h == z) = true := beq_iff_eq.2 he
            clear st he EZ hm hk0
            go_wp2_with (go_at_call 30; (with_reducible refine (rbt_any _ _ _ _ Y2 _).mono ?_); rintro e w9 ⟨rfl, rfl⟩)
            go_quiet (fail)
            go_wp2
            go_ret
            exact ⟨ret_int ST.out.symm, ktr K0.out (HK.out.drewN _)⟩
          · rw [if_neg he] at st
            have q1 : (h == z) = false := beq_eq_false_iff_ne.2 he
            by_cases hl : h < z
            · rw [if_pos hl] at st
              have ST := Lib.hid st
              have q2 : decide (h < z) = true := decide_eq_true hl
              clear st he EZ hm hk0
              go_wp2_with (go_at_call 30; (with_reducible refine (rbt_any _ _ _ _ Y2 _).mono ?_); rintro e w9 ⟨rfl, rfl⟩)
              go_quiet (fail)
              go_wp2
              go_quiet (fail)
              go_wp2
              go_ret
              exact ⟨ret_int ST.out.symm, ktr K0.out ((HK.out.drewN _).drewN _)⟩
            · rw [if_neg hl, ← EP.out] at st
              have ST := Lib.hid st
              have q2 : decide (h < z) = false := decide_eq_false hl
              clear st he EZ hm hk0 EP
              go_wp2_with (go_at_call 30; (with_reducible refine (rbt_any _ _ _ _ Y2 _).mono ?_); rintro e w9 ⟨rfl, rfl⟩)
              go_quiet (fail)
              go_wp2
              go_quiet (fail)
              go_wp2
              go_roundw
              case rel => exact ⟨k + 1, by omega, by go_num, ST.out, HK.out.drewN _⟩
              case measure => simp [intOf]; omega
    · obtain rfl : k = n := by omega
      have ST : Hid (holE (-1) hs = 0) := HE.out.trans (DA.out _)
      go_wp2
      go_ret
      exact ⟨ret_int ST.out.symm, ktr K0.out HK.out⟩
theorem rcc_run (W : Int) (v : Value) (hs : List Int) (w : World) (hr : Reads w v hs) :
    Calls Try.prog 29 #[calV W v] w fun e w' => e = .returned (.int .i64 (calE W hs)) ∧ Kpt w w' := by
  have hm := hr.len
  obtain ⟨a, cap, rfl, -⟩ := id hr
  cases Y : btw 0 126 W with
  | false =>
    have hb := btw_f Y
    rw [calE_w (by omega)]
    exact rcc_w W a _ cap w Y
  | true =>
    have hb := btw_t Y
    by_cases hl : 60 < hs.length
    · rw [calE_m (by omega) hl]
      exact rcc_m W a _ cap w Y hl hm
    · rw [calE_h (by omega) (by omega)]
      exact rcc_h W a cap hs w hr Y (by omega)


theorem rbz_out (W n : Int) (a : Option Addr) (l cap : Nat) (h : n < 0 ∨ 3652058 < n) (w : World) :
    Calls Try.prog 33 #[calV W (.slice a l cap), .int .i64 n] w fun e w' => e = .returned (.bool false) ∧ Kpt w w' := by
  rcases h with h | h
  · go_enter Try.func33, Try.ntmps33
    go_wp2
    go_ret
    exact ⟨rfl, (Kpt.refl w).alloc _⟩
  · have h' : ¬ n < 0 := by omega
    go_enter Try.func33, Try.ntmps33
    go_wp2
    go_ret
    exact ⟨rfl, (Kpt.refl w).alloc _⟩
theorem con_iff {hs : List Int} {n : Int} : hs.contains n = true ↔ ∃ k, k < hs.length ∧ hs.getD k 0 = n := by
  rw [List.contains_iff_mem, List.mem_iff_getElem]
  constructor
  · rintro ⟨k, hk, e⟩
    exact ⟨k, hk, by rw [List.getD_eq_getElem?_getD, List.getElem?_eq_getElem hk]; exact e⟩
  · rintro ⟨k, hk, e⟩
    rw [List.getD_eq_getElem?_getD, List.getElem?_eq_getElem hk] at e
    exact ⟨k, hk, e⟩
theorem half_pow (W : Int) (j : Nat) : W / 2 ^ j / 2 = W / 2 ^ (j + 1) := by
  rw [Int.ediv_ediv_of_nonneg (by exact Int.le_of_lt (Int.pow_pos (by decide))), Int.pow_succ]

set_option maxRecDepth 100000 in
set_option maxHeartbeats 4000000 in
theorem rbz_in (W n : Int) (a : Option Addr) (cap : Nat) (hs : List Int) (h0 : 0 ≤ W) (h1 : W ≤ 126) (n0 : 0 ≤ n) (n1 : n ≤ 3652058) (w : World) (hr : Reads w (.slice a hs.length cap) hs) (hl : hs.length ≤ 60) :
    Calls Try.prog 33 #[calV W (.slice a hs.length cap), .int .i64 n] w fun e w' => e = .returned (.bool (bizB W hs n)) ∧ Kpt w w' := by
  obtain ⟨k0, b0, b1⟩ := W1cells W a hs.length cap w
  have HC := Lib.hid (fun k (h : k < hs.length) => (hr.kpt k0).sl k h)
  have K0 := Lib.hid k0
  have B0 := Lib.hid b0
  have B1 := Lib.hid b1
  have KW : Hid (Kpt (w.alloc (.cells #[.int .i64 W, .slice a hs.length cap] 24)) (w.alloc (.cells #[.int .i64 W, .slice a hs.length cap] 24))) := Kpt.refl _
  have CI := Lib.hid (con_iff (hs := hs) (n := n))
  obtain ⟨d, hd, hd6⟩ : ∃ d : Nat, n % 7 = (d : Int) ∧ d ≤ 6 := ⟨(n % 7).toNat, by omega, by omega⟩
  have EB : Hid (bizB W hs n = (!hs.contains n && !decide (W / 2 ^ d % 2 = 1))) := by
    unfold Hid bizB; rw [wk_bit h0 h1 n0, hd]; rfl
  obtain ⟨l, hll⟩ : ∃ l, l = hs.length := ⟨_, rfl⟩
  rw [← hll] at HC K0 B0 B1 KW CI hl ⊢
  clear k0 b0 b1 hr hll
  generalize hs.contains n = C at *
  go_enter Try.func33, Try.ntmps33
  go_wp2
  generalize w.alloc (.cells #[.int .i64 W, .slice a l cap] 24) = w1 at *
  generalize w.heap.size = g1 at *
  go_loopw [5] (fun ii wr => ∃ k : Nat, k ≤ l ∧ ii = .int .i64 (k : Int) ∧ Hid (∀ j, j < k → hs.getD j 0 ≠ n) ∧ wr = w1) (fun ii _ => l - (intOf ii).toNat)
  case atStart => exact ⟨0, Nat.zero_le _, rfl, fun j hj => absurd hj (Nat.not_lt_zero _), rfl⟩
  case round =>
    obtain ⟨k, hk, rfl, HN, rfl⟩ := hrel
    have a1 := B1.out
    by_cases hlt : k < l
    · obtain ⟨b, off, rfl, hc⟩ := HC.out k hlt
      have HT : Hid (hs.getD k 0 = n → C = true) := fun e => CI.out.2 ⟨k, hlt, e⟩
      have HN2 : Hid (hs.getD k 0 ≠ n → ∀ j, j < k + 1 → hs.getD j 0 ≠ n) := fun e j hj => by
        rcases Nat.lt_or_ge j k with q | q
        · exact HN.out j q
        · obtain rfl : j = k := by omega
          exact e
      generalize hs.getD k 0 = h at *
      have kn : (k : Int) < (l : Int) := by omega
      by_cases he : h = n
      · have q1 : (h == n) = true := beq_iff_eq.2 he
        have CT := HT.out he
        have EF : Hid (bizB W hs n = false) := by rw [EB.out, CT]; rfl
        clear he CT
        go_wp2
        go_ret
        exact ⟨ret_bool EF.out.symm, K0.out⟩
      · have q1 : (h == n) = false := beq_eq_false_iff_ne.2 he
        have HN3 := Lib.hid (HN2.out he)
        clear he
        go_wp2
        go_roundw
        case rel => exact ⟨k + 1, by omega, by go_num, HN3.out, trivial⟩
        case measure => simp [intOf]; omega
    · obtain rfl : k = l := by omega
      have CF : C = false := by
        cases hC : C with
        | false => rfl
        | true => obtain ⟨j, j1, j2⟩ := CI.out.1 hC; exact absurd j2 (HN.out j j1)
      have EF : Hid (bizB W hs n = !decide (W / 2 ^ d % 2 = 1)) := by rw [EB.out, CF]; rfl
      have a0 := B0.out
      clear CF HN CI EB
      go_wp2
      go_loopw [6, 7] (fun xv jj wx => ∃ (j : Nat) (x : Int), j ≤ d ∧ jj = .int .i64 (j : Int) ∧ xv = .int .i64 x ∧ 0 ≤ x ∧ x ≤ 126 ∧ Hid (x = W / 2 ^ j) ∧ wx = wr) (fun _ jj _ => d - (intOf jj).toNat)
      case atStart => exact ⟨0, W, Nat.zero_le _, rfl, rfl, h0, h1, by unfold Hid; simp, rfl⟩
      case round =>
        obtain ⟨j, x, hj, rfl, rfl, x0, x1, HX, rfl⟩ := hrel
        by_cases hlt2 : j < d
        · have HX2 : Hid (x / 2 = W / 2 ^ (j + 1)) := by unfold Hid; rw [HX.out, half_pow]
          have jd : (j : Int) < (d : Int) := by omega
          go_wp2
          go_roundw
          case rel => exact ⟨j + 1, x / 2, by omega, by go_num, rfl, by omega, by omega, HX2.out, trivial⟩
          case measure => simp [intOf]; omega
        · obtain rfl : j = d := by omega
          have ER : Hid ((x % 2 == 0) = bizB W hs n) := by
            unfold Hid; rw [EF.out, ← HX.out]
            rcases (show x % 2 = 0 ∨ x % 2 = 1 by omega) with e | e <;> rw [e] <;> rfl
          go_wp2
          go_ret
          exact ⟨ret_bool ER.out, K0.out⟩
theorem rbz_run (W n : Int) (v : Value) (hs : List Int) (w : World) (hr : Reads w v hs) (hE : calE W hs = 0) :
    Calls Try.prog 33 #[calV W v, .int .i64 n] w fun e w' => e = .returned (.bool (dayB n && bizB W hs n)) ∧ Kpt w w' := by
  obtain ⟨a, cap, rfl, -⟩ := id hr
  obtain ⟨h0, h1, hl, -⟩ := cal_right hE
  cases hd : dayB n with
  | false => exact rbz_out W n a _ cap (by have := day_f hd; omega) w
  | true =>
    obtain ⟨n0, n1⟩ := day_t hd
    exact rbz_in W n a cap hs h0 h1 n0 n1 w hr hl

end Go.Proofs.Ytagmgpdgiphhbaa

-- RefRep
namespace Go.Proofs.Ytagmgpdgiphhbaa
open Go.RowKit
set_option linter.unusedVariables false

theorem btw_yes {l h n : Int} (a : l ≤ n) (b : n ≤ h) : btw l h n = true := decide_eq_true ⟨a, b⟩
theorem btw_no {l h n : Int} (a : n < l ∨ h < n) : btw l h n = false := decide_eq_false (by omega)
set_option maxRecDepth 100000 in
set_option maxHeartbeats 4000000 in
theorem edc_run (v : Value) (es : List Int) (w : World) (hr : Reads w v es) : Calls Try.prog 31 #[v] w fun e w' => e = .returned (.int .i64 (edgE es)) ∧ Kpt w w' := by
  obtain ⟨a, cap, rfl, hm, -⟩ := id hr
  have HR := Lib.hid hr.sl
  have HRW := Lib.hid hr
  unfold maxLen at hm
  obtain ⟨E, hE⟩ : ∃ E, edgE es = E := ⟨_, rfl⟩
  rw [hE]
  by_cases h6 : 40 < es.length
  · have HX : Hid (E = 2) := by unfold Hid; rw [← hE]; unfold edgE; rw [if_pos h6]
    have y1 : decide ((40 : Int) < (es.length : Int)) = true := decide_eq_true (by omega)
    clear hr hE h6
    go_enter Try.func31, Try.ntmps31
    go_wp2
    go_ret
    exact ⟨ret_int HX.out.symm, Kpt.refl _⟩
  · have X0 : Hid (E = edgL 0 (es.drop 0)) := by unfold Hid; rw [← hE]; unfold edgE; rw [if_neg h6]; rfl
    have DR := Lib.hid (fun k (h : k < es.length) => drop_atI h)
    have DE : Hid (es.drop es.length = []) := List.drop_length
    have y1 : decide ((40 : Int) < (es.length : Int)) = false := decide_eq_false (by omega)
    have H40 : Hid (es.length ≤ 40) := by unfold Hid; omega
    have hmx : Try.prog.follows .mixedOrders = true := by kernel_rfl
    clear hr hE h6
    go_enter Try.func31, Try.ntmps31
    go_wp2
    go_loopw [3] (fun ii wr => ∃ k : Nat, k ≤ es.length ∧ ii = .int .i64 (k : Int) ∧ Hid (Kpt w wr) ∧ Hid (E = edgL (if k = 0 then 0 else es.getD (k - 1) 0) (es.drop k))) (fun ii _ => es.length - (intOf ii).toNat)
    case atStart => exact ⟨0, Nat.zero_le _, rfl, Kpt.refl _, X0.out⟩
    case round =>
      obtain ⟨k, hk, rfl, HK, HE⟩ := hrel
      by_cases hlt : k < es.length
      · obtain ⟨g, off, rfl, c0⟩ := HR.out k hlt
        have c1 := HK.out.cell c0
        have he := HE.out
        rw [DR.out k hlt] at he
        unfold edgL at he
        have y3 : decide ((k : Int) < (es.length : Int)) = true := decide_eq_true (by omega)
        have i0 : (0 : Int) ≤ (k : Int) := by omega
        have i1 : (k : Int) < (es.length : Int) := by omega
        have m0 : IntKind.i64.wrap ((k : Int) + 1) = (k : Int) + 1 := IntWalk.i64_in _ (by omega)
        clear HE c0
        by_cases h1 : es.getD k 0 < 1 ∨ 3652058 < es.getD k 0
        · rw [if_pos h1] at he
          have BT := Lib.hid (fun w => rbt_any (es.getD k 0) 1 3652058 false (btw_no h1) w)
          have HE2 := Lib.hid he
          clear he h1
          generalize es.getD k 0 = p at *
          go_wp2_with (go_at_call 30; (with_reducible refine (BT.out _).mono ?_); rintro z w5 ⟨rfl, rfl⟩)
          go_ret
          exact ⟨ret_int HE2.out.symm, HK.out⟩
        · rw [if_neg h1] at he
          have BT := Lib.hid (fun w => rbt_any (es.getD k 0) 1 3652058 true (btw_yes (by omega) (by omega)) w)
          rcases Nat.eq_zero_or_pos k with hz | hz
          · rw [if_pos hz, if_neg (by omega)] at he
            have HE2 : Hid (E = edgL (if k + 1 = 0 then 0 else es.getD (k + 1 - 1) 0) (es.drop (k + 1))) := by
              unfold Hid; rw [if_neg (by omega), he]; rfl
            have t1 : decide ((0 : Int) < (k : Int)) = false := decide_eq_false (by omega)
            have t1' : decide (0 < k) = false := decide_eq_false (by omega)
            have HZ := Lib.hid hz
            clear he h1 hz
            generalize es.getD k 0 = p at *
            go_wp2_with (go_at_call 30; (with_reducible refine (BT.out _).mono ?_); rintro z w5 ⟨rfl, rfl⟩)
            go_quiet (fail)
            go_wp2
            go_roundw
            case rel => exact ⟨k + 1, by omega, by go_num, Kpt.drewN HK.out _, HE2.out⟩
            case measure => simp [intOf]; omega
          · rw [if_neg (show ¬ k = 0 by omega)] at he
            obtain ⟨j, rfl⟩ : ∃ j, k = j + 1 := ⟨k - 1, by omega⟩
            obtain ⟨g', off', e', c2⟩ := HR.out j (by omega)
            injection e' with e'
            injection e' with e1' e2' _
            subst e1' e2'
            have c3 := HK.out.cell c2
            rw [show j + 1 - 1 = j by omega] at he
            have t1 : decide ((0 : Int) < ((j + 1 : Nat) : Int)) = true := decide_eq_true (by omega)
            have t1' : decide (0 < j + 1) = true := decide_eq_true (by omega)
            have i5 : ((j + 1 : Nat) : Int) - 1 = (j : Int) := by omega
            have i6 : (j : Int) + 1 - 1 = (j : Int) := by omega
            have i7 : (j : Int) < (es.length : Int) := by omega
            have i8 : (0 : Int) ≤ (j : Int) := by omega
            have m1 : IntKind.i64.wrap (j : Int) = j := IntWalk.i64_in _ (by omega)
            have HE2 : Hid (es.getD (j + 1) 0 ≤ es.getD j 0 → E = 4) := fun h => by rw [if_pos h] at he; exact he
            have HE3 : Hid (¬ es.getD (j + 1) 0 ≤ es.getD j 0 → E = edgL (if j + 1 + 1 = 0 then 0 else es.getD (j + 1 + 1 - 1) 0) (es.drop (j + 1 + 1))) := fun h => by rw [if_neg h] at he; rw [if_neg (by omega), he]; rfl
            clear he h1 hz c2
            generalize es.getD (j + 1) 0 = p at *
            generalize es.getD j 0 = q at *
            by_cases h3 : p ≤ q
            · have t2 : decide (p ≤ q) = true := decide_eq_true h3
              have HE4 := Lib.hid (HE2.out h3)
              clear h3
              go_wp2_with (go_at_call 30; (with_reducible refine (BT.out _).mono ?_); rintro z w5 ⟨rfl, rfl⟩)
              go_quiet (fail)
              go_wp2
              go_ret
              exact ⟨ret_int HE4.out.symm, Kpt.drewN HK.out _⟩
            · have t2 : decide (p ≤ q) = false := decide_eq_false h3
              have HE4 := Lib.hid (HE3.out h3)
              clear h3
              go_wp2_with (go_at_call 30; (with_reducible refine (BT.out _).mono ?_); rintro z w5 ⟨rfl, rfl⟩)
              go_quiet (fail)
              go_wp2
              go_roundw
              case rel => exact ⟨j + 1 + 1, by omega, by go_num, Kpt.drewN HK.out _, HE4.out⟩
              case measure => simp [intOf]; omega
      · have hkl : k = es.length := by omega
        have y3 : decide ((k : Int) < (es.length : Int)) = false := decide_eq_false (by omega)
        have HE2 : Hid (E = 0) := by unfold Hid; rw [HE.out, hkl, DE.out]; rfl
        clear HE
        go_wp2
        go_ret
        exact ⟨ret_int HE2.out.symm, HK.out⟩

set_option maxHeartbeats 4000000 in
theorem rre_run (W q : Int) (v fv ev : Value) (hs es : List Int) (fs : List (List Int)) (w : World) (hr : Reads w v hs) (hf : Fits hs) (hF : ReadsF w fv fs) (hE : Reads w ev es) :
    Calls Try.prog 8 #[calV W v, fv, .int .i64 q, ev] w fun e w' => e = .returned (.int .i64 (ageQ W hs fs q es)) ∧ Kpt w w' := by
  have CC := Lib.hid (fun w' (k : Kpt w w') => rcc_run W v hs w' (hr.kpt k))
  have FC := Lib.hid (fun w' (k : Kpt w w') => rfcs_run fv fs w' (hF.kpt k))
  have EC := Lib.hid (fun w' (k : Kpt w w') => edc_run ev es w' (hE.kpt k))
  have BT := Lib.hid (fun w => rbt_any q 0 3652058 (btw 0 3652058 q) rfl w)
  have HT : Hid (tdE q = if btw 0 3652058 q = true then 0 else 3) := by
    unfold Hid tdE btw
    by_cases h : 0 ≤ q ∧ q ≤ 3652058
    · rw [if_pos h, if_pos (decide_eq_true h)]
    · rw [if_neg h, if_neg (by rw [decide_eq_false h]; decide)]
  have K1 : Hid (Kpt w w) := Kpt.refl w
  obtain ⟨a, cap, rfl, -⟩ := hr
  obtain ⟨a2, cap2, rfl, -⟩ := hF
  obtain ⟨a3, cap3, rfl, -⟩ := hE
  have HQ : Hid (ageQ W hs fs q es = orE (calE W hs) (orE (checksE fs) (orE (tdE q) (edgE es)))) := rfl
  have KB : Hid (Kpt w (w.alloc (.cells #[.int .i64 W, .slice a hs.length cap] 24))) := (Kpt.refl w).alloc _
  unfold calV at *
  generalize ageQ W hs fs q es = Z at *
  generalize calE W hs = z1 at *
  generalize checksE fs = z2 at *
  generalize tdE q = z3 at *
  generalize edgE es = z4 at *
  generalize btw 0 3652058 q = B at *
  generalize fs.length = n2 at *
  generalize es.length = n3 at *
  generalize hs.length = n1 at *
  have hq := HQ.out
  unfold orE at hq
  have ht := HT.out
  have p1 : (z1 == 0) = decide (z1 = 0) := by by_cases h : z1 = 0 <;> simp [h]
  have p2 : (z2 == 0) = decide (z2 = 0) := by by_cases h : z2 = 0 <;> simp [h]
  clear HQ HT
  by_cases h1 : z1 = 0
  · rw [if_pos h1] at hq
    have q1 : (z1 == 0) = true := beq_iff_eq.2 h1
    by_cases h2 : z2 = 0
    · rw [if_pos h2] at hq
      have q2 : (z2 == 0) = true := beq_iff_eq.2 h2
      cases B with
      | true =>
        rw [if_pos rfl] at ht
        rw [if_pos ht] at hq
        have HZ := Lib.hid hq
        clear hq ht h1 h2 p1 p2
        go_enter Try.func8, Try.ntmps8
        go_wp2_with (first
          | (go_at_call 29; (first | (with_reducible refine (CC.out _ KB.out).mono ?_) | (with_reducible refine (CC.out _ K1.out).mono ?_)); rintro x w1 ⟨rfl, k1⟩; first | (have K2 := Lib.hid (ktr KB.out k1); clear k1) | (have K2 := Lib.hid (ktr K1.out k1); clear k1))
          | (go_at_call 9; (with_reducible refine (FC.out _ K2.out).mono ?_); rintro x w2 ⟨rfl, k2⟩; have K3 := Lib.hid (ktr K2.out k2); clear k2)
          | (go_at_call 30; (with_reducible refine (BT.out _).mono ?_); rintro x w3 ⟨rfl, rfl⟩)
          | (go_at_call 31; (with_reducible refine (EC.out _ K3.out).mono ?_); rintro x w4 ⟨rfl, k4⟩; have K4 := Lib.hid (ktr K3.out k4); clear k4))
        go_ret
        exact ⟨ret_int HZ.out.symm, K4.out⟩
      | false =>
        rw [if_neg (by decide)] at ht
        rw [if_neg (by omega), ht] at hq
        have HZ := Lib.hid hq
        clear hq ht h1 h2 p1 p2
        go_enter Try.func8, Try.ntmps8
        go_wp2_with (first
          | (go_at_call 29; (with_reducible refine (CC.out _ KB.out).mono ?_); rintro x w1 ⟨rfl, k1⟩; have K2 := Lib.hid (ktr KB.out k1); clear k1)
          | (go_at_call 9; (with_reducible refine (FC.out _ K2.out).mono ?_); rintro x w2 ⟨rfl, k2⟩; have K3 := Lib.hid (ktr K2.out k2); clear k2)
          | (go_at_call 30; (with_reducible refine (BT.out _).mono ?_); rintro x w3 ⟨rfl, rfl⟩)
          | (go_at_call 31; (with_reducible refine (EC.out _ K3.out).mono ?_); rintro x w4 ⟨rfl, k4⟩; have K4 := Lib.hid (ktr K3.out k4); clear k4))
        go_ret
        exact ⟨ret_int HZ.out.symm, K3.out⟩
    · rw [if_neg h2] at hq
      have q2 : (z2 == 0) = false := beq_eq_false_iff_ne.2 h2
      have HZ := Lib.hid hq
      clear hq ht h1 h2 p1 p2
      go_enter Try.func8, Try.ntmps8
      go_wp2_with (first
          | (go_at_call 29; (with_reducible refine (CC.out _ KB.out).mono ?_); rintro x w1 ⟨rfl, k1⟩; have K2 := Lib.hid (ktr KB.out k1); clear k1)
          | (go_at_call 9; (with_reducible refine (FC.out _ K2.out).mono ?_); rintro x w2 ⟨rfl, k2⟩; have K3 := Lib.hid (ktr K2.out k2); clear k2)
          | (go_at_call 30; (with_reducible refine (BT.out _).mono ?_); rintro x w3 ⟨rfl, rfl⟩)
          | (go_at_call 31; (with_reducible refine (EC.out _ K3.out).mono ?_); rintro x w4 ⟨rfl, k4⟩; have K4 := Lib.hid (ktr K3.out k4); clear k4))
      go_ret
      exact ⟨ret_int HZ.out.symm, K3.out⟩
  · rw [if_neg h1] at hq
    have q1 : (z1 == 0) = false := beq_eq_false_iff_ne.2 h1
    have HZ := Lib.hid hq
    clear hq ht h1 p1 p2
    go_enter Try.func8, Try.ntmps8
    go_wp2_with (first
          | (go_at_call 29; (with_reducible refine (CC.out _ KB.out).mono ?_); rintro x w1 ⟨rfl, k1⟩; have K2 := Lib.hid (ktr KB.out k1); clear k1)
          | (go_at_call 9; (with_reducible refine (FC.out _ K2.out).mono ?_); rintro x w2 ⟨rfl, k2⟩; have K3 := Lib.hid (ktr K2.out k2); clear k2)
          | (go_at_call 30; (with_reducible refine (BT.out _).mono ?_); rintro x w3 ⟨rfl, rfl⟩)
          | (go_at_call 31; (with_reducible refine (EC.out _ K3.out).mono ?_); rintro x w4 ⟨rfl, k4⟩; have K4 := Lib.hid (ktr K3.out k4); clear k4))
    go_ret
    exact ⟨ret_int HZ.out.symm, K2.out⟩

set_option maxRecDepth 100000 in
set_option maxHeartbeats 4000000 in
theorem acn_run (W d q m : Int) (v : Value) (hs : List Int) (w : World) (hr : Reads w v hs) (hE : calE W hs = 0) (hd : 0 ≤ d) (hdq : d ≤ q) (hq : q ≤ 3652058) (hm0 : 0 ≤ m) (hm1 : m ≤ 3652058) :
    Calls Try.prog 11 #[calV W v, .int .i64 d, .int .i64 q, .int .i64 m] w fun e w' => e = .returned (.int .i64 (min ((cnt (bizB W hs) d q : Nat) : Int) (m + 1))) ∧ Kpt w w' := by
  have RB := Lib.hid (fun n w' (k : Kpt w w') => rbz_run W n v hs w' (hr.kpt k) hE)
  have HC := Lib.hid (fun (j : Nat) => cnt_succ (bizB W hs) (show d ≤ d + (j : Int) by omega))
  have HM := Lib.hid (fun (j : Nat) (h : d + (j : Int) ≤ q) => cnt_mono (bizB W hs) (show d ≤ d + (j : Int) by omega) h)
  have HL := Lib.hid (fun (j : Nat) => cnt_le (bizB W hs) d (d + (j : Int)))
  have C0 : Hid (cnt (bizB W hs) d (d + ((0 : Nat) : Int)) = 0) := by unfold Hid; rw [show d + ((0 : Nat) : Int) = d by simp]; exact cnt_self _ _
  have K1 : Hid (Kpt w (w.alloc (.cells #[.int .i64 W, v] 24))) := (Kpt.refl w).alloc _
  have B1 : Hid (Blk (w.alloc (.cells #[.int .i64 W, v] 24)) w.heap.size #[.int .i64 W, v] 24) := Blk.made _ _ _
  obtain ⟨C, hC⟩ : ∃ C, min ((cnt (bizB W hs) d q : Nat) : Int) (m + 1) = C := ⟨_, rfl⟩
  rw [hC]
  have CC := Lib.hid hC
  clear hC
  unfold calV at *
  have m9 : IntKind.i64.wrap (d + 1) = d + 1 := IntWalk.i64_in _ (by omega)
  go_enter Try.func11, Try.ntmps11
  go_wp2
  go_loopw [9, 10] (fun nn kk wr => ∃ j : Nat, d + (j : Int) ≤ q ∧ nn = .int .i64 ((cnt (bizB W hs) d (d + (j : Int)) : Nat) : Int) ∧ ((cnt (bizB W hs) d (d + (j : Int)) : Nat) : Int) ≤ m + 1 ∧ kk = .int .i64 (d + (j : Int) + 1) ∧ Hid (Kpt w wr) ∧ Hid (Blk wr w.heap.size #[.int .i64 W, v] 24)) (fun nn kk _ => (q + 1 - intOf kk).toNat)
  case atStart => exact ⟨0, by omega, by rw [C0.out]; rfl, by rw [C0.out]; omega, by simp, K1.out, B1.out⟩
  case round =>
    obtain ⟨j, hj, rfl, hn, rfl, HK, HB⟩ := hrel
    have hc := HC.out j
    have hl := HL.out j
    have b0 : wr.cell? ⟨w.heap.size, 0, none⟩ = some (.int .i64 W) := HB.out.cell 0
    have b1 : wr.cell? ⟨w.heap.size, 1, none⟩ = some v := HB.out.cell 1
    by_cases h1 : d + (j : Int) + 1 ≤ q
    · have y1 : decide (d + (j : Int) + 1 ≤ q) = true := decide_eq_true h1
      by_cases h2 : ((cnt (bizB W hs) d (d + (j : Int)) : Nat) : Int) ≤ m
      · have y2 : decide (((cnt (bizB W hs) d (d + (j : Int)) : Nat) : Int) ≤ m) = true := decide_eq_true h2
        have RX := Lib.hid (fun w' (k : Kpt w w') => RB.out (d + (j : Int) + 1) w' k)
        have hday : dayB (d + (j : Int) + 1) = true := decide_eq_true (by omega)
        rw [hday, Bool.true_and] at RX
        have m1 : IntKind.i64.wrap (d + (j : Int) + 1 + 1) = d + (j : Int) + 1 + 1 := IntWalk.i64_in _ (by omega)
        have m2 : IntKind.i64.wrap (((cnt (bizB W hs) d (d + (j : Int)) : Nat) : Int) + 1) = ((cnt (bizB W hs) d (d + (j : Int)) : Nat) : Int) + 1 := IntWalk.i64_in _ (by omega)
        have ej : d + ((j + 1 : Nat) : Int) = d + (j : Int) + 1 := by omega
        cases hb : bizB W hs (d + (j : Int) + 1) with
        | true =>
          rw [hb] at RX
          rw [hb, if_pos rfl] at hc
          have HC2 := Lib.hid hc
          clear hc hl hb hday
          generalize cnt (bizB W hs) d (d + (j : Int)) = N at *
          go_wp2_with (go_at_call 33; (with_reducible refine (RX.out _ HK.out).mono ?_); rintro z w5 ⟨rfl, k5⟩; have K5 := Lib.hid (ktr HK.out k5); have B5 := Lib.hid (HB.out.kpt k5); clear k5)
          go_roundw
          case rel => exact ⟨j + 1, by omega, by rw [ej, HC2.out]; rfl, by rw [ej, HC2.out]; omega, by rw [ej], K5.out, B5.out⟩
          case measure => simp [intOf]; omega
        | false =>
          rw [hb] at RX
          rw [hb, if_neg (by decide), Nat.add_zero] at hc
          have HC2 := Lib.hid hc
          clear hc hl hb hday
          generalize cnt (bizB W hs) d (d + (j : Int)) = N at *
          go_wp2_with (go_at_call 33; (with_reducible refine (RX.out _ HK.out).mono ?_); rintro z w5 ⟨rfl, k5⟩; have K5 := Lib.hid (ktr HK.out k5); have B5 := Lib.hid (HB.out.kpt k5); clear k5)
          go_roundw
          case rel => exact ⟨j + 1, by omega, by rw [ej, HC2.out], by rw [ej, HC2.out]; omega, by rw [ej], K5.out, B5.out⟩
          case measure => simp [intOf]; omega
      · have y2 : decide (((cnt (bizB W hs) d (d + (j : Int)) : Nat) : Int) ≤ m) = false := decide_eq_false h2
        have hmn := HM.out j hj
        have hcc := CC.out
        have HE : Hid (((cnt (bizB W hs) d (d + (j : Int)) : Nat) : Int) = C) := by unfold Hid; rw [← hcc]; omega
        clear hc hl hmn hcc
        generalize cnt (bizB W hs) d (d + (j : Int)) = N at *
        go_wp2
        go_ret
        exact ⟨ret_int HE.out, HK.out⟩
    · have y1 : decide (d + (j : Int) + 1 ≤ q) = false := decide_eq_false h1
      have ej : d + (j : Int) = q := by omega
      have hcc := CC.out
      have HE : Hid (((cnt (bizB W hs) d (d + (j : Int)) : Nat) : Int) = C) := by unfold Hid; rw [← hcc, ej] ; rw [ej] at hn; omega
      clear hc hl hcc ej
      generalize cnt (bizB W hs) d (d + (j : Int)) = N at *
      go_wp2
      go_ret
      exact ⟨ret_int HE.out, HK.out⟩

end Go.Proofs.Ytagmgpdgiphhbaa

-- RefRep2
namespace Go.Proofs.Ytagmgpdgiphhbaa
open Go.RowKit
set_option linter.unusedVariables false

theorem fl10' {w w' : World} {g o : Nat} {l : List Int} (h : FlAt w g o l) (k : Kpt w w') : w'.cell? ⟨g, o, none⟩ = some (.int .i64 (l.getD 0 0)) ∧ w'.cell? ⟨g, o + 1, none⟩ = some (.int .i64 (l.getD 1 0)) ∧ w'.cell? ⟨g, o + 2, none⟩ = some (.int .i64 (l.getD 2 0)) ∧ w'.cell? ⟨g, o + 3, none⟩ = some (.int .i64 (l.getD 3 0)) ∧ w'.cell? ⟨g, o + 4, none⟩ = some (.int .i64 (l.getD 4 0)) ∧ w'.cell? ⟨g, o + 5, none⟩ = some (.int .i64 (l.getD 5 0)) ∧ w'.cell? ⟨g, o + 6, none⟩ = some (.int .i64 (l.getD 6 0)) ∧ w'.cell? ⟨g, o + 7, none⟩ = some (.int .i64 (l.getD 7 0)) ∧ w'.cell? ⟨g, o + 8, none⟩ = some (.int .i64 (l.getD 8 0)) ∧ w'.cell? ⟨g, o + 9, none⟩ = some (.int .i64 (l.getD 9 0)) := by
  have h' := h.kpt k
  exact ⟨h' 0 (by decide), h' 1 (by decide), h' 2 (by decide), h' 3 (by decide), h' 4 (by decide), h' 5 (by decide), h' 6 (by decide), h' 7 (by decide), h' 8 (by decide), h' 9 (by decide)⟩
/-- what is open from, or to, a party, of the first k -/
def ptyG (c : Nat) (fs : List (List Int)) (p k : Nat) : Int := (((opn fs k).filter fun x : Fin fs.length => decide (((fs.getD x.1 []).getD c 0).toNat = p)).map fun x => openL (fs.getD x.1 [])).sum
theorem ptyG_s {c p k : Nat} {fs : List (List Int)} (hfl : ∀ l ∈ fs, failEL l = 0) (h : k < fs.length) (hc : c = 1 ∨ c = 2) : ptyG c fs p (k + 1) = ptyG c fs p k + if (fs.getD k []).getD c 0 = (p : Int) then openL (fs.getD k []) else 0 := by
  have fb := fail_bd (hfl _ (getF_mem h))
  have h0 : 0 ≤ (fs.getD k []).getD c 0 := by rcases hc with rfl | rfl <;> omega
  have hU := (openL_bd (fs.getD k [])).1
  unfold ptyG
  rw [opn_s h, List.filter_append, List.map_append, List.sum_append]
  congr 1
  by_cases e : 0 < openL (fs.getD k [])
  · rw [if_pos e]
    by_cases e2 : (fs.getD k []).getD c 0 = (p : Int)
    · rw [if_pos e2, List.filter_cons_of_pos (by simpa using (by omega : ((fs.getD k []).getD c 0).toNat = p)), List.filter_nil, List.map_cons, List.map_nil, List.sum_cons, List.sum_nil, Int.add_zero]
    · rw [if_neg e2, List.filter_cons_of_neg (by simpa using (by omega : ¬ ((fs.getD k []).getD c 0).toNat = p)), List.filter_nil]; rfl
  · rw [if_neg e]
    have : openL (fs.getD k []) = 0 := by omega
    rw [this]
    split <;> rfl
theorem ptyG_bd (c : Nat) {fs : List (List Int)} (p k : Nat) (h : k ≤ fs.length) : 0 ≤ ptyG c fs p k ∧ ptyG c fs p k ≤ k * 1073741824 := by
  have h1 := tal_bd (m := p + 1) (c := 1073741824) (fun x : Fin fs.length => ((fs.getD x.1 []).getD c 0).toNat) (fun x => openL (fs.getD x.1 [])) (by decide) (fun x => openL_bd _) (opn fs k) p
  rw [tal_at _ _ _ (by omega : p < p + 1)] at h1
  have := opn_len fs k
  unfold ptyG
  omega
theorem ptyG_is {c p : Nat} {fs : List (List Int)} (hp : p < 31) (h : checksE fs = 0) : (ptyO c fs).getD p 0 = ptyG c fs p fs.length := by
  unfold ptyO ptyT
  rw [if_pos h, tal_at _ _ _ hp]
  rfl

set_option maxRecDepth 100000 in
set_option maxHeartbeats 4000000 in
theorem rpy_1 (p : Nat) (v : Value) (fs : List (List Int)) (w : World) (hr : ReadsF w v fs) (hfl : ∀ l ∈ fs, failEL l = 0) (h60 : fs.length ≤ 60) :
    Calls Try.prog 12 #[v, .int .i64 (p : Int), .bool true] w fun e w' => e = .returned (.int .i64 (ptyG 1 fs p fs.length)) ∧ Kpt w w' := by
  obtain ⟨a, cap, rfl, hm, -, hcl⟩ := hr
  have HC := Lib.hid hcl
  have HFL := Lib.hid hfl
  have G0 : Hid (ptyG 1 fs p 0 = 0) := rfl
  have GS := Lib.hid (fun k (h : k < fs.length) => ptyG_s (c := 1) (p := p) hfl h (.inl rfl))
  have GB := Lib.hid (fun k (h : k ≤ fs.length) => ptyG_bd 1 p k h)
  obtain ⟨R, hR⟩ : ∃ R, ptyG 1 fs p fs.length = R := ⟨_, rfl⟩
  rw [hR]
  have HRR := Lib.hid hR
  unfold maxLen at hm
  clear hcl hR
  go_enter Try.func12, Try.ntmps12
  go_wp2
  go_loopw [7, 8] (fun nn ii wr => ∃ k : Nat, k ≤ fs.length ∧ nn = .int .i64 (ptyG 1 fs p k) ∧ ii = .int .i64 (k : Int) ∧ Hid (Kpt w wr)) (fun nn ii _ => fs.length - (intOf ii).toNat)
  case atStart => exact ⟨0, Nat.zero_le _, by rw [G0.out], rfl, Kpt.refl _⟩
  case round =>
    obtain ⟨k, hk, rfl, rfl, HK⟩ := hrel
    by_cases hlt : k < fs.length
    · obtain ⟨g, off, rfl, hf⟩ := HC.out k hlt
      obtain ⟨c0, c1, c2, c3, c4, c5, c6, c7, c8, c9⟩ := fl10' hf HK.out
      have fb := fail_bd (HFL.out _ (getF_mem hlt))
      have FO := Lib.hid (fun w' => rfo_run ((fs.getD k []).getD 0 0) ((fs.getD k []).getD 1 0) ((fs.getD k []).getD 2 0) ((fs.getD k []).getD 3 0) ((fs.getD k []).getD 4 0) ((fs.getD k []).getD 5 0) ((fs.getD k []).getD 6 0) ((fs.getD k []).getD 7 0) ((fs.getD k []).getD 8 0) ((fs.getD k []).getD 9 0) w' fb.1 (by omega) (by omega) (by omega))
      rw [← fb.2.2.2.2.2.2.2] at FO
      have hU := openL_bd (fs.getD k [])
      have gs := GS.out k hlt
      have gb := GB.out k hk
      have y1 : decide ((k : Int) < (fs.length : Int)) = true := decide_eq_true (by omega)
      have i0 : (0 : Int) ≤ (k : Int) := by omega
      have i1 : (k : Int) < (fs.length : Int) := by omega
      have m0 : IntKind.i64.wrap ((k : Int) + 1) = (k : Int) + 1 := IntWalk.i64_in _ (by omega)
      clear fb hf
      by_cases hp : (fs.getD k []).getD 1 0 = (p : Int)
      · rw [if_pos hp] at gs
        have q1 : ((fs.getD k []).getD 1 0 == (p : Int)) = true := beq_iff_eq.2 hp
        clear hp
        generalize (fs.getD k []).getD 0 0 = z0 at *
        generalize (fs.getD k []).getD 1 0 = z1 at *
        generalize (fs.getD k []).getD 2 0 = z2 at *
        generalize (fs.getD k []).getD 3 0 = z3 at *
        generalize (fs.getD k []).getD 4 0 = z4 at *
        generalize (fs.getD k []).getD 5 0 = z5 at *
        generalize (fs.getD k []).getD 6 0 = z6 at *
        generalize (fs.getD k []).getD 7 0 = z7 at *
        generalize (fs.getD k []).getD 8 0 = z8 at *
        generalize (fs.getD k []).getD 9 0 = z9 at *
        generalize openL (fs.getD k []) = U at *
        have m1 : IntKind.i64.wrap (ptyG 1 fs p k + U) = ptyG 1 fs p k + U := IntWalk.i64_in _ (by omega)
        have S := Lib.hid gs
        clear gs gb hU
        generalize ptyG 1 fs p k = A at *
        go_wp2_with (go_at_call 10; (with_reducible refine (FO.out _).mono ?_); rintro z w6 ⟨rfl, kk⟩; have HK := Lib.hid (ktr HK.out kk); clear kk)
        go_roundw
        case rel => exact ⟨k + 1, by omega, by rw [S.out], by go_num, HK.out⟩
        case measure => simp [intOf]; omega
      · rw [if_neg hp, Int.add_zero] at gs
        have q1 : ((fs.getD k []).getD 1 0 == (p : Int)) = false := beq_eq_false_iff_ne.2 hp
        clear hp
        generalize (fs.getD k []).getD 0 0 = z0 at *
        generalize (fs.getD k []).getD 1 0 = z1 at *
        generalize (fs.getD k []).getD 2 0 = z2 at *
        generalize (fs.getD k []).getD 3 0 = z3 at *
        generalize (fs.getD k []).getD 4 0 = z4 at *
        generalize (fs.getD k []).getD 5 0 = z5 at *
        generalize (fs.getD k []).getD 6 0 = z6 at *
        generalize (fs.getD k []).getD 7 0 = z7 at *
        generalize (fs.getD k []).getD 8 0 = z8 at *
        generalize (fs.getD k []).getD 9 0 = z9 at *
        have S := Lib.hid gs
        clear gs gb hU
        generalize ptyG 1 fs p k = A at *
        go_wp2
        go_roundw
        case rel => exact ⟨k + 1, by omega, by rw [S.out], by go_num, HK.out⟩
        case measure => simp [intOf]; omega
    · have hkl : k = fs.length := by omega
      have y1 : decide ((k : Int) < (fs.length : Int)) = false := decide_eq_false (by omega)
      have HE : Hid (ptyG 1 fs p k = R) := by unfold Hid; rw [hkl]; exact HRR.out
      generalize ptyG 1 fs p k = A at *
      go_wp2
      go_ret
      exact ⟨ret_int HE.out, HK.out⟩

set_option maxRecDepth 100000 in
set_option maxHeartbeats 4000000 in
theorem rpy_2 (p : Nat) (v : Value) (fs : List (List Int)) (w : World) (hr : ReadsF w v fs) (hfl : ∀ l ∈ fs, failEL l = 0) (h60 : fs.length ≤ 60) :
    Calls Try.prog 12 #[v, .int .i64 (p : Int), .bool false] w fun e w' => e = .returned (.int .i64 (ptyG 2 fs p fs.length)) ∧ Kpt w w' := by
  obtain ⟨a, cap, rfl, hm, -, hcl⟩ := hr
  have HC := Lib.hid hcl
  have HFL := Lib.hid hfl
  have G0 : Hid (ptyG 2 fs p 0 = 0) := rfl
  have GS := Lib.hid (fun k (h : k < fs.length) => ptyG_s (c := 2) (p := p) hfl h (.inr rfl))
  have GB := Lib.hid (fun k (h : k ≤ fs.length) => ptyG_bd 2 p k h)
  obtain ⟨R, hR⟩ : ∃ R, ptyG 2 fs p fs.length = R := ⟨_, rfl⟩
  rw [hR]
  have HRR := Lib.hid hR
  unfold maxLen at hm
  clear hcl hR
  go_enter Try.func12, Try.ntmps12
  go_wp2
  go_loopw [7, 8] (fun nn ii wr => ∃ k : Nat, k ≤ fs.length ∧ nn = .int .i64 (ptyG 2 fs p k) ∧ ii = .int .i64 (k : Int) ∧ Hid (Kpt w wr)) (fun nn ii _ => fs.length - (intOf ii).toNat)
  case atStart => exact ⟨0, Nat.zero_le _, by rw [G0.out], rfl, Kpt.refl _⟩
  case round =>
    obtain ⟨k, hk, rfl, rfl, HK⟩ := hrel
    by_cases hlt : k < fs.length
    · obtain ⟨g, off, rfl, hf⟩ := HC.out k hlt
      obtain ⟨c0, c1, c2, c3, c4, c5, c6, c7, c8, c9⟩ := fl10' hf HK.out
      have fb := fail_bd (HFL.out _ (getF_mem hlt))
      have FO := Lib.hid (fun w' => rfo_run ((fs.getD k []).getD 0 0) ((fs.getD k []).getD 1 0) ((fs.getD k []).getD 2 0) ((fs.getD k []).getD 3 0) ((fs.getD k []).getD 4 0) ((fs.getD k []).getD 5 0) ((fs.getD k []).getD 6 0) ((fs.getD k []).getD 7 0) ((fs.getD k []).getD 8 0) ((fs.getD k []).getD 9 0) w' fb.1 (by omega) (by omega) (by omega))
      rw [← fb.2.2.2.2.2.2.2] at FO
      have hU := openL_bd (fs.getD k [])
      have gs := GS.out k hlt
      have gb := GB.out k hk
      have y1 : decide ((k : Int) < (fs.length : Int)) = true := decide_eq_true (by omega)
      have i0 : (0 : Int) ≤ (k : Int) := by omega
      have i1 : (k : Int) < (fs.length : Int) := by omega
      have m0 : IntKind.i64.wrap ((k : Int) + 1) = (k : Int) + 1 := IntWalk.i64_in _ (by omega)
      clear fb hf
      by_cases hp : (fs.getD k []).getD 2 0 = (p : Int)
      · rw [if_pos hp] at gs
        have q1 : ((fs.getD k []).getD 2 0 == (p : Int)) = true := beq_iff_eq.2 hp
        clear hp
        generalize (fs.getD k []).getD 0 0 = z0 at *
        generalize (fs.getD k []).getD 1 0 = z1 at *
        generalize (fs.getD k []).getD 2 0 = z2 at *
        generalize (fs.getD k []).getD 3 0 = z3 at *
        generalize (fs.getD k []).getD 4 0 = z4 at *
        generalize (fs.getD k []).getD 5 0 = z5 at *
        generalize (fs.getD k []).getD 6 0 = z6 at *
        generalize (fs.getD k []).getD 7 0 = z7 at *
        generalize (fs.getD k []).getD 8 0 = z8 at *
        generalize (fs.getD k []).getD 9 0 = z9 at *
        generalize openL (fs.getD k []) = U at *
        have m1 : IntKind.i64.wrap (ptyG 2 fs p k + U) = ptyG 2 fs p k + U := IntWalk.i64_in _ (by omega)
        have S := Lib.hid gs
        clear gs gb hU
        generalize ptyG 2 fs p k = A at *
        go_wp2_with (go_at_call 10; (with_reducible refine (FO.out _).mono ?_); rintro z w6 ⟨rfl, kk⟩; have HK := Lib.hid (ktr HK.out kk); clear kk)
        go_roundw
        case rel => exact ⟨k + 1, by omega, by rw [S.out], by go_num, HK.out⟩
        case measure => simp [intOf]; omega
      · rw [if_neg hp, Int.add_zero] at gs
        have q1 : ((fs.getD k []).getD 2 0 == (p : Int)) = false := beq_eq_false_iff_ne.2 hp
        clear hp
        generalize (fs.getD k []).getD 0 0 = z0 at *
        generalize (fs.getD k []).getD 1 0 = z1 at *
        generalize (fs.getD k []).getD 2 0 = z2 at *
        generalize (fs.getD k []).getD 3 0 = z3 at *
        generalize (fs.getD k []).getD 4 0 = z4 at *
        generalize (fs.getD k []).getD 5 0 = z5 at *
        generalize (fs.getD k []).getD 6 0 = z6 at *
        generalize (fs.getD k []).getD 7 0 = z7 at *
        generalize (fs.getD k []).getD 8 0 = z8 at *
        generalize (fs.getD k []).getD 9 0 = z9 at *
        have S := Lib.hid gs
        clear gs gb hU
        generalize ptyG 2 fs p k = A at *
        go_wp2
        go_roundw
        case rel => exact ⟨k + 1, by omega, by rw [S.out], by go_num, HK.out⟩
        case measure => simp [intOf]; omega
    · have hkl : k = fs.length := by omega
      have y1 : decide ((k : Int) < (fs.length : Int)) = false := decide_eq_false (by omega)
      have HE : Hid (ptyG 2 fs p k = R) := by unfold Hid; rw [hkl]; exact HRR.out
      generalize ptyG 2 fs p k = A at *
      go_wp2
      go_ret
      exact ⟨ret_int HE.out, HK.out⟩

theorem rprc_run (p : Int) (w : World) : Calls Try.prog 34 #[.int .i64 p] w fun e w' => e = .returned (.int .i64 (if prcB p = true then 0 else 3)) ∧ w = w' := by
  have BT := Lib.hid (fun w => rbt_any p 0 1099511627776 (prcB p) rfl w)
  cases hb : prcB p with
  | true =>
    rw [hb] at BT
    rw [if_pos rfl]
    go_enter Try.func34, Try.ntmps34
    go_wp2_with (go_at_call 30; (with_reducible refine (BT.out _).mono ?_); rintro x w3 ⟨rfl, rfl⟩)
    go_ret
    exact ⟨rfl, rfl⟩
  | false =>
    rw [hb] at BT
    rw [if_neg (by decide)]
    go_enter Try.func34, Try.ntmps34
    go_wp2_with (go_at_call 30; (with_reducible refine (BT.out _).mono ?_); rintro x w3 ⟨rfl, rfl⟩)
    go_ret
    exact ⟨rfl, rfl⟩
set_option maxHeartbeats 2000000 in
theorem rprs_run (v : Value) (ps : List Int) (w : World) (hr : Reads w v ps) : Calls Try.prog 13 #[v] w fun e w' => e = .returned (.int .i64 (prsE ps)) ∧ w = w' := by
  obtain ⟨a, cap, rfl, hm, hc⟩ := hr
  unfold maxLen at hm
  have HC := Lib.hid hc
  obtain ⟨n, hn⟩ : ∃ n, n = ps.length := ⟨_, rfl⟩
  by_cases h6 : ps.length = 20
  · have HX : Hid (prsE ps = prsL (ps.drop 0)) := by unfold Hid prsE; rw [if_pos h6]; rfl
    have DR := Lib.hid (fun k (h : k < ps.length) => drop_atI h)
    have DA : Hid (ps.drop n = []) := by unfold Hid; rw [hn, List.drop_length]
    rw [← hn] at HC hm h6 DR ⊢
    have y1 : ((n : Int) != 20) = false := by rw [h6]; rfl
    have H6 : Hid (n = 20) := h6
    clear hc hn h6
    go_enter Try.func13, Try.ntmps13
    go_wp2
    go_loop [3] (fun ii => ∃ k : Nat, k ≤ n ∧ ii = .int .i64 (k : Int) ∧ Hid (prsE ps = prsL (ps.drop k))) (fun ii => n - (intOf ii).toNat)
    case atStart => exact ⟨0, Nat.zero_le _, rfl, HX.out⟩
    case round =>
      obtain ⟨k, hk, rfl, HE⟩ := hrel
      by_cases hlt : k < n
      · obtain ⟨g, off, rfl, c0⟩ := HC.out k hlt
        have he := HE.out
        rw [DR.out k hlt] at he
        unfold prsL at he
        have y2 : decide ((k : Int) < (n : Int)) = true := decide_eq_true (by omega)
        have i0 : (0 : Int) ≤ (k : Int) := by omega
        have m0 : IntKind.i64.wrap ((k : Int) + 1) = (k : Int) + 1 := IntWalk.i64_in _ (by have := H6.out; omega)
        clear HE
        generalize ps.getD k 0 = p at *
        have PC := Lib.hid (fun w' => rprc_run p w')
        by_cases hp : prcB p = true
        · rw [if_pos hp] at he PC
          have HE2 := Lib.hid he
          clear he hp
          go_wp2_with (go_at_call 34; (with_reducible refine (PC.out _).mono ?_); rintro x w2 ⟨rfl, rfl⟩)
          go_round
          case rel => exact ⟨k + 1, by omega, by go_num, HE2.out⟩
          case measure => simp [intOf]; omega
        · rw [if_neg hp] at he PC
          have HE2 := Lib.hid he
          clear he hp
          go_wp2_with (go_at_call 34; (with_reducible refine (PC.out _).mono ?_); rintro x w2 ⟨rfl, rfl⟩)
          go_ret
          exact ⟨ret_int HE2.out.symm, rfl⟩
      · obtain rfl : k = n := by omega
        rw [DA.out] at HE
        have y2 : decide ((k : Int) < (k : Int)) = false := decide_eq_false (by omega)
        go_wp2
        go_ret
        exact ⟨ret_int HE.out.symm, rfl⟩
  · have HX : Hid (prsE ps = 1) := by unfold Hid prsE; rw [if_neg h6]
    rw [← hn] at HC hm h6 ⊢
    have y1 : ((n : Int) != 20) = true := bne_iff_ne.2 (by omega)
    clear hc hn
    go_enter Try.func13, Try.ntmps13
    go_wp2
    go_ret
    exact ⟨ret_int HX.out.symm, rfl⟩

end Go.Proofs.Ytagmgpdgiphhbaa

-- RefRep3
namespace Go.Proofs.Ytagmgpdgiphhbaa
open Go.RowKit
set_option linter.unusedVariables false

/-- the fail at a place has been taken in the first r rounds -/
def usdB (qs fs : List (List Int)) (r j : Nat) : Bool := (qs.take r).any fun a => a.getD 0 0 == (fs.getD j []).getD 0 0
def cnd (qs fs : List (List Int)) (r j : Nat) : Prop := usdB qs fs r j = false ∧ 0 < openL (fs.getD j [])
theorem ahd_trans {x y z : List Int} (h1 : ahdW x y) (h2 : ahdW y z) : ahdW x z := by unfold ahdW at *; omega
/-- what the order has: all that are open, each once, in order -/
structure QsOk (ps : List Int) (fs qs : List (List Int)) : Prop where
  mem : ∀ a, a ∈ qs ↔ ∃ j, j < fs.length ∧ 0 < openL (fs.getD j []) ∧ a = wortL ps (fs.getD j [])
  nod : (qs.map fun a => a.getD 0 0).Nodup
  srt : qs.Pairwise (fun x y => ¬ ahdW y x)
  ids : (idsOf fs).Nodup
theorem qs_ok {ps : List Int} {fs : List (List Int)} (h : checksE fs = 0) : QsOk ps fs (qsO ps fs) := by
  obtain ⟨hp, hs⟩ := qsO_is ps fs
  have hn := checks_nodup h
  refine ⟨fun a => ?_, ?_, hs, hn⟩
  · rw [hp.mem_iff]
    unfold wortT
    constructor
    · intro ha
      obtain ⟨x, hx, rfl⟩ := List.mem_map.1 ha
      exact ⟨x.1, x.2, (opn_mem x).1 hx, rfl⟩
    · rintro ⟨j, hj, ho, rfl⟩
      exact List.mem_map.2 ⟨⟨j, hj⟩, (opn_mem ⟨j, hj⟩).2 ho, rfl⟩
  · have e : ((wortT ps fs (opn fs fs.length)).map fun a => a.getD 0 0) = (opn fs fs.length).map fun x : Fin fs.length => (fs.getD x.1 []).getD 0 0 := by
      unfold wortT; rw [List.map_map]; rfl
    have hnd : ((opn fs fs.length).map fun x : Fin fs.length => (fs.getD x.1 []).getD 0 0).Nodup := by
      have hsub : (opn fs fs.length).Sublist (List.finRange fs.length) := by
        unfold opn
        exact (List.filter_sublist).trans (List.take_sublist _ _)
      have e2 : (List.finRange fs.length).map (fun x : Fin fs.length => (fs.getD x.1 []).getD 0 0) = idsOf fs := by
        unfold idsOf
        apply List.ext_getElem
        · simp
        · intro i h1 h2
          have hi : i < fs.length := by simpa using h2
          simp only [List.getElem_map, List.getElem_finRange]
          rw [List.getD_eq_getElem?_getD (l := fs)]
          simp [hi]
      have := (hsub.map fun x : Fin fs.length => (fs.getD x.1 []).getD 0 0).nodup (by rw [e2]; exact hn)
      exact this
    exact (hp.map fun a => a.getD 0 0).nodup_iff.2 (by rw [e]; exact hnd)
theorem usd_at {ps : List Int} {fs qs : List (List Int)} (Q : QsOk ps fs qs) {r j t : Nat} (hj : j < fs.length) (ht : t < qs.length) (e : qs.getD t [] = wortL ps (fs.getD j [])) (hu : usdB qs fs r j = false) : r ≤ t := by
  rcases Nat.lt_or_ge t r with h | h
  · exfalso
    have : usdB qs fs r j = true := by
      unfold usdB
      rw [List.any_eq_true]
      refine ⟨qs.getD t [], ?_, ?_⟩
      · have h1 : (qs.take r)[t]? = some (qs.getD t []) := by
          rw [List.getElem?_take_of_lt h, List.getElem?_eq_getElem ht, List.getD_eq_getElem?_getD, List.getElem?_eq_getElem ht]; rfl
        exact List.mem_of_getElem? h1
      · rw [e]; simp [wortL]
    rw [this] at hu
    cases hu
  · exact h
theorem cnd_of {ps : List Int} {fs qs : List (List Int)} (Q : QsOk ps fs qs) {r : Nat} (hr : r < qs.length) : ∃ x, x < fs.length ∧ cnd qs fs r x ∧ qs.getD r [] = wortL ps (fs.getD x []) := by
  have hm : qs.getD r [] ∈ qs := getF_mem hr
  obtain ⟨x, hx, ho, e⟩ := (Q.mem _).1 hm
  refine ⟨x, hx, ⟨?_, ho⟩, e⟩
  cases hb : usdB qs fs r x with
  | false => rfl
  | true =>
    exfalso
    unfold usdB at hb
    rw [List.any_eq_true] at hb
    obtain ⟨a, ha, hae⟩ := hb
    obtain ⟨s, hs, es⟩ := List.mem_iff_getElem.1 ha
    have hs' : s < r := by rw [List.length_take] at hs; omega
    rw [List.getElem_take] at es
    have hid : (qs.getD r []).getD 0 0 = a.getD 0 0 := by
      rw [e]; have := beq_iff_eq.1 hae; rw [this]; rfl
    have h1 : (qs.map fun a => a.getD 0 0)[s]'(by simp; omega) = (qs.map fun a => a.getD 0 0)[r]'(by simpa using hr) := by
      rw [List.getElem_map, List.getElem_map, es, ← hid, List.getD_eq_getElem?_getD (l := qs), List.getElem?_eq_getElem hr]; rfl
    exact (List.pairwise_iff_getElem.1 Q.nod) s r (by simp; omega) (by simpa using hr) hs' h1
theorem pick_ok {ps : List Int} {fs qs : List (List Int)} (Q : QsOk ps fs qs) {r b : Nat} (hb : b < fs.length) (hc : cnd qs fs r b) (hmin : ∀ j, j < fs.length → cnd qs fs r j → ¬ ahdW (wortL ps (fs.getD j [])) (wortL ps (fs.getD b []))) : r < qs.length ∧ qs.getD r [] = wortL ps (fs.getD b []) := by
  obtain ⟨t, ht, et⟩ := List.mem_iff_getElem.1 ((Q.mem _).2 ⟨b, hb, hc.2, rfl⟩)
  have et' : qs.getD t [] = wortL ps (fs.getD b []) := by rw [List.getD_eq_getElem?_getD, List.getElem?_eq_getElem ht]; exact et
  have hrt := usd_at Q hb ht et' hc.1
  refine ⟨by omega, ?_⟩
  rcases Nat.eq_or_lt_of_le hrt with e | e
  · rw [e]; exact et'
  · have hr : r < qs.length := by omega
    obtain ⟨x, hx, hcx, ex⟩ := cnd_of Q hr
    have n1 := hmin x hx hcx
    have n2 := (List.pairwise_iff_getElem.1 Q.srt) r t hr ht e
    rw [et] at n2
    have er : qs[r] = wortL ps (fs.getD x []) := by rw [← ex, List.getD_eq_getElem?_getD, List.getElem?_eq_getElem hr]; rfl
    rw [er] at n2
    rw [ex]
    unfold ahdW wortL at n1 n2
    simp only [List.getD_cons_succ, List.getD_cons_zero] at n1 n2
    unfold wortL
    have e1 : (fs.getD x []).getD 0 0 = (fs.getD b []).getD 0 0 := by omega
    have e2 : openL (fs.getD x []) * ps.getD ((fs.getD x []).getD 4 0 - 1).toNat 0 / 10000 = openL (fs.getD b []) * ps.getD ((fs.getD b []).getD 4 0 - 1).toNat 0 / 10000 := by omega
    rw [e1, e2]
theorem none_ok {ps : List Int} {fs qs : List (List Int)} (Q : QsOk ps fs qs) {r : Nat} (hr : r ≤ qs.length) (h : ∀ j, j < fs.length → ¬ cnd qs fs r j) : r = qs.length := by
  rcases Nat.eq_or_lt_of_le hr with e | e
  · exact e
  · obtain ⟨x, hx, hc, -⟩ := cnd_of Q e
    exact absurd hc (h x hx)
theorem usd_s {ps : List Int} {fs qs : List (List Int)} (Q : QsOk ps fs qs) {r b : Nat} (hr : r < qs.length) (hb : b < fs.length) (e : qs.getD r [] = wortL ps (fs.getD b [])) (j : Nat) (hj : j < fs.length) : usdB qs fs (r + 1) j = if j = b then true else usdB qs fs r j := by
  have eg : qs.getD r [] = qs[r] := by rw [List.getD_eq_getElem?_getD, List.getElem?_eq_getElem hr]; rfl
  have e1 : usdB qs fs (r + 1) j = (usdB qs fs r j || (qs.getD r []).getD 0 0 == (fs.getD j []).getD 0 0) := by
    unfold usdB
    rw [List.take_succ_eq_append_getElem hr, List.any_append, ← eg]
    simp
  rw [e1, e]
  have hid : (wortL ps (fs.getD b [])).getD 0 0 = (fs.getD b []).getD 0 0 := rfl
  rw [hid]
  by_cases h : j = b
  · subst h; rw [if_pos rfl]; simp
  · rw [if_neg h]
    have : ((fs.getD b []).getD 0 0 == (fs.getD j []).getD 0 0) = false := by
      rw [beq_eq_false_iff_ne]
      intro h'
      have hx := idxF_at Q.ids (k := 0) hb
      have hy := idxF_at Q.ids (k := 0) hj
      rw [h', hy] at hx
      omega
    rw [this, Bool.or_false]
def slN : Value → Int
  | .slice _ n _ => (n : Int)
  | _ => 0
/-- the best of the first k that are left -/
def BestR (ps : List Int) (qs fs : List (List Int)) (r k : Nat) (bv : Value) : Prop := (bv = .int .i64 (-1) ∧ ∀ j, j < k → ¬ cnd qs fs r j) ∨ ∃ b : Nat, b < k ∧ bv = .int .i64 (b : Int) ∧ cnd qs fs r b ∧ ∀ j, j < k → cnd qs fs r j → ¬ ahdW (wortL ps (fs.getD j [])) (wortL ps (fs.getD b []))
theorem best_skip {ps : List Int} {qs fs : List (List Int)} {r k : Nat} {bv : Value} (h : BestR ps qs fs r k bv) (hn : ¬ cnd qs fs r k) : BestR ps qs fs r (k + 1) bv := by
  rcases h with ⟨e, h⟩ | ⟨b, hb, e, hc, h⟩
  · refine .inl ⟨e, fun j hj => ?_⟩
    rcases Nat.eq_or_lt_of_le (Nat.le_of_lt_succ hj) with rfl | hj
    · exact hn
    · exact h j hj
  · refine .inr ⟨b, by omega, e, hc, fun j hj hcj => ?_⟩
    rcases Nat.eq_or_lt_of_le (Nat.le_of_lt_succ hj) with rfl | hj
    · exact absurd hcj hn
    · exact h j hj hcj
theorem best_first {ps : List Int} {qs fs : List (List Int)} {r k : Nat} (h : ∀ j, j < k → ¬ cnd qs fs r j) (hc : cnd qs fs r k) : BestR ps qs fs r (k + 1) (.int .i64 (k : Int)) := by
  refine .inr ⟨k, by omega, rfl, hc, fun j hj hcj => ?_⟩
  rcases Nat.eq_or_lt_of_le (Nat.le_of_lt_succ hj) with rfl | hj
  · unfold ahdW; omega
  · exact absurd hcj (h j hj)
theorem best_new {ps : List Int} {qs fs : List (List Int)} {r k b : Nat} (h : ∀ j, j < k → cnd qs fs r j → ¬ ahdW (wortL ps (fs.getD j [])) (wortL ps (fs.getD b []))) (hc : cnd qs fs r k) (ha : ahdW (wortL ps (fs.getD k [])) (wortL ps (fs.getD b []))) : BestR ps qs fs r (k + 1) (.int .i64 (k : Int)) := by
  refine .inr ⟨k, by omega, rfl, hc, fun j hj hcj => ?_⟩
  rcases Nat.eq_or_lt_of_le (Nat.le_of_lt_succ hj) with rfl | hj
  · unfold ahdW; omega
  · exact fun h' => h j hj hcj (ahd_trans h' ha)
theorem best_old {ps : List Int} {qs fs : List (List Int)} {r k b : Nat} (hb : b < k) (hcb : cnd qs fs r b) (h : ∀ j, j < k → cnd qs fs r j → ¬ ahdW (wortL ps (fs.getD j [])) (wortL ps (fs.getD b []))) (ha : ¬ ahdW (wortL ps (fs.getD k [])) (wortL ps (fs.getD b []))) : BestR ps qs fs r (k + 1) (.int .i64 (b : Int)) := by
  refine .inr ⟨b, by omega, rfl, hcb, fun j hj hcj => ?_⟩
  rcases Nat.eq_or_lt_of_le (Nat.le_of_lt_succ hj) with rfl | hj
  · exact ha
  · exact h j hj hcj
theorem ahd_iff {ps k b : List Int} : ahdW (wortL ps k) (wortL ps b) ↔ worL ps b < worL ps k ∨ (worL ps k = worL ps b ∧ k.getD 0 0 < b.getD 0 0) := Iff.rfl
theorem own_away {w : World} {base : Nat} {e : TypeId} {size : Nat} {v : Value} {n : Nat} {xs : List Value} (h : w.ownsRow base e size v n xs) {p : Addr} (hp : p.block < base) (u : Value) : (w.setCell p u).ownsRow base e size v n xs := by
  obtain ⟨h1, h2⟩ := h
  refine ⟨h1, ?_⟩
  rcases h2 with h2 | ⟨g, cap, cur, rfl, hg, hh, r⟩
  · exact .inl h2
  · exact .inr ⟨g, cap, cur, rfl, hg, (Below.heap_setCell w p u g (by omega)).trans hh, r⟩
theorem wp_append1g {ops : Array Oper} {rest : List Oper} {o : Oper} {a : Act} {Q : Exit → Act → World → Prop} (hgd : o.guard = none) (s x : Operand)
    (ho : o.op = .call { callee := .builtin .append, args := #[s, x], argTypes := #[22, 22] })
    (base : Nat) (v : Value) (zs : List Int) (z : Int) (w : World) (g : Nat) (hg : w.heap.size = g) (hs : a.eval s = v) (hown : Owns w base v zs) (hx : a.eval x = .slice (some ⟨g, 0, none⟩) 1 1)
    (hlen : zs.length + 1 ≤ 1000000) (hbase : base ≤ w.heap.size)
    (h : ∀ v' w', Owns w' base v' (zs ++ [z]) → Below base w w' → wpList Try.prog ops Q rest (a.put o.dst v') w') : wpList Try.prog ops Q (o :: rest) a (w.alloc (.cells #[.int .i64 z] 3)) := by
  subst hg
  exact wp_append1 hgd s x ho base v zs z w hs hown hx hlen hbase h
theorem usd_0 (qs fs : List (List Int)) (j : Nat) : usdB qs fs 0 j = false := rfl

set_option maxRecDepth 100000 in
set_option maxHeartbeats 16000000 in
theorem rtp_run (m : Int) (a a3 : Option Addr) (cap n3 cap3 : Nat) (ps : List Int) (fs qs : List (List Int)) (w : World) (hF : ReadsF w (.slice a fs.length cap) fs) (hP : Reads w (.slice a3 n3 cap3) ps) (hm0 : 0 ≤ m) (hm1 : m ≤ 60)
    (h20 : ps.length = 20) (hpr : ∀ j, j < 20 → 0 ≤ ps.getD j 0 ∧ ps.getD j 0 ≤ 1099511627776) (h60 : fs.length ≤ 60) (hfl : ∀ l ∈ fs, failEL l = 0) (Q : QsOk ps fs qs) :
    Calls Try.prog 14 #[.slice a fs.length cap, .slice a3 n3 cap3, .int .i64 m] w fun e w' => ∃ v, e = .returned v ∧ Reads w' v (topN qs m) ∧ Kpt w w' := by
  have HF := Lib.hid hF
  have HPV := Lib.hid hP
  have H20 := Lib.hid h20
  have HPR := Lib.hid hpr
  have HFL := Lib.hid hfl
  have HQ := Lib.hid Q
  obtain ⟨a2, cap2, e, hm, -, hcl⟩ := hF
  injection e with e1 _ e3
  subst e1 e3
  have HC := Lib.hid hcl
  unfold maxLen at hm
  have MK := run_falses w fs.length (by omega)
  have OB0 : Hid (OwnB (w.alloc (.cells (Array.replicate fs.length (Value.bool false)) 4)) w.heap.size fs.length (usdB qs fs 0)) := (OwnB.made w fs.length).to (fun j _ => rfl)
  have KB : Hid (Kpt w (w.alloc (.cells (Array.replicate fs.length (Value.bool false)) 4))) := (Kpt.refl w).alloc _
  have RI : Hid (∀ r, r < qs.length → (qs.take (r + 1)).map (fun l => l.getD 0 0) = (qs.take r).map (fun l => l.getD 0 0) ++ [(qs.getD r []).getD 0 0]) := fun r h => ids_s h
  have mixed : Try.prog.follows .mixedOrders = true := by kernel_rfl
  clear hcl h20 hpr hfl hP Q
  go_enter Try.func14, Try.ntmps14
  go_wp2
  go_loopw [7] (fun ov wr => ∃ r : Nat, r ≤ qs.length ∧ (r : Int) ≤ m ∧ Hid (Owns wr (w.heap.size + 1) ov ((qs.take r).map fun l => l.getD 0 0)) ∧ Hid (OwnB wr w.heap.size fs.length (usdB qs fs r)) ∧ Hid (Kpt w wr)) (fun ov wr => (m - slN ov).toNat)
  case atStart => exact ⟨0, Nat.zero_le _, by omega, ⟨rfl, .inl ⟨rfl, rfl⟩⟩, OB0.out, KB.out⟩
  case round =>
    obtain ⟨r, hr, hrm, HO, HU, HK⟩ := hrel
    have hlen : ((qs.take r).map fun l => l.getD 0 0).length = r := by rw [List.length_map, List.length_take]; omega
    obtain ⟨ao, co, rfl, hro⟩ := HO.out.reads
    rw [hlen] at HO hro ⊢
    have HRO := Lib.hid hro
    have HLN := Lib.hid hlen
    clear hro hlen
    rename World => w4
    by_cases hlt : (r : Int) < m
    · have y1 : decide ((r : Int) < m) = true := decide_eq_true hlt
      go_wp2
      go_loopw [9, 10] (fun bv iv wr2 => ∃ k : Nat, k ≤ fs.length ∧ iv = .int .i64 (k : Int) ∧ Hid (BestR ps qs fs r k bv) ∧ Hid (Kpt w4 wr2)) (fun bv iv _ => fs.length - (intOf iv).toNat)
      case atStart => exact ⟨0, Nat.zero_le _, rfl, .inl ⟨rfl, fun j hj => absurd hj (Nat.not_lt_zero j)⟩, Kpt.refl _⟩
      case round =>
        obtain ⟨k, hk, rfl, HB, HK2⟩ := hrel
        by_cases hkx : k < fs.length
        · obtain ⟨g, off, rfl, hf⟩ := HC.out k hkx
          have KC : Hid (Kpt w wr) := ktr HK.out HK2.out
          have cu := HU.out.kpt HK2.out |>.cell hkx
          have fb := fail_bd (HFL.out _ (getF_mem hkx))
          have y2 : decide ((k : Int) < (fs.length : Int)) = true := decide_eq_true (by omega)
          have i0 : (0 : Int) ≤ (k : Int) := by omega
          have i1 : (k : Int) < (fs.length : Int) := by omega
          have m0 : IntKind.i64.wrap ((k : Int) + 1) = (k : Int) + 1 := IntWalk.i64_in _ (by omega)
          have hU := openL_bd (fs.getD k [])
          cases hub : usdB qs fs r k with
          | true =>
            rw [hub] at cu
            have HB2 := Lib.hid (best_skip HB.out (fun h => by rw [h.1] at hub; cases hub))
            clear hub fb hf hU
            go_wp2
            go_roundw
            case rel => exact ⟨k + 1, by omega, by go_num, HB2.out, HK2.out⟩
            case measure => simp [intOf]; omega
          | false =>
            rw [hub] at cu
            have FL := Lib.hid (fun w' (kq : Kpt w w') => fl10 hf kq)
            have FO := Lib.hid (fun w' => rfo_run ((fs.getD k []).getD 0 0) ((fs.getD k []).getD 1 0) ((fs.getD k []).getD 2 0) ((fs.getD k []).getD 3 0) ((fs.getD k []).getD 4 0) ((fs.getD k []).getD 5 0) ((fs.getD k []).getD 6 0) ((fs.getD k []).getD 7 0) ((fs.getD k []).getD 8 0) ((fs.getD k []).getD 9 0) w' fb.1 (by omega) (by omega) (by omega))
            rw [← fb.2.2.2.2.2.2.2] at FO
            obtain ⟨c0, c1, c2, c3, c4, c5, c6, c7, c8, c9⟩ := FL.out _ KC.out
            by_cases hu : openL (fs.getD k []) = 0
            · have q1 : (openL (fs.getD k []) == 0) = true := beq_iff_eq.2 hu
              have HB2 := Lib.hid (best_skip HB.out (fun h => by have := h.2; omega))
              clear hub fb hf hU hu
              generalize (fs.getD k []).getD 0 0 = x0 at *
              generalize (fs.getD k []).getD 1 0 = x1 at *
              generalize (fs.getD k []).getD 2 0 = x2 at *
              generalize (fs.getD k []).getD 3 0 = x3 at *
              generalize (fs.getD k []).getD 4 0 = x4 at *
              generalize (fs.getD k []).getD 5 0 = x5 at *
              generalize (fs.getD k []).getD 6 0 = x6 at *
              generalize (fs.getD k []).getD 7 0 = x7 at *
              generalize (fs.getD k []).getD 8 0 = x8 at *
              generalize (fs.getD k []).getD 9 0 = x9 at *
              generalize openL (fs.getD k []) = U at *
              go_wp2_with (go_at_call 10; (with_reducible refine (FO.out _).mono ?_); rintro z w6 ⟨rfl, kk⟩; have HK6 := Lib.hid (ktr HK2.out kk); clear kk)
              go_roundw
              case rel => exact ⟨k + 1, by omega, by go_num, HB2.out, HK6.out⟩
              case measure => simp [intOf]; omega
            · have q1 : (openL (fs.getD k []) == 0) = false := beq_eq_false_iff_ne.2 hu
              have hcd : cnd qs fs r k := ⟨hub, by omega⟩
              have WI0 := Lib.hid (fun w' (kq : Kpt w w') => wor_run (fs.getD k []) ps (.slice a3 n3 cap3) w' (HFL.out _ (getF_mem hkx)) H20.out HPR.out (HPV.out.kpt kq))
              unfold flC at WI0
              change Hid (∀ w', Kpt w w' → Calls Try.prog 35 _ w' fun e w'' => e = .returned (.int .i64 (worL ps (fs.getD k []))) ∧ Kpt w' w'') at WI0
              clear hub fb hf hU hu
              rcases HB.out with ⟨rfl, hbn⟩ | ⟨b, hb, rfl, hcb, hbm⟩
              · have HB2 := Lib.hid (best_first (ps := ps) hbn hcd)
                clear hbn hcd
                generalize (fs.getD k []).getD 0 0 = x0 at *
                generalize (fs.getD k []).getD 1 0 = x1 at *
                generalize (fs.getD k []).getD 2 0 = x2 at *
                generalize (fs.getD k []).getD 3 0 = x3 at *
                generalize (fs.getD k []).getD 4 0 = x4 at *
                generalize (fs.getD k []).getD 5 0 = x5 at *
                generalize (fs.getD k []).getD 6 0 = x6 at *
                generalize (fs.getD k []).getD 7 0 = x7 at *
                generalize (fs.getD k []).getD 8 0 = x8 at *
                generalize (fs.getD k []).getD 9 0 = x9 at *
                generalize openL (fs.getD k []) = U at *
                generalize worL ps (fs.getD k []) = WK at *
                clear WI0 FL HC HF HPV H20 HPR HFL HQ RI HRO HLN HO OB0 KB MK i0 m0
                go_upto_region 9 with (go_at_call 10; (with_reducible refine (FO.out _).mono ?_); rintro z w6 ⟨rfl, kk⟩; have HK6 := Lib.hid (ktr HK2.out kk); have KC6 := Lib.hid (ktr KC.out kk); clear kk)
                clear c0 c1 c2 c3 c4 c5 c6 c7 c8 c9 FO cu KC KC6 q1
                refine quiet_k (q := w6) mixed (by kernel_rfl) ?_
                repeat (go_big_quiet_step (fail))
                refine wpQuiet_nil ?_
                intro w8 hw1
                obtain ⟨⟨wz, kz⟩, hw2⟩ := hw1
                have hw3 : w8 = wz := hw2
                clear hw2
                subst hw3
                have HKz := Lib.hid (ktr HK6.out kz)
                clear kz
                go_wp2
                go_roundw
                case rel => exact ⟨k + 1, by omega, by go_num, HB2.out, HKz.out⟩
                case measure => simp [intOf]; omega
              · have hbk : b < fs.length := by omega
                obtain ⟨g', off', e', hfb⟩ := HC.out b hbk
                injection e' with e'
                injection e' with e1' e2' _
                subst e1' e2'
                have FLB := Lib.hid (fun w' (kq : Kpt w w') => fl10 hfb kq)
                have WB0 := Lib.hid (fun w' (kq : Kpt w w') => wor_run (fs.getD b []) ps (.slice a3 n3 cap3) w' (HFL.out _ (getF_mem hbk)) H20.out HPR.out (HPV.out.kpt kq))
                unfold flC at WB0
                change Hid (∀ w', Kpt w w' → Calls Try.prog 35 _ w' fun e w'' => e = .returned (.int .i64 (worL ps (fs.getD b []))) ∧ Kpt w' w'') at WB0
                have j0 : (0 : Int) ≤ (b : Int) := by omega
                have j1 : (b : Int) < (fs.length : Int) := by omega
                have j2 : decide ((b : Int) < 0) = false := decide_eq_false (by omega)
                clear hfb
                by_cases hv : worL ps (fs.getD b []) < worL ps (fs.getD k [])
                · skip
                  have HB2 := Lib.hid (best_new hbm hcd (ahd_iff.2 (.inl hv)))
                  have t1 : decide (worL ps (fs.getD b []) < worL ps (fs.getD k [])) = true := decide_eq_true hv
                  clear hv
                  clear hbm hcb hcd hbk
                  generalize openL (fs.getD k []) = U at *
                  generalize worL ps (fs.getD k []) = WK at *
                  generalize worL ps (fs.getD b []) = WB at *
                  generalize (fs.getD k []).getD 0 0 = x0 at *
                  generalize (fs.getD k []).getD 1 0 = x1 at *
                  generalize (fs.getD k []).getD 2 0 = x2 at *
                  generalize (fs.getD k []).getD 3 0 = x3 at *
                  generalize (fs.getD k []).getD 4 0 = x4 at *
                  generalize (fs.getD k []).getD 5 0 = x5 at *
                  generalize (fs.getD k []).getD 6 0 = x6 at *
                  generalize (fs.getD k []).getD 7 0 = x7 at *
                  generalize (fs.getD k []).getD 8 0 = x8 at *
                  generalize (fs.getD k []).getD 9 0 = x9 at *
                  generalize (fs.getD b []).getD 0 0 = y0 at *
                  generalize (fs.getD b []).getD 1 0 = y1 at *
                  generalize (fs.getD b []).getD 2 0 = y2 at *
                  generalize (fs.getD b []).getD 3 0 = y3 at *
                  generalize (fs.getD b []).getD 4 0 = y4 at *
                  generalize (fs.getD b []).getD 5 0 = y5 at *
                  generalize (fs.getD b []).getD 6 0 = y6 at *
                  generalize (fs.getD b []).getD 7 0 = y7 at *
                  generalize (fs.getD b []).getD 8 0 = y8 at *
                  generalize (fs.getD b []).getD 9 0 = y9 at *
                  clear HC HF HPV H20 HPR HFL HQ RI HRO HLN HO OB0 KB MK HB c0 c1 c2 c3 c4 c5 c6 c7 c8 c9
                  obtain ⟨c0, c1, c2, c3, c4, c5, c6, c7, c8, c9⟩ := FL.out _ KC.out
                  go_upto_region 9 with (go_at_call 10; (with_reducible refine (FO.out _).mono ?_); rintro z w6 ⟨rfl, kk⟩; have HK6 := Lib.hid (ktr HK2.out kk); have KC6 := Lib.hid (ktr KC.out kk); clear kk)
                  clear c0 c1 c2 c3 c4 c5 c6 c7 c8 c9
                  obtain ⟨c0, c1, c2, c3, c4, c5, c6, c7, c8, c9⟩ := FL.out _ KC6.out
                  obtain ⟨d0, d1, d2, d3, d4, d5, d6, d7, d8, d9⟩ := FLB.out _ KC6.out
                  have f0 := cell_k (q := w6) (a := ⟨g, off + k * 10, none⟩) (v := .int .i64 x0) c0
                  have f1 := cell_k (q := w6) (a := ⟨g, off + k * 10 + 1, none⟩) (v := .int .i64 x1) c1
                  have f2 := cell_k (q := w6) (a := ⟨g, off + k * 10 + 2, none⟩) (v := .int .i64 x2) c2
                  have f3 := cell_k (q := w6) (a := ⟨g, off + k * 10 + 3, none⟩) (v := .int .i64 x3) c3
                  have f4 := cell_k (q := w6) (a := ⟨g, off + k * 10 + 4, none⟩) (v := .int .i64 x4) c4
                  have f5 := cell_k (q := w6) (a := ⟨g, off + k * 10 + 5, none⟩) (v := .int .i64 x5) c5
                  have f6 := cell_k (q := w6) (a := ⟨g, off + k * 10 + 6, none⟩) (v := .int .i64 x6) c6
                  have f7 := cell_k (q := w6) (a := ⟨g, off + k * 10 + 7, none⟩) (v := .int .i64 x7) c7
                  have f8 := cell_k (q := w6) (a := ⟨g, off + k * 10 + 8, none⟩) (v := .int .i64 x8) c8
                  have f9 := cell_k (q := w6) (a := ⟨g, off + k * 10 + 9, none⟩) (v := .int .i64 x9) c9
                  have h0 := cell_k (q := w6) (a := ⟨g, off + b * 10, none⟩) (v := .int .i64 y0) d0
                  have h1 := cell_k (q := w6) (a := ⟨g, off + b * 10 + 1, none⟩) (v := .int .i64 y1) d1
                  have h2 := cell_k (q := w6) (a := ⟨g, off + b * 10 + 2, none⟩) (v := .int .i64 y2) d2
                  have h3 := cell_k (q := w6) (a := ⟨g, off + b * 10 + 3, none⟩) (v := .int .i64 y3) d3
                  have h4 := cell_k (q := w6) (a := ⟨g, off + b * 10 + 4, none⟩) (v := .int .i64 y4) d4
                  have h5 := cell_k (q := w6) (a := ⟨g, off + b * 10 + 5, none⟩) (v := .int .i64 y5) d5
                  have h6 := cell_k (q := w6) (a := ⟨g, off + b * 10 + 6, none⟩) (v := .int .i64 y6) d6
                  have h7 := cell_k (q := w6) (a := ⟨g, off + b * 10 + 7, none⟩) (v := .int .i64 y7) d7
                  have h8 := cell_k (q := w6) (a := ⟨g, off + b * 10 + 8, none⟩) (v := .int .i64 y8) d8
                  have h9 := cell_k (q := w6) (a := ⟨g, off + b * 10 + 9, none⟩) (v := .int .i64 y9) d9
                  have WI := Lib.hid (fun p : KptTo w6 => WI0.out p.w (ktr KC6.out p.h))
                  have WB2 := Lib.hid (fun p : KptTo w6 => WB0.out p.w (ktr KC6.out p.h))
                  clear c0 c1 c2 c3 c4 c5 c6 c7 c8 c9 d0 d1 d2 d3 d4 d5 d6 d7 d8 d9 FL FLB FO WI0 WB0 cu KC KC6 q1
                  refine quiet_k (q := w6) mixed (by kernel_rfl) ?_
                  repeat (go_big_quiet_step (first | (go_at_call 35; with_reducible refine calls_k (WI.out _)) | (go_at_call 35; with_reducible refine calls_k (WB2.out _))))
                  refine wpQuiet_nil ?_
                  intro w8 hw1
                  obtain ⟨⟨wz, kz⟩, hw2⟩ := hw1
                  have hw3 : w8 = wz := hw2
                  clear hw2
                  subst hw3
                  have HKz := Lib.hid (ktr HK6.out kz)
                  clear kz
                  go_wp2
                  go_roundw
                  case rel => exact ⟨k + 1, by omega, by go_num, HB2.out, HKz.out⟩
                  case measure => simp [intOf]; omega
                · by_cases he : worL ps (fs.getD k []) = worL ps (fs.getD b [])
                  · by_cases hi : (fs.getD k []).getD 0 0 < (fs.getD b []).getD 0 0
                    · skip
                      have HB2 := Lib.hid (best_new hbm hcd (ahd_iff.2 (.inr ⟨he, hi⟩)))
                      have t1 : decide (worL ps (fs.getD b []) < worL ps (fs.getD k [])) = false := decide_eq_false hv
                      have t2 : (worL ps (fs.getD k []) == worL ps (fs.getD b [])) = true := beq_iff_eq.2 he
                      have t3 : decide ((fs.getD k []).getD 0 0 < (fs.getD b []).getD 0 0) = true := decide_eq_true hi
                      clear hv he hi
                      clear hbm hcb hcd hbk
                      generalize openL (fs.getD k []) = U at *
                      generalize worL ps (fs.getD k []) = WK at *
                      generalize worL ps (fs.getD b []) = WB at *
                      generalize (fs.getD k []).getD 0 0 = x0 at *
                      generalize (fs.getD k []).getD 1 0 = x1 at *
                      generalize (fs.getD k []).getD 2 0 = x2 at *
                      generalize (fs.getD k []).getD 3 0 = x3 at *
                      generalize (fs.getD k []).getD 4 0 = x4 at *
                      generalize (fs.getD k []).getD 5 0 = x5 at *
                      generalize (fs.getD k []).getD 6 0 = x6 at *
                      generalize (fs.getD k []).getD 7 0 = x7 at *
                      generalize (fs.getD k []).getD 8 0 = x8 at *
                      generalize (fs.getD k []).getD 9 0 = x9 at *
                      generalize (fs.getD b []).getD 0 0 = y0 at *
                      generalize (fs.getD b []).getD 1 0 = y1 at *
                      generalize (fs.getD b []).getD 2 0 = y2 at *
                      generalize (fs.getD b []).getD 3 0 = y3 at *
                      generalize (fs.getD b []).getD 4 0 = y4 at *
                      generalize (fs.getD b []).getD 5 0 = y5 at *
                      generalize (fs.getD b []).getD 6 0 = y6 at *
                      generalize (fs.getD b []).getD 7 0 = y7 at *
                      generalize (fs.getD b []).getD 8 0 = y8 at *
                      generalize (fs.getD b []).getD 9 0 = y9 at *
                      clear HC HF HPV H20 HPR HFL HQ RI HRO HLN HO OB0 KB MK HB c0 c1 c2 c3 c4 c5 c6 c7 c8 c9
                      obtain ⟨c0, c1, c2, c3, c4, c5, c6, c7, c8, c9⟩ := FL.out _ KC.out
                      go_upto_region 9 with (go_at_call 10; (with_reducible refine (FO.out _).mono ?_); rintro z w6 ⟨rfl, kk⟩; have HK6 := Lib.hid (ktr HK2.out kk); have KC6 := Lib.hid (ktr KC.out kk); clear kk)
                      clear c0 c1 c2 c3 c4 c5 c6 c7 c8 c9
                      obtain ⟨c0, c1, c2, c3, c4, c5, c6, c7, c8, c9⟩ := FL.out _ KC6.out
                      obtain ⟨d0, d1, d2, d3, d4, d5, d6, d7, d8, d9⟩ := FLB.out _ KC6.out
                      have f0 := cell_k (q := w6) (a := ⟨g, off + k * 10, none⟩) (v := .int .i64 x0) c0
                      have f1 := cell_k (q := w6) (a := ⟨g, off + k * 10 + 1, none⟩) (v := .int .i64 x1) c1
                      have f2 := cell_k (q := w6) (a := ⟨g, off + k * 10 + 2, none⟩) (v := .int .i64 x2) c2
                      have f3 := cell_k (q := w6) (a := ⟨g, off + k * 10 + 3, none⟩) (v := .int .i64 x3) c3
                      have f4 := cell_k (q := w6) (a := ⟨g, off + k * 10 + 4, none⟩) (v := .int .i64 x4) c4
                      have f5 := cell_k (q := w6) (a := ⟨g, off + k * 10 + 5, none⟩) (v := .int .i64 x5) c5
                      have f6 := cell_k (q := w6) (a := ⟨g, off + k * 10 + 6, none⟩) (v := .int .i64 x6) c6
                      have f7 := cell_k (q := w6) (a := ⟨g, off + k * 10 + 7, none⟩) (v := .int .i64 x7) c7
                      have f8 := cell_k (q := w6) (a := ⟨g, off + k * 10 + 8, none⟩) (v := .int .i64 x8) c8
                      have f9 := cell_k (q := w6) (a := ⟨g, off + k * 10 + 9, none⟩) (v := .int .i64 x9) c9
                      have h0 := cell_k (q := w6) (a := ⟨g, off + b * 10, none⟩) (v := .int .i64 y0) d0
                      have h1 := cell_k (q := w6) (a := ⟨g, off + b * 10 + 1, none⟩) (v := .int .i64 y1) d1
                      have h2 := cell_k (q := w6) (a := ⟨g, off + b * 10 + 2, none⟩) (v := .int .i64 y2) d2
                      have h3 := cell_k (q := w6) (a := ⟨g, off + b * 10 + 3, none⟩) (v := .int .i64 y3) d3
                      have h4 := cell_k (q := w6) (a := ⟨g, off + b * 10 + 4, none⟩) (v := .int .i64 y4) d4
                      have h5 := cell_k (q := w6) (a := ⟨g, off + b * 10 + 5, none⟩) (v := .int .i64 y5) d5
                      have h6 := cell_k (q := w6) (a := ⟨g, off + b * 10 + 6, none⟩) (v := .int .i64 y6) d6
                      have h7 := cell_k (q := w6) (a := ⟨g, off + b * 10 + 7, none⟩) (v := .int .i64 y7) d7
                      have h8 := cell_k (q := w6) (a := ⟨g, off + b * 10 + 8, none⟩) (v := .int .i64 y8) d8
                      have h9 := cell_k (q := w6) (a := ⟨g, off + b * 10 + 9, none⟩) (v := .int .i64 y9) d9
                      have WI := Lib.hid (fun p : KptTo w6 => WI0.out p.w (ktr KC6.out p.h))
                      have WB2 := Lib.hid (fun p : KptTo w6 => WB0.out p.w (ktr KC6.out p.h))
                      clear c0 c1 c2 c3 c4 c5 c6 c7 c8 c9 d0 d1 d2 d3 d4 d5 d6 d7 d8 d9 FL FLB FO WI0 WB0 cu KC KC6 q1
                      refine quiet_k (q := w6) mixed (by kernel_rfl) ?_
                      repeat (go_big_quiet_step (first | (go_at_call 35; with_reducible refine calls_k (WI.out _)) | (go_at_call 35; with_reducible refine calls_k (WB2.out _))))
                      refine wpQuiet_nil ?_
                      intro w8 hw1
                      obtain ⟨⟨wz, kz⟩, hw2⟩ := hw1
                      have hw3 : w8 = wz := hw2
                      clear hw2
                      subst hw3
                      have HKz := Lib.hid (ktr HK6.out kz)
                      clear kz
                      go_wp2
                      go_roundw
                      case rel => exact ⟨k + 1, by omega, by go_num, HB2.out, HKz.out⟩
                      case measure => simp [intOf]; omega
                    · skip
                      have HB2 := Lib.hid (best_old hb hcb hbm (fun h => (ahd_iff.1 h).elim hv (fun h => hi h.2)))
                      have t1 : decide (worL ps (fs.getD b []) < worL ps (fs.getD k [])) = false := decide_eq_false hv
                      have t2 : (worL ps (fs.getD k []) == worL ps (fs.getD b [])) = true := beq_iff_eq.2 he
                      have t3 : decide ((fs.getD k []).getD 0 0 < (fs.getD b []).getD 0 0) = false := decide_eq_false hi
                      clear hv he hi
                      clear hbm hcb hcd hbk
                      generalize openL (fs.getD k []) = U at *
                      generalize worL ps (fs.getD k []) = WK at *
                      generalize worL ps (fs.getD b []) = WB at *
                      generalize (fs.getD k []).getD 0 0 = x0 at *
                      generalize (fs.getD k []).getD 1 0 = x1 at *
                      generalize (fs.getD k []).getD 2 0 = x2 at *
                      generalize (fs.getD k []).getD 3 0 = x3 at *
                      generalize (fs.getD k []).getD 4 0 = x4 at *
                      generalize (fs.getD k []).getD 5 0 = x5 at *
                      generalize (fs.getD k []).getD 6 0 = x6 at *
                      generalize (fs.getD k []).getD 7 0 = x7 at *
                      generalize (fs.getD k []).getD 8 0 = x8 at *
                      generalize (fs.getD k []).getD 9 0 = x9 at *
                      generalize (fs.getD b []).getD 0 0 = y0 at *
                      generalize (fs.getD b []).getD 1 0 = y1 at *
                      generalize (fs.getD b []).getD 2 0 = y2 at *
                      generalize (fs.getD b []).getD 3 0 = y3 at *
                      generalize (fs.getD b []).getD 4 0 = y4 at *
                      generalize (fs.getD b []).getD 5 0 = y5 at *
                      generalize (fs.getD b []).getD 6 0 = y6 at *
                      generalize (fs.getD b []).getD 7 0 = y7 at *
                      generalize (fs.getD b []).getD 8 0 = y8 at *
                      generalize (fs.getD b []).getD 9 0 = y9 at *
                      clear HC HF HPV H20 HPR HFL HQ RI HRO HLN HO OB0 KB MK HB c0 c1 c2 c3 c4 c5 c6 c7 c8 c9
                      obtain ⟨c0, c1, c2, c3, c4, c5, c6, c7, c8, c9⟩ := FL.out _ KC.out
                      go_upto_region 9 with (go_at_call 10; (with_reducible refine (FO.out _).mono ?_); rintro z w6 ⟨rfl, kk⟩; have HK6 := Lib.hid (ktr HK2.out kk); have KC6 := Lib.hid (ktr KC.out kk); clear kk)
                      clear c0 c1 c2 c3 c4 c5 c6 c7 c8 c9
                      obtain ⟨c0, c1, c2, c3, c4, c5, c6, c7, c8, c9⟩ := FL.out _ KC6.out
                      obtain ⟨d0, d1, d2, d3, d4, d5, d6, d7, d8, d9⟩ := FLB.out _ KC6.out
                      have f0 := cell_k (q := w6) (a := ⟨g, off + k * 10, none⟩) (v := .int .i64 x0) c0
                      have f1 := cell_k (q := w6) (a := ⟨g, off + k * 10 + 1, none⟩) (v := .int .i64 x1) c1
                      have f2 := cell_k (q := w6) (a := ⟨g, off + k * 10 + 2, none⟩) (v := .int .i64 x2) c2
                      have f3 := cell_k (q := w6) (a := ⟨g, off + k * 10 + 3, none⟩) (v := .int .i64 x3) c3
                      have f4 := cell_k (q := w6) (a := ⟨g, off + k * 10 + 4, none⟩) (v := .int .i64 x4) c4
                      have f5 := cell_k (q := w6) (a := ⟨g, off + k * 10 + 5, none⟩) (v := .int .i64 x5) c5
                      have f6 := cell_k (q := w6) (a := ⟨g, off + k * 10 + 6, none⟩) (v := .int .i64 x6) c6
                      have f7 := cell_k (q := w6) (a := ⟨g, off + k * 10 + 7, none⟩) (v := .int .i64 x7) c7
                      have f8 := cell_k (q := w6) (a := ⟨g, off + k * 10 + 8, none⟩) (v := .int .i64 x8) c8
                      have f9 := cell_k (q := w6) (a := ⟨g, off + k * 10 + 9, none⟩) (v := .int .i64 x9) c9
                      have h0 := cell_k (q := w6) (a := ⟨g, off + b * 10, none⟩) (v := .int .i64 y0) d0
                      have h1 := cell_k (q := w6) (a := ⟨g, off + b * 10 + 1, none⟩) (v := .int .i64 y1) d1
                      have h2 := cell_k (q := w6) (a := ⟨g, off + b * 10 + 2, none⟩) (v := .int .i64 y2) d2
                      have h3 := cell_k (q := w6) (a := ⟨g, off + b * 10 + 3, none⟩) (v := .int .i64 y3) d3
                      have h4 := cell_k (q := w6) (a := ⟨g, off + b * 10 + 4, none⟩) (v := .int .i64 y4) d4
                      have h5 := cell_k (q := w6) (a := ⟨g, off + b * 10 + 5, none⟩) (v := .int .i64 y5) d5
                      have h6 := cell_k (q := w6) (a := ⟨g, off + b * 10 + 6, none⟩) (v := .int .i64 y6) d6
                      have h7 := cell_k (q := w6) (a := ⟨g, off + b * 10 + 7, none⟩) (v := .int .i64 y7) d7
                      have h8 := cell_k (q := w6) (a := ⟨g, off + b * 10 + 8, none⟩) (v := .int .i64 y8) d8
                      have h9 := cell_k (q := w6) (a := ⟨g, off + b * 10 + 9, none⟩) (v := .int .i64 y9) d9
                      have WI := Lib.hid (fun p : KptTo w6 => WI0.out p.w (ktr KC6.out p.h))
                      have WB2 := Lib.hid (fun p : KptTo w6 => WB0.out p.w (ktr KC6.out p.h))
                      clear c0 c1 c2 c3 c4 c5 c6 c7 c8 c9 d0 d1 d2 d3 d4 d5 d6 d7 d8 d9 FL FLB FO WI0 WB0 cu KC KC6 q1
                      refine quiet_k (q := w6) mixed (by kernel_rfl) ?_
                      repeat (go_big_quiet_step (first | (go_at_call 35; with_reducible refine calls_k (WI.out _)) | (go_at_call 35; with_reducible refine calls_k (WB2.out _))))
                      refine wpQuiet_nil ?_
                      intro w8 hw1
                      obtain ⟨⟨wz, kz⟩, hw2⟩ := hw1
                      have hw3 : w8 = wz := hw2
                      clear hw2
                      subst hw3
                      have HKz := Lib.hid (ktr HK6.out kz)
                      clear kz
                      go_wp2
                      go_roundw
                      case rel => exact ⟨k + 1, by omega, by go_num, HB2.out, HKz.out⟩
                      case measure => simp [intOf]; omega
                  · skip
                    have HB2 := Lib.hid (best_old hb hcb hbm (fun h => (ahd_iff.1 h).elim hv (fun h => he h.1)))
                    have t1 : decide (worL ps (fs.getD b []) < worL ps (fs.getD k [])) = false := decide_eq_false hv
                    have t2 : (worL ps (fs.getD k []) == worL ps (fs.getD b [])) = false := beq_eq_false_iff_ne.2 he
                    clear hv he
                    clear hbm hcb hcd hbk
                    generalize openL (fs.getD k []) = U at *
                    generalize worL ps (fs.getD k []) = WK at *
                    generalize worL ps (fs.getD b []) = WB at *
                    generalize (fs.getD k []).getD 0 0 = x0 at *
                    generalize (fs.getD k []).getD 1 0 = x1 at *
                    generalize (fs.getD k []).getD 2 0 = x2 at *
                    generalize (fs.getD k []).getD 3 0 = x3 at *
                    generalize (fs.getD k []).getD 4 0 = x4 at *
                    generalize (fs.getD k []).getD 5 0 = x5 at *
                    generalize (fs.getD k []).getD 6 0 = x6 at *
                    generalize (fs.getD k []).getD 7 0 = x7 at *
                    generalize (fs.getD k []).getD 8 0 = x8 at *
                    generalize (fs.getD k []).getD 9 0 = x9 at *
                    generalize (fs.getD b []).getD 0 0 = y0 at *
                    generalize (fs.getD b []).getD 1 0 = y1 at *
                    generalize (fs.getD b []).getD 2 0 = y2 at *
                    generalize (fs.getD b []).getD 3 0 = y3 at *
                    generalize (fs.getD b []).getD 4 0 = y4 at *
                    generalize (fs.getD b []).getD 5 0 = y5 at *
                    generalize (fs.getD b []).getD 6 0 = y6 at *
                    generalize (fs.getD b []).getD 7 0 = y7 at *
                    generalize (fs.getD b []).getD 8 0 = y8 at *
                    generalize (fs.getD b []).getD 9 0 = y9 at *
                    clear HC HF HPV H20 HPR HFL HQ RI HRO HLN HO OB0 KB MK HB c0 c1 c2 c3 c4 c5 c6 c7 c8 c9
                    obtain ⟨c0, c1, c2, c3, c4, c5, c6, c7, c8, c9⟩ := FL.out _ KC.out
                    go_upto_region 9 with (go_at_call 10; (with_reducible refine (FO.out _).mono ?_); rintro z w6 ⟨rfl, kk⟩; have HK6 := Lib.hid (ktr HK2.out kk); have KC6 := Lib.hid (ktr KC.out kk); clear kk)
                    clear c0 c1 c2 c3 c4 c5 c6 c7 c8 c9
                    obtain ⟨c0, c1, c2, c3, c4, c5, c6, c7, c8, c9⟩ := FL.out _ KC6.out
                    obtain ⟨d0, d1, d2, d3, d4, d5, d6, d7, d8, d9⟩ := FLB.out _ KC6.out
                    have f0 := cell_k (q := w6) (a := ⟨g, off + k * 10, none⟩) (v := .int .i64 x0) c0
                    have f1 := cell_k (q := w6) (a := ⟨g, off + k * 10 + 1, none⟩) (v := .int .i64 x1) c1
                    have f2 := cell_k (q := w6) (a := ⟨g, off + k * 10 + 2, none⟩) (v := .int .i64 x2) c2
                    have f3 := cell_k (q := w6) (a := ⟨g, off + k * 10 + 3, none⟩) (v := .int .i64 x3) c3
                    have f4 := cell_k (q := w6) (a := ⟨g, off + k * 10 + 4, none⟩) (v := .int .i64 x4) c4
                    have f5 := cell_k (q := w6) (a := ⟨g, off + k * 10 + 5, none⟩) (v := .int .i64 x5) c5
                    have f6 := cell_k (q := w6) (a := ⟨g, off + k * 10 + 6, none⟩) (v := .int .i64 x6) c6
                    have f7 := cell_k (q := w6) (a := ⟨g, off + k * 10 + 7, none⟩) (v := .int .i64 x7) c7
                    have f8 := cell_k (q := w6) (a := ⟨g, off + k * 10 + 8, none⟩) (v := .int .i64 x8) c8
                    have f9 := cell_k (q := w6) (a := ⟨g, off + k * 10 + 9, none⟩) (v := .int .i64 x9) c9
                    have h0 := cell_k (q := w6) (a := ⟨g, off + b * 10, none⟩) (v := .int .i64 y0) d0
                    have h1 := cell_k (q := w6) (a := ⟨g, off + b * 10 + 1, none⟩) (v := .int .i64 y1) d1
                    have h2 := cell_k (q := w6) (a := ⟨g, off + b * 10 + 2, none⟩) (v := .int .i64 y2) d2
                    have h3 := cell_k (q := w6) (a := ⟨g, off + b * 10 + 3, none⟩) (v := .int .i64 y3) d3
                    have h4 := cell_k (q := w6) (a := ⟨g, off + b * 10 + 4, none⟩) (v := .int .i64 y4) d4
                    have h5 := cell_k (q := w6) (a := ⟨g, off + b * 10 + 5, none⟩) (v := .int .i64 y5) d5
                    have h6 := cell_k (q := w6) (a := ⟨g, off + b * 10 + 6, none⟩) (v := .int .i64 y6) d6
                    have h7 := cell_k (q := w6) (a := ⟨g, off + b * 10 + 7, none⟩) (v := .int .i64 y7) d7
                    have h8 := cell_k (q := w6) (a := ⟨g, off + b * 10 + 8, none⟩) (v := .int .i64 y8) d8
                    have h9 := cell_k (q := w6) (a := ⟨g, off + b * 10 + 9, none⟩) (v := .int .i64 y9) d9
                    have WI := Lib.hid (fun p : KptTo w6 => WI0.out p.w (ktr KC6.out p.h))
                    have WB2 := Lib.hid (fun p : KptTo w6 => WB0.out p.w (ktr KC6.out p.h))
                    clear c0 c1 c2 c3 c4 c5 c6 c7 c8 c9 d0 d1 d2 d3 d4 d5 d6 d7 d8 d9 FL FLB FO WI0 WB0 cu KC KC6 q1
                    refine quiet_k (q := w6) mixed (by kernel_rfl) ?_
                    repeat (go_big_quiet_step (first | (go_at_call 35; with_reducible refine calls_k (WI.out _)) | (go_at_call 35; with_reducible refine calls_k (WB2.out _))))
                    refine wpQuiet_nil ?_
                    intro w8 hw1
                    obtain ⟨⟨wz, kz⟩, hw2⟩ := hw1
                    have hw3 : w8 = wz := hw2
                    clear hw2
                    subst hw3
                    have HKz := Lib.hid (ktr HK6.out kz)
                    clear kz
                    go_wp2
                    go_roundw
                    case rel => exact ⟨k + 1, by omega, by go_num, HB2.out, HKz.out⟩
                    case measure => simp [intOf]; omega
        · have hkl : k = fs.length := by omega
          have y2 : decide ((k : Int) < (fs.length : Int)) = false := decide_eq_false (by omega)
          rw [hkl] at HB
          have KC : Hid (Kpt w wr) := ktr HK.out HK2.out
          rcases HB.out with ⟨rfl, hbn⟩ | ⟨b, hb, rfl, hcb, hbm⟩
          · have hrq := none_ok HQ.out hr hbn
            have RE : Hid (Reads wr (.slice ao r co) (topN qs m)) := by
              have h1 := HRO.out.kpt HK2.out
              have : topN qs m = (qs.take r).map fun l => l.getD 0 0 := by unfold topN; rw [List.take_of_length_le (by omega), List.take_of_length_le (by omega)]
              rw [this]; exact h1
            clear HB hbn hrq
            go_wp2
            go_ret
            exact ⟨_, rfl, RE.out, KC.out⟩
          · obtain ⟨hrq, hqe⟩ := pick_ok HQ.out hb hcb hbm
            have HUS := Lib.hid (fun j (hj : j < fs.length) => usd_s HQ.out hrq hb hqe j hj)
            have HRI := RI.out r hrq
            rw [hqe] at HRI
            change (qs.take (r + 1)).map (fun l => l.getD 0 0) = (qs.take r).map (fun l => l.getD 0 0) ++ [(fs.getD b []).getD 0 0] at HRI
            have HR2 := Lib.hid HRI
            obtain ⟨g, off, rfl, hfb⟩ := HC.out b hb
            have c0 : wr.cell? ⟨g, off + b * 10, none⟩ = some (.int .i64 ((fs.getD b []).getD 0 0)) := (hfb.kpt KC.out) 0 (by decide)
            have HU2 := Lib.hid (HU.out.kpt HK2.out)
            have cu := HU2.out.cell hb
            have fu := HU2.out.frozen b
            have j0 : (0 : Int) ≤ (b : Int) := by omega
            have j1 : (b : Int) < (fs.length : Int) := by omega
            have j2 : decide ((b : Int) < 0) = false := decide_eq_false (by omega)
            have gl : g < w.heap.size := by
              have := hfb 0 (by decide)
              exact cell_in this
            have cb : (wr.setCell ⟨w.heap.size, b, none⟩ (.bool true)).cell? ⟨g, off + b * 10, none⟩ = some (.int .i64 ((fs.getD b []).getD 0 0)) := set_far (by show w.heap.size ≠ g; omega) c0
            have HU3 : Hid (OwnB (wr.setCell ⟨w.heap.size, b, none⟩ (.bool true)) w.heap.size fs.length (usdB qs fs (r + 1))) := HU2.out.put b true (fun j hj => HUS.out j hj)
            have HO2 : Hid (Owns (wr.setCell ⟨w.heap.size, b, none⟩ (.bool true)) (w.heap.size + 1) (.slice ao r co) ((qs.take r).map fun l => l.getD 0 0)) := own_away (HO.out.below HK2.out (Nat.le_refl _)) (by show w.heap.size < w.heap.size + 1; omega) _
            have KS : Hid (Kpt w (wr.setCell ⟨w.heap.size, b, none⟩ (.bool true))) := Kpt.setCell KC.out (Nat.le_refl _) _
            have LZ : Hid (((qs.take r).map fun l => l.getD 0 0).length + 1 ≤ 1000000) := by unfold Hid; rw [HLN.out]; omega
            have SB : Hid (w.heap.size + 1 ≤ (wr.setCell ⟨w.heap.size, b, none⟩ (.bool true)).heap.size) := HU3.out.lt
            have SZ : Hid ((wr.setCell ⟨w.heap.size, b, none⟩ (.bool true)).heap.size = wr.heap.size) := by unfold Hid; simp
            have m4 : IntKind.i64.wrap ((r : Int) + 1) = (r : Int) + 1 := IntWalk.i64_in _ (by omega)
            clear HB hbm hcb hfb hqe HRI c0
            generalize (fs.getD b []).getD 0 0 = I at *
            generalize (qs.take r).map (fun l => l.getD 0 0) = zs at *
            go_wp2_with (at_builtin; refine wp_append1g rfl (.tmp 87) (.tmp 93) rfl (w.heap.size + 1) (.slice ao r co) zs I _ wr.heap.size SZ.out rfl HO2.out rfl LZ.out SB.out ?_; intro v6 w6 o6 b6; obtain ⟨a6, c6, rfl, -⟩ := o6.reads; have O6 := Lib.hid o6; have B6 := Lib.hid b6; clear o6 b6)
            go_roundw
            case rel => exact ⟨r + 1, hrq, by omega, by unfold Hid; rw [HR2.out]; have h := O6.out; rw [List.length_append] at h; exact h, HU3.out.block (B6.out.block _ (Nat.lt_succ_self _)), Below.trans KS.out (B6.out.mono (Nat.le_succ _))⟩
            case measure =>
              have hz := HLN.out
              simp only [slN]
              omega
    · have hre : (r : Int) = m := by omega
      have y1 : decide ((r : Int) < m) = false := decide_eq_false hlt
      have RE : Hid (Reads w4 (.slice ao r co) (topN qs m)) := by
        have : topN qs m = (qs.take r).map fun l => l.getD 0 0 := by unfold topN; rw [show m.toNat = r by omega]
        rw [this]; exact HRO.out
      go_wp2
      go_ret
      exact ⟨_, rfl, RE.out, HK.out⟩

end Go.Proofs.Ytagmgpdgiphhbaa
