/-
  What math/bits.Div64 does: the quotient and the rest of two words by one.
-/
import Derived.Test.YtgccipmeiceonaaBase
import Derived.RegionTactic
import Derived.Deep.Cut
import Derived.Deep.DeepCutAuto
import Derived.Deep.CutBlock
import Derived.Deep.LoopGhost
import Derived.ChangeAlike
import Derived.Test.YtgccipmeiceonaaShelf
import Derived.Test.YtgccipmeiceonaaDivMath
namespace Go.Proofs.Ytgccipmeiceonaa
open Go.RowKit
set_option linter.unusedVariables false

theorem dec_of (p : Prop) [Decidable p] : (decide p = false ∧ ¬ p) ∨ (decide p = true ∧ p) := by
  by_cases h : p
  · exact .inr ⟨decide_eq_true h, h⟩
  · exact .inl ⟨decide_eq_false h, h⟩

theorem lz_any (y : Nat) (h1 : 1 ≤ y) (h2 : y < 18446744073709551616) (w : World) :
    Calls Try.prog 142 #[.int .u64 y] w fun e w' => (∃ s : Nat, e = .returned (.int .i64 s) ∧ s ≤ 63 ∧ 9223372036854775808 ≤ y * 2 ^ s ∧ y * 2 ^ s < 18446744073709551616) ∧ w = w' := by
  have h := bitLen_spec y h1 h2
  refine (Try.bits_LeadingZeros64 y w (by omega) (by omega)).mono ?_
  rintro e w' ⟨rfl, rfl⟩
  refine ⟨⟨64 - Lib.bitLen y, ?_, by omega, h.2.2⟩, rfl⟩
  have : (64 : Int) - (Lib.bitLen y : Int) = ((64 - Lib.bitLen y : Nat) : Int) := by omega
  simp [this]

set_option maxRecDepth 100000 in
set_option maxHeartbeats 1000000 in
theorem div64_far (hi lo y : Nat) (h0 : 1 ≤ hi) (hy : hi < y) (hl : lo < 18446744073709551616) (hb : y < 18446744073709551616) (w : World) :
    Calls Try.prog 127 #[.int .u64 hi, .int .u64 lo, .int .u64 y] w fun e w' => e = .returned (.tuple #[.int .u64 (((hi * 18446744073709551616 + lo) / y : Nat) : Int), .int .u64 (((hi * 18446744073709551616 + lo) % y : Nat) : Int)]) ∧ w = w' := by
  go_enter Try.func127, Try.ntmps127
  go_upto_region 15 with (go_at_call 142; refine (lz_any y (by omega) hb _).mono ?_; rintro e w' ⟨⟨s, rfl, hs, hs1, hs2⟩, rfl⟩; obtain ⟨v, v1, v0, u, l, u1, u0, e1, e2, e3, e4, e5, e6, e7, HS0⟩ := shifted hi lo y s hy hl hs hs1 hs2; have HS := Lib.hid HS0; have hv1 := HS0.v1_lo; have hv1' := HS0.v1_hi; have hv0 := HS0.v0_hi; have hu1 := HS0.u1_hi; have hu0 := HS0.u0_hi; clear HS0 hs1 hs2)
  clear e1 e2 e3 e4 e5 e6 e7
  obtain ⟨q0, p, rh0, e1, e2, e3, HD0, hr0, hq0⟩ := dig_words (v0 := v0) (u := u) (u1 := u1) hv1 hv0 hu1 hv1' (by have a := HS.out.u_lt; have b := HS.out.v_parts; omega)
  have HD := Lib.hid HD0; clear HD0
  go_upto_block 0 with fail
  clear e1 e2 e3
  obtain ⟨M, hM⟩ : ∃ M : Nat, 8589934592 ≤ M := ⟨_, Nat.le_refl _⟩
  go_cut [15] (fun a wx => ∃ q : Nat, a = .int .u64 q ∧ Hid (q = (u * 4294967296 + u1) / v) ∧ w = wx)
  case first =>
    go_wp2_with fail
    go_loopg [15, 16] (M - rh0) (fun g a b wx => ∃ q rh : Nat, a = .int .u64 q ∧ b = .int .u64 rh ∧ Hid (rh + g = M) ∧ rh < 4294967296 ∧ q ≤ 4294967297 ∧ Hid (Dig v1 v0 u u1 q rh) ∧ w = wx)
    case atStart => exact ⟨q0, rh0, rfl, rfl, (by omega : rh0 + (M - rh0) = M), hr0, hq0, HD, rfl⟩
    case round =>
      obtain ⟨q, rh, rfl, rfl, HG, hr, hq, HD1, rfl⟩ := hrel
      clear HD hq0 hr0
      have hu : Hid (u < v1 * 4294967296 + v0) := (by have a := HS.out.u_lt; have b := HS.out.v_parts; omega : u < v1 * 4294967296 + v0)
      rcases dec_of (4294967296 ≤ (q : Int)) with ⟨hqd, hq'⟩ | ⟨hqd, hq'⟩
      · obtain ⟨m, em, hm⟩ := mul_words (q := q) (v0 := v0) (by omega) hv0
        have HM := Lib.hid hm; clear hm
        rcases dec_of (4294967296 * (rh : Int) + (u1 : Int) < (m : Int)) with ⟨hcd, hc⟩ | ⟨hcd, hc⟩
        · go_wp2
          go_meet
          case rel => exact ⟨q, rfl, HD1.out.stopV HS.out.v_parts HM.out (by omega), rfl⟩
        · have HN := Lib.hid (HD1.out.next hu1 hu.out (.inr (HM.out ▸ (by omega : 4294967296 * rh + u1 < m))))
          have hq1 : 1 ≤ q := (HD1.out.pos hu1 hu.out (.inr (HM.out ▸ (by omega : 4294967296 * rh + u1 < m)))).1
          rcases dec_of (4294967296 ≤ (rh : Int) + (v1 : Int)) with ⟨hrd, hrr⟩ | ⟨hrd, hrr⟩
          · go_wp2
            go_roundg (gk - v1)
            case measure => have := HG.out; omega
            case rel => exact ⟨q - 1, rh + v1, by go_num, by go_num, (by have := HG.out; omega : rh + v1 + (gk - v1) = M), by omega, by omega, HN.out.1, rfl⟩
          · go_wp2
            go_meet
            case rel => exact ⟨q - 1, by go_num, HN.out.1.brkV HS.out.v_parts hv0 HN.out.2 (by omega), rfl⟩
      · have HN := Lib.hid (HD1.out.next hu1 hu.out (.inl (by omega)))
        rcases dec_of (4294967296 ≤ (rh : Int) + (v1 : Int)) with ⟨hrd, hrr⟩ | ⟨hrd, hrr⟩
        · go_wp2
          go_roundg (gk - v1)
          case measure => have := HG.out; omega
          case rel => exact ⟨q - 1, rh + v1, by go_num, by go_num, (by have := HG.out; omega : rh + v1 + (gk - v1) = M), by omega, by omega, HN.out.1, rfl⟩
        · go_wp2
          go_meet
          case rel => exact ⟨q - 1, by go_num, HN.out.1.brkV HS.out.v_parts hv0 HN.out.2 (by omega), rfl⟩
  case rest =>
    obtain ⟨q1, rfl, HQ1, rfl⟩ := hcut
    clear HD hr0 hq0
    have hq1 : q1 < 4294967296 := by rw [HQ1.out]; exact Dig.lt hu1 HS.out.u_lt
    have hvp : 0 < v := by have := HS.out.u_lt; omega
    have hvb : v < 18446744073709551616 := by have := HS.out.v_parts; omega
    obtain ⟨r, er, hr1, hr2⟩ := rest_of HQ1.out hvp hvb
    have HR1 := Lib.hid hr1; clear hr1
    have HR2 := Lib.hid hr2; clear hr2
    obtain ⟨q0, p, rh0, e1, e2, e3, HD0, hr0, hq0⟩ := dig_words (v0 := v0) (u := r) (u1 := u0) hv1 hv0 hu0 hv1' (by have a := HR2.out; have b := HS.out.v_parts; omega)
    have HD := Lib.hid HD0; clear HD0
    go_upto_block 2 with fail
    clear e1 e2 e3 er
    go_cut [18] (fun a wx => ∃ q : Nat, a = .int .u64 q ∧ Hid (q = (r * 4294967296 + u0) / v) ∧ w = wx)
    case first =>
      go_wp2_with fail
      go_loopg [18, 16] (M - rh0) (fun g a b wx => ∃ q rh : Nat, a = .int .u64 q ∧ b = .int .u64 rh ∧ Hid (rh + g = M) ∧ rh < 4294967296 ∧ q ≤ 4294967297 ∧ Hid (Dig v1 v0 r u0 q rh) ∧ w = wx)
      case atStart => exact ⟨q0, rh0, rfl, rfl, (by omega : rh0 + (M - rh0) = M), hr0, hq0, HD, rfl⟩
      case round =>
        obtain ⟨q, rh, rfl, rfl, HG, hr, hq, HD1, rfl⟩ := hrel
        clear HD hq0 hr0
        have hu : Hid (r < v1 * 4294967296 + v0) := (by have a := HR2.out; have b := HS.out.v_parts; omega : r < v1 * 4294967296 + v0)
        rcases dec_of (4294967296 ≤ (q : Int)) with ⟨hqd, hq'⟩ | ⟨hqd, hq'⟩
        · obtain ⟨m, em, hm⟩ := mul_words (q := q) (v0 := v0) (by omega) hv0
          have HM := Lib.hid hm; clear hm
          rcases dec_of (4294967296 * (rh : Int) + (u0 : Int) < (m : Int)) with ⟨hcd, hc⟩ | ⟨hcd, hc⟩
          · go_wp2
            go_meet
            case rel => exact ⟨q, rfl, HD1.out.stopV HS.out.v_parts HM.out (by omega), rfl⟩
          · have HN := Lib.hid (HD1.out.next hu0 hu.out (.inr (HM.out ▸ (by omega : 4294967296 * rh + u0 < m))))
            have hq1 : 1 ≤ q := (HD1.out.pos hu0 hu.out (.inr (HM.out ▸ (by omega : 4294967296 * rh + u0 < m)))).1
            rcases dec_of (4294967296 ≤ (rh : Int) + (v1 : Int)) with ⟨hrd, hrr⟩ | ⟨hrd, hrr⟩
            · go_wp2
              go_roundg (gk - v1)
              case measure => have := HG.out; omega
              case rel => exact ⟨q - 1, rh + v1, by go_num, by go_num, (by have := HG.out; omega : rh + v1 + (gk - v1) = M), by omega, by omega, HN.out.1, rfl⟩
            · go_wp2
              go_meet
              case rel => exact ⟨q - 1, by go_num, HN.out.1.brkV HS.out.v_parts hv0 HN.out.2 (by omega), rfl⟩
        · have HN := Lib.hid (HD1.out.next hu0 hu.out (.inl (by omega)))
          rcases dec_of (4294967296 ≤ (rh : Int) + (v1 : Int)) with ⟨hrd, hrr⟩ | ⟨hrd, hrr⟩
          · go_wp2
            go_roundg (gk - v1)
            case measure => have := HG.out; omega
            case rel => exact ⟨q - 1, rh + v1, by go_num, by go_num, (by have := HG.out; omega : rh + v1 + (gk - v1) = M), by omega, by omega, HN.out.1, rfl⟩
          · go_wp2
            go_meet
            case rel => exact ⟨q - 1, by go_num, HN.out.1.brkV HS.out.v_parts hv0 HN.out.2 (by omega), rfl⟩
    case rest =>
      obtain ⟨q2, rfl, HQ2, rfl⟩ := hcut
      have hq2 : q2 < 4294967296 := by rw [HQ2.out]; exact Dig.lt hu0 HR2.out
      obtain ⟨r2, er, hr3, -⟩ := rest_of HQ2.out hvp hvb
      have HE := Lib.hid (div_end HS.out HQ1.out HR1.out HQ2.out hr3)
      clear hr3
      go_wp2
      go_ret2
      exact ⟨by rw [← HE.out.1, ← HE.out.2]; rfl, rfl⟩

end Go.Proofs.Ytgccipmeiceonaa
