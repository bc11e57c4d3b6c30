/-
  What Show of package price does; what must be of prices in any case: contracts.
-/
import Derived.Test.YtoahdhhbjljjlaaDoorPriceB
namespace Go.Proofs.YtoahdhhbjljjlaaDoor
open Go.RowKit
set_option linter.unusedVariables false

/-- the library's table of powers -/
def PowT (w : World) : Prop := Lib.TabIs Tryd.prog w "internal/strconv.uint64pow10" .u64 Lib.pow10Tab
theorem PowT.kpt {w w' : World} (h : PowT w) (g : Kpt w w') : PowT w' := tab_kpt h g
def itS (n : Int) : ByteArray := ⟨(Lib.itoa n).toArray⟩
theorem itoa_any (n : Int) (h0 : 0 ≤ n) (h1 : n ≤ 9223372036854775807) (w : World) (ht : PowT w) :
    Calls Tryd.prog 24 #[.int .i64 n] w fun e w' => e = .returned (.string (itS n)) ∧ Kpt w w' := by
  refine (Tryd.strconv_Itoa n (by omega) h1 w ht).mono ?_
  rintro e w' ⟨rfl, k, os, rfl⟩
  exact ⟨rfl, ktr ((Kpt.refl _).drewN k) (kpt_grow _ _)⟩
theorem dec_len1 {u : Nat} (h : u < 10) : Lib.decDigits u = [UInt8.ofNat (48 + u)] := by rw [Lib.decDigits, dif_pos h]
theorem dec_step {u : Nat} (h : 10 ≤ u) : Lib.decDigits u = Lib.decDigits (u / 10) ++ [UInt8.ofNat (48 + u % 10)] := by
  rw [Lib.decDigits, dif_neg (by omega)]
theorem dec_four {u : Nat} (h0 : 10000 ≤ u) (h1 : u < 20000) : Lib.decDigits u = [49, UInt8.ofNat (48 + u / 1000 % 10), UInt8.ofNat (48 + u / 100 % 10), UInt8.ofNat (48 + u / 10 % 10), UInt8.ofNat (48 + u % 10)] := by
  rw [dec_step (by omega), dec_step (show 10 ≤ u / 10 by omega), dec_step (show 10 ≤ u / 10 / 10 by omega), dec_step (show 10 ≤ u / 10 / 10 / 10 by omega), dec_len1 (by omega)]
  rw [show u / 10 / 10 / 10 / 10 = 1 by omega, show u / 10 / 10 / 10 = u / 1000 by omega, show u / 10 / 10 = u / 100 by omega]
  rfl
theorem itS_list (n : Int) (h : 0 ≤ n) : (itS n).data.toList = Lib.decDigits n.toNat := by
  unfold itS Lib.itoa
  rw [if_neg (by omega)]
theorem itS_five {n : Int} (h0 : 10000 ≤ n) (h1 : n < 20000) : (itS n).size = 5 := by
  rw [← size_list, itS_list n (by omega), dec_four (by omega) (by omega)]; rfl

theorem dec_len {k : Nat} : ∀ {u : Nat}, u < 10 ^ (k + 1) → (Lib.decDigits u).length ≤ k + 1 := by
  induction k with
  | zero => intro u h; rw [dec_len1 (by simpa using h)]; simp
  | succ k ih =>
    intro u h
    by_cases g : u < 10
    · rw [dec_len1 g]; simp
    · rw [dec_step (by omega), List.length_append, List.length_singleton]
      have := @ih (u / 10) (by rw [Nat.pow_succ] at h; omega)
      omega
theorem itS_size {n : Int} (h0 : 0 ≤ n) (h1 : n < 1000000000) : (itS n).size ≤ 9 := by
  rw [← size_list, itS_list n h0]
  exact dec_len (k := 8) (by show n.toNat < 1000000000; omega)

/-- the places behind the point, without noughts at their end -/
def plS (p : Int) : ByteArray := ⟨(Lib.trimRightB ((itS (10000 + p % 10000)).extract 1 (itS (10000 + p % 10000)).size).data.toList 48).toArray⟩
theorem plS_size (p : Int) : (plS p).size ≤ (itS (10000 + p % 10000)).size := by
  unfold plS Lib.trimRightB
  rw [size_mk, List.length_reverse]
  refine Nat.le_trans (List.dropWhile_suffix _).length_le ?_
  rw [List.length_reverse, size_list]
  show (ByteArray.extract _ _ _).size ≤ _
  simp
/-- what is shown of a price -/
def shS (p : Int) : ByteArray := if p % 10000 = 0 then itS (p / 10000) else itS (p / 10000) ++ ⟨#[46]⟩ ++ plS p

theorem ret_st {a b : ByteArray} {x : Int} (h : a = b) : Ending.returned (.tuple #[.string a, .int .i64 x]) = .returned (.tuple #[.string b, .int .i64 x]) := by rw [h]
theorem show_no (p : Int) (h : prcB p = false) (w : World) :
    Calls Tryd.prog 9 #[.int .i64 p] w fun e w' => e = .returned (.tuple #[.string ⟨#[]⟩, .int .i64 3]) ∧ w = w' := by
  have D := Lib.hid (fun w => pcheck_no p h w)
  clear h
  go_enter Tryd.func9, Tryd.ntmps9
  go_wp2_with (go_at_call 19; (with_reducible refine (D.out _).mono ?_); rintro e w' ⟨rfl, rfl⟩)
  go_ret2
  exact ⟨rfl, rfl⟩
set_option maxHeartbeats 1000000 in
theorem show_ok (p : Int) (h : prcB p = true) (w : World) (ht : PowT w) :
    Calls Tryd.prog 9 #[.int .i64 p] w fun e w' => e = .returned (.tuple #[.string (shS p), .int .i64 0]) ∧ Kpt w w' := by
  have D := Lib.hid (fun w => pcheck_ok p h w)
  obtain ⟨p0, p1⟩ := prc_t h
  have I1 := Lib.hid (itoa_any (p / 10000) (by omega) (by omega) w ht)
  by_cases hz : p % 10000 = 0
  · have E : Hid (shS p = itS (p / 10000)) := by unfold Hid shS; rw [if_pos hz]
    obtain ⟨q, hq⟩ : ∃ q, p / 10000 = q := ⟨_, rfl⟩
    rw [hq] at I1 E
    have HQ := Lib.hid hq
    generalize itS q = is at I1 E
    clear h ht hq
    go_enter Tryd.func9, Tryd.ntmps9
    go_wp2_with (first
      | (go_at_call 19; (with_reducible refine (D.out _).mono ?_); rintro e w' ⟨rfl, rfl⟩)
      | (go_at_call 24; (with_reducible rw [HQ.out]); (with_reducible refine I1.out.mono ?_); rintro e w1 ⟨rfl, g1⟩; have G1 := Lib.hid g1; clear g1))
    go_ret2
    exact ⟨ret_st E.out.symm, G1.out⟩
  · have E : Hid (shS p = itS (p / 10000) ++ ⟨#[46]⟩ ++ plS p) := by unfold Hid shS; rw [if_neg hz]
    obtain ⟨r, hr⟩ : ∃ r, p % 10000 = r := ⟨_, rfl⟩
    have r0 : 1 ≤ r := by omega
    have r1 : r < 10000 := by omega
    have z5 := itS_five (n := 10000 + r) (by omega) (by omega)
    have T : Hid (∀ w, Calls Tryd.prog 25 #[.string ((itS (10000 + r)).extract 1 (itS (10000 + r)).size), .string ⟨#[48]⟩] w fun e w' => e = .returned (.string (plS p)) ∧ w = w') := fun w => by
      refine (Tryd.strings_TrimRight_one _ 48 (by decide) w (by show (ByteArray.extract _ _ _).size ≤ _; simp; omega)).mono ?_
      rintro e w' ⟨rfl, rfl⟩
      refine ⟨?_, rfl⟩
      unfold plS; rw [hr]
    have I2 := Lib.hid (fun w' (g : Kpt w w') => itoa_any (10000 + r) (by omega) (by omega) w' (ht.kpt g))
    obtain ⟨q, hq⟩ : ∃ q, p / 10000 = q := ⟨_, rfl⟩
    rw [hq] at I1 E
    have k1 := itS_size (n := q) (by omega) (by omega)
    have k2 := plS_size p
    rw [hr, z5] at k2
    have z5' : 1 ≤ (itS (10000 + r)).size := by omega
    have z6 : (itS (10000 + r)).size ≤ 9223372036854775807 := by omega
    clear z5
    generalize itS q = is at I1 E k1
    generalize itS (10000 + r) = js at I2 T z5' z6
    generalize plS p = ks at T E k2
    clear h ht hz
    have hz2 : (r == 0) = false := beq_eq_false_iff_ne.2 (by omega)
    go_enter Tryd.func9, Tryd.ntmps9
    go_wp2_with (first
      | (go_at_call 19; (with_reducible refine (D.out _).mono ?_); rintro e w' ⟨rfl, rfl⟩)
      | (go_at_call 24; (with_reducible refine I1.out.mono ?_); rintro e w1 ⟨rfl, g1⟩; have G1 := Lib.hid g1; clear g1)
      | (go_at_call 24; (with_reducible refine (I2.out _ G1.out).mono ?_); rintro e w2 ⟨rfl, g2⟩; have G2 := Lib.hid (ktr G1.out g2); clear g2)
      | (go_at_call 25; (with_reducible refine (T.out _).mono ?_); rintro e w' ⟨rfl, rfl⟩))
    go_ret2
    exact ⟨ret_st E.out.symm, G2.out⟩

theorem pb_read1 (w : World) (hm : MaxL w) : Calls Tryd.prog 8 #[.string ⟨#[49, 50, 46, 51, 48, 53]⟩] w fun e w' => e = .returned (.tuple #[.int .i64 123050, .int .i64 0]) ∧ Kpt w w' := by
  have := read_any ⟨#[49, 50, 46, 51, 48, 53]⟩ (by decide) w hm
  rw [show rdR ⟨#[49, 50, 46, 51, 48, 53]⟩ = 123050 by decide +kernel, show rdE ⟨#[49, 50, 46, 51, 48, 53]⟩ = 0 by decide +kernel] at this
  exact this
theorem pb_read2 (w : World) (hm : MaxL w) : Calls Tryd.prog 8 #[.string ⟨#[49, 46, 53, 48]⟩] w fun e w' => e = .returned (.tuple #[.int .i64 0, .int .i64 1]) ∧ Kpt w w' := by
  have := read_any ⟨#[49, 46, 53, 48]⟩ (by decide) w hm
  rw [show rdR ⟨#[49, 46, 53, 48]⟩ = 0 by decide +kernel, show rdE ⟨#[49, 46, 53, 48]⟩ = 1 by decide +kernel] at this
  exact this
theorem pb_read3 (w : World) (hm : MaxL w) : Calls Tryd.prog 8 #[.string ⟨#[57, 57, 57, 57, 57, 57, 57, 57, 57, 46, 57, 57, 57, 57]⟩] w fun e w' => e = .returned (.tuple #[.int .i64 0, .int .i64 3]) ∧ Kpt w w' := by
  have := read_any ⟨#[57, 57, 57, 57, 57, 57, 57, 57, 57, 46, 57, 57, 57, 57]⟩ (by decide) w hm
  rw [show rdR ⟨#[57, 57, 57, 57, 57, 57, 57, 57, 57, 46, 57, 57, 57, 57]⟩ = 0 by decide +kernel, show rdE ⟨#[57, 57, 57, 57, 57, 57, 57, 57, 57, 46, 57, 57, 57, 57]⟩ = 3 by decide +kernel] at this
  exact this
theorem pb_show (w : World) (ht : PowT w) : Calls Tryd.prog 9 #[.int .i64 120500] w fun e w' => e = .returned (.tuple #[.string ⟨#[49, 50, 46, 48, 53]⟩, .int .i64 0]) ∧ Kpt w w' := by
  have := show_ok 120500 (by decide) w ht
  rw [show shS 120500 = ⟨#[49, 50, 46, 48, 53]⟩ by decide +kernel] at this
  exact this
theorem pb_cost (w : World) : Calls Tryd.prog 10 #[.int .i64 3, .int .i64 12345] w fun e w' => e = .returned (.tuple #[.int .i64 3, .int .i64 7035, .int .i64 0]) ∧ Grew w w' :=
  cost_is 3 12345 3 7035 0 (by decide) (by decide) (fun w => part_ok 3 12345 10000 (by decide) (by decide) (by decide) w) w
theorem pb_apart (w : World) : Calls Tryd.prog 11 #[.int .i64 100, .int .i64 99] w fun e w' => e = .returned (.tuple #[.int .i64 (-100), .int .i64 0]) ∧ Grew w w' :=
  apart_ok 100 99 (by decide) (by decide) (by decide) w

set_option maxRecDepth 100000 in
set_option maxHeartbeats 2000000 in
theorem priceBegun (w : World) (hm : MaxL w) (ht : PowT w) : Calls Tryd.prog 18 #[] w fun e w' => e = .returned (.bool true) ∧ Kpt w w' := by
  have HM := Lib.hid hm
  have HT := Lib.hid ht
  have G := Lib.hid (Kpt.refl w)
  clear hm ht
  go_enter Tryd.func18, Tryd.ntmps18
  go_wp2_with (first
    | (go_at_call 8; (with_reducible refine (pb_read1 _ (HM.out.kpt G.out)).mono ?_); rintro e w1 ⟨rfl, g1⟩; have G := Lib.hid (ktr G.out g1); clear g1)
    | (go_at_call 8; (with_reducible refine (pb_read2 _ (HM.out.kpt G.out)).mono ?_); rintro e w1 ⟨rfl, g1⟩; have G := Lib.hid (ktr G.out g1); clear g1)
    | (go_at_call 8; (with_reducible refine (pb_read3 _ (HM.out.kpt G.out)).mono ?_); rintro e w1 ⟨rfl, g1⟩; have G := Lib.hid (ktr G.out g1); clear g1)
    | (go_at_call 9; (with_reducible refine (pb_show _ (HT.out.kpt G.out)).mono ?_); rintro e w1 ⟨rfl, g1⟩; have G := Lib.hid (ktr G.out g1); clear g1)
    | (go_at_call 10; (with_reducible refine (pb_cost _).mono ?_); rintro e w1 ⟨rfl, g1⟩; have G := Lib.hid (ktr G.out g1.kpt); clear g1)
    | (go_at_call 11; (with_reducible refine (pb_apart _).mono ?_); rintro e w1 ⟨rfl, g1⟩; have G := Lib.hid (ktr G.out g1.kpt); clear g1))
  go_ret
  exact ⟨rfl, G.out⟩

end Go.Proofs.YtoahdhhbjljjlaaDoor
