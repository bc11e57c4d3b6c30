/-
  Merged: DivMath, DivWalk, DivZero, MoneyMath, MoneyA, PartWalk, Part2.
-/
import Derived.Below
import Derived.Lib.BitFns
import Derived.Laws.Bits64b
import Derived.Shelf.Bits.Mul64
import Derived.Test.YthaahebggboliaaGreatBase
import Derived.RegionTactic
import Derived.Deep.Cut
import Derived.Deep.DeepCutAuto
import Derived.Deep.CutBlock
import Derived.Deep.LoopGhost
import Derived.ChangeAlike
import Derived.Test.YthaahebggboliaaGreatShelf
import Derived.BigRegion
-- DivMath
namespace Go.Proofs.YthaahebggboliaaGreat

theorem dig_le {q v1 v0 rh u u1 : Nat} (h : q * v1 + rh = u) (hs : q * v0 ≤ 4294967296 * rh + u1) : q * (v1 * 4294967296 + v0) ≤ u * 4294967296 + u1 := by
  subst h
  have e1 : q * (v1 * 4294967296 + v0) = q * v1 * 4294967296 + q * v0 := by rw [Nat.mul_add, ← Nat.mul_assoc]
  have e2 : (q * v1 + rh) * 4294967296 = q * v1 * 4294967296 + rh * 4294967296 := Nat.add_mul _ _ _
  omega
theorem dig_gt {q v1 v0 rh u u1 : Nat} (h : q * v1 + rh = u) (hs : 4294967296 * rh + u1 < q * v0) : u * 4294967296 + u1 < q * (v1 * 4294967296 + v0) := by
  subst h
  have e1 : q * (v1 * 4294967296 + v0) = q * v1 * 4294967296 + q * v0 := by rw [Nat.mul_add, ← Nat.mul_assoc]
  have e2 : (q * v1 + rh) * 4294967296 = q * v1 * 4294967296 + rh * 4294967296 := Nat.add_mul _ _ _
  omega
theorem dig_big {q v u u1 : Nat} (hu : u < v) (h1 : u1 < 4294967296) (hq : 4294967296 ≤ q) : u * 4294967296 + u1 < q * v := by
  have : 4294967296 * v ≤ q * v := Nat.mul_le_mul_right v hq
  omega
theorem dig_first {v v1 v0 u : Nat} (hv : v = v1 * 4294967296 + v0) (h1 : 2147483648 ≤ v1) (h0 : v0 < 4294967296) (hu : u < v) : u / v1 ≤ 4294967297 := by
  refine Nat.le_of_lt_succ (Nat.div_lt_of_lt_mul ?_)
  have : v1 * (4294967297 + 1) = v1 * 4294967298 := rfl
  omega
theorem dig_start {v1 v0 u u1 : Nat} (h1 : 0 < v1) (hu1 : u1 < 4294967296) : u * 4294967296 + u1 < (u / v1 + 1) * (v1 * 4294967296 + v0) := by
  have hd := Nat.div_add_mod u v1
  have hm := Nat.mod_lt u h1
  have e1 : (u / v1 + 1) * (v1 * 4294967296 + v0) = (v1 * (u / v1)) * 4294967296 + v1 * 4294967296 + (u / v1 + 1) * v0 := by
    rw [Nat.mul_add, ← Nat.mul_assoc, Nat.add_mul (u / v1) 1 v1, Nat.one_mul, Nat.mul_comm (u / v1) v1, Nat.add_mul]
  omega
/-- the invariant of a digit's loop -/
structure Dig (v1 v0 u u1 q rh : Nat) : Prop where
  sum : q * v1 + rh = u
  above : u * 4294967296 + u1 < (q + 1) * (v1 * 4294967296 + v0)
  top : q ≤ 4294967297
theorem Dig.start {v1 v0 u u1 : Nat} (h1 : 2147483648 ≤ v1) (h0 : v0 < 4294967296) (hu1 : u1 < 4294967296) (hu : u < v1 * 4294967296 + v0) : Dig v1 v0 u u1 (u / v1) (u - u / v1 * v1) := by
  refine ⟨?_, dig_start (by omega) hu1, dig_first rfl h1 h0 hu⟩
  have := Nat.div_mul_le_self u v1
  omega
theorem Dig.pos {v1 v0 u u1 q rh : Nat} (hu1 : u1 < 4294967296) (hu : u < v1 * 4294967296 + v0) (h : Dig v1 v0 u u1 q rh) (hc : 4294967296 ≤ q ∨ 4294967296 * rh + u1 < q * v0) : 1 ≤ q ∧ u * 4294967296 + u1 < q * (v1 * 4294967296 + v0) := by
  rcases hc with hc | hc
  · exact ⟨by omega, dig_big hu hu1 hc⟩
  · refine ⟨?_, dig_gt h.sum hc⟩
    rcases Nat.eq_zero_or_pos q with e | e
    · subst e; simp at hc
    · exact e
theorem Dig.next {v1 v0 u u1 q rh : Nat} (hu1 : u1 < 4294967296) (hu : u < v1 * 4294967296 + v0) (h : Dig v1 v0 u u1 q rh) (hc : 4294967296 ≤ q ∨ 4294967296 * rh + u1 < q * v0) : Dig v1 v0 u u1 (q - 1) (rh + v1) ∧ q - 1 ≤ 4294967296 := by
  obtain ⟨hp, hl⟩ := h.pos hu1 hu hc
  obtain ⟨k, rfl⟩ : ∃ k, q = k + 1 := ⟨q - 1, by omega⟩
  have e : (k + 1) * v1 = k * v1 + v1 := by rw [Nat.add_mul, Nat.one_mul]
  have hs := h.sum
  have ht := h.top
  refine ⟨⟨by simp only [Nat.add_sub_cancel]; omega, by simpa using hl, by omega⟩, by omega⟩
theorem Dig.stop {v1 v0 u u1 q rh : Nat} (h : Dig v1 v0 u u1 q rh) (hc : q * v0 ≤ 4294967296 * rh + u1) : q = (u * 4294967296 + u1) / (v1 * 4294967296 + v0) := by
  have h1 := dig_le h.sum hc
  exact (Nat.div_eq_of_lt_le h1 h.above).symm
theorem Dig.brk {v1 v0 u u1 q rh : Nat} (h0 : v0 < 4294967296) (h : Dig v1 v0 u u1 q rh) (hq : q ≤ 4294967296) (hr : 4294967296 ≤ rh) : q = (u * 4294967296 + u1) / (v1 * 4294967296 + v0) := by
  refine h.stop ?_
  have : q * v0 ≤ 4294967296 * v0 := Nat.mul_le_mul_right v0 hq
  omega
theorem Dig.stopV {v v1 v0 u u1 q rh m : Nat} (hv : v = v1 * 4294967296 + v0) (hm : m = q * v0) (h : Dig v1 v0 u u1 q rh) (hc : m ≤ 4294967296 * rh + u1) : q = (u * 4294967296 + u1) / v := by
  subst hv hm; exact h.stop hc
theorem Dig.brkV {v v1 v0 u u1 q rh : Nat} (hv : v = v1 * 4294967296 + v0) (h0 : v0 < 4294967296) (h : Dig v1 v0 u u1 q rh) (hq : q ≤ 4294967296) (hr : 4294967296 ≤ rh) : q = (u * 4294967296 + u1) / v := by
  subst hv; exact h.brk h0 hq hr
theorem Dig.lt {v u u1 : Nat} (hu1 : u1 < 4294967296) (hu : u < v) : (u * 4294967296 + u1) / v < 4294967296 :=
  Nat.div_lt_of_lt_mul (by rw [Nat.mul_comm v]; omega)
/-- the quotient and the rest, out of two digits -/
theorem two_digits {v a u0 : Nat} (hv : 0 < v) :
    a / v * 4294967296 + (a % v * 4294967296 + u0) / v = (a * 4294967296 + u0) / v ∧ (a % v * 4294967296 + u0) % v = (a * 4294967296 + u0) % v := by
  have e : a * 4294967296 + u0 = (a % v * 4294967296 + u0) + v * (a / v * 4294967296) := by
    have h := Nat.div_add_mod a v
    have h2 : v * (a / v * 4294967296) = v * (a / v) * 4294967296 := (Nat.mul_assoc _ _ _).symm
    omega
  have e1 : (a * 4294967296 + u0) / v = (a % v * 4294967296 + u0) / v + a / v * 4294967296 := by rw [e]; exact Nat.add_mul_div_left _ _ hv
  have e2 : (a * 4294967296 + u0) % v = (a % v * 4294967296 + u0) % v := by rw [e]; exact Nat.add_mul_mod_self_left _ _ _
  exact ⟨by rw [e1]; exact Nat.add_comm _ _, e2.symm⟩
theorem div_shift (a y t : Nat) (ht : 0 < t) : a * t / (y * t) = a / y := Nat.mul_div_mul_right a y ht
theorem mod_shift (a y t : Nat) (ht : 0 < t) : a * t % (y * t) / t = a % y := by rw [Nat.mul_mod_mul_right]; exact Nat.mul_div_cancel _ ht

theorem bitLenAux_spec : ∀ (f x : Nat), x < 2 ^ f → x < 2 ^ Lib.bitLenAux f x ∧ (x ≠ 0 → 2 ^ Lib.bitLenAux f x ≤ 2 * x)
  | 0, x, h => by simp [Lib.bitLenAux] at h ⊢; omega
  | f + 1, x, h => by
    by_cases hx : x = 0
    · subst hx; simp [Lib.bitLenAux]
    · have ih := bitLenAux_spec f (x / 2) (by rw [Nat.pow_succ] at h; omega)
      have e : Lib.bitLenAux (f + 1) x = Lib.bitLenAux f (x / 2) + 1 := by
        rw [Lib.bitLenAux, if_neg hx]; exact Nat.add_comm _ _
      rw [e, Nat.pow_succ]
      refine ⟨by omega, fun _ => ?_⟩
      by_cases h2 : x / 2 = 0
      · have : Lib.bitLenAux f (x / 2) = 0 := by rw [h2]; cases f <;> simp [Lib.bitLenAux]
        rw [this]; omega
      · have := ih.2 h2; omega
theorem bitLen_spec (y : Nat) (h1 : 1 ≤ y) (h2 : y < 18446744073709551616) : Lib.bitLen y ≤ 64 ∧ 1 ≤ Lib.bitLen y ∧ 9223372036854775808 ≤ y * 2 ^ (64 - Lib.bitLen y) ∧ y * 2 ^ (64 - Lib.bitLen y) < 18446744073709551616 := by
  have hs := bitLenAux_spec 64 y h2
  have hle := Lib.bitLen_le y 64 (Nat.le_refl _) h2
  change y < 2 ^ Lib.bitLen y ∧ (y ≠ 0 → 2 ^ Lib.bitLen y ≤ 2 * y) at hs
  have hs2 := hs.2 (by omega)
  have e : 2 ^ Lib.bitLen y * 2 ^ (64 - Lib.bitLen y) = 18446744073709551616 := by
    rw [← Nat.pow_add, Nat.add_sub_cancel' hle]
  have hpos : 0 < 2 ^ (64 - Lib.bitLen y) := Nat.two_pow_pos _
  have a1 : y * 2 ^ (64 - Lib.bitLen y) < 2 ^ Lib.bitLen y * 2 ^ (64 - Lib.bitLen y) := Nat.mul_lt_mul_of_pos_right hs.1 hpos
  have a2 : 2 ^ Lib.bitLen y * 2 ^ (64 - Lib.bitLen y) ≤ 2 * y * 2 ^ (64 - Lib.bitLen y) := Nat.mul_le_mul_right _ hs2
  rw [e] at a1 a2
  rw [Nat.mul_assoc] at a2
  refine ⟨hle, ?_, by omega, a1⟩
  rcases Nat.eq_zero_or_pos (Lib.bitLen y) with h0 | h0
  · have := hs.1; rw [h0] at this; omega
  · exact h0

/-- what the shifts make of the three words -/
structure Shifted (hi lo y s v v1 v0 u l u1 u0 : Nat) : Prop where
  ev : v = y * 2 ^ s
  v_parts : v = v1 * 4294967296 + v0
  v1_lo : 2147483648 ≤ v1
  v1_hi : v1 < 4294967296
  v0_hi : v0 < 4294967296
  l_parts : l = u1 * 4294967296 + u0
  u1_hi : u1 < 4294967296
  u0_hi : u0 < 4294967296
  u_lt : u < v
  whole : (u * 4294967296 + u1) * 4294967296 + u0 = (hi * 18446744073709551616 + lo) * 2 ^ s

theorem cast_pow (s : Nat) : ((2 ^ s : Nat) : Int) = (2 : Int) ^ s := by
  induction s with
  | zero => rfl
  | succ n ih => rw [Nat.pow_succ, Int.pow_succ, Int.natCast_mul, ih]; rfl

theorem shifted (hi lo y s : Nat) (hy : hi < y) (hl : lo < 18446744073709551616) (hs : s ≤ 63) (h1 : 9223372036854775808 ≤ y * 2 ^ s) (h2 : y * 2 ^ s < 18446744073709551616) :
    ∃ v v1 v0 u l u1 u0 : Nat, IntKind.u64.wrap ((y : Int) * 2 ^ s) = (v : Int) ∧ (v : Int) / 4294967296 = (v1 : Int) ∧ bits .and .u64 (v : Int) 4294967295 = (v0 : Int) ∧
      bits .or .u64 (IntKind.u64.wrap ((hi : Int) * 2 ^ s)) ((lo : Int) / 2 ^ (64 - s)) = (u : Int) ∧ IntKind.u64.wrap ((lo : Int) * 2 ^ s) = (l : Int) ∧ (l : Int) / 4294967296 = (u1 : Int) ∧ bits .and .u64 (l : Int) 4294967295 = (u0 : Int) ∧
      Shifted hi lo y s v v1 v0 u l u1 u0 := by
  have et : 2 ^ s * 2 ^ (64 - s) = 18446744073709551616 := by rw [← Nat.pow_add, Nat.add_sub_cancel' (by omega)]
  have tp : 0 < 2 ^ s := Nat.two_pow_pos s
  have c1 : ∀ x : Nat, (x : Int) * 2 ^ s = ((x * 2 ^ s : Nat) : Int) := fun x => by rw [Int.natCast_mul, cast_pow]
  have c2 : (lo : Int) / 2 ^ (64 - s) = ((lo / 2 ^ (64 - s) : Nat) : Int) := by rw [Int.natCast_ediv, cast_pow]
  rw [c1, c1, c1, c2]
  have hhi : hi * 2 ^ s < y * 2 ^ s := Nat.mul_lt_mul_of_pos_right hy tp
  have hdiv : lo / 2 ^ (64 - s) = lo * 2 ^ s / 18446744073709551616 := by
    rw [← et, Nat.mul_comm (2 ^ s)]; exact (Nat.mul_div_mul_right lo _ tp).symm
  have hsmall : lo / 2 ^ (64 - s) < 2 ^ s := by
    refine Nat.div_lt_of_lt_mul ?_
    rw [Nat.mul_comm, et]; exact hl
  have hor : (hi * 2 ^ s ||| lo / 2 ^ (64 - s)) = hi * 2 ^ s + lo / 2 ^ (64 - s) := by
    rw [Nat.mul_comm hi]; exact (Nat.two_pow_add_eq_or_of_lt hsmall hi).symm
  have hmul : (hi * 18446744073709551616 + lo) * 2 ^ s = hi * 2 ^ s * 18446744073709551616 + lo * 2 ^ s := by
    rw [Nat.add_mul, Nat.mul_right_comm]
  have hmul2 : (hi + 1) * 2 ^ s = hi * 2 ^ s + 2 ^ s := by rw [Nat.add_mul, Nat.one_mul]
  have hle2 : (hi + 1) * 2 ^ s ≤ y * 2 ^ s := Nat.mul_le_mul_right _ hy
  have hs63 : 2 ^ s ≤ 9223372036854775808 := Nat.pow_le_pow_right (n := 2) (by omega) hs
  refine ⟨y * 2 ^ s, y * 2 ^ s / 4294967296, y * 2 ^ s % 4294967296, hi * 2 ^ s + lo / 2 ^ (64 - s), lo * 2 ^ s % 18446744073709551616, lo * 2 ^ s % 18446744073709551616 / 4294967296, lo * 2 ^ s % 18446744073709551616 % 4294967296, Mul64.wrapN _ h2, Mul64.divN _, Mul64.maskN _ h2, ?_, Mul64.wrapM _, Mul64.divN _, Mul64.maskN _ (Nat.mod_lt _ (by omega)), ?_⟩
  · rw [Mul64.wrapN _ (by omega), bits_or_u64_nat _ _ (by omega) (by omega), hor]
  · refine ⟨rfl, ?_, ?_, ?_, ?_, ?_, ?_, ?_, ?_, Eq.trans ?_ hmul.symm⟩
    all_goals
      clear c1 c2 hmul
      generalize 2 ^ s = t at *
      generalize y * t = Y at *
      generalize hi * t = H at *
      generalize lo * t = L at *
      generalize lo / 2 ^ (64 - s) = D at *
      omega

theorem dig_words {v1 v0 u u1 : Nat} (h1 : 2147483648 ≤ v1) (h0 : v0 < 4294967296) (hu1 : u1 < 4294967296) (hv1 : v1 < 4294967296) (hu : u < v1 * 4294967296 + v0) :
    ∃ q p rh : Nat, IntKind.u64.wrap ((u : Int) / (v1 : Int)) = (q : Int) ∧ IntKind.u64.wrap ((q : Int) * (v1 : Int)) = (p : Int) ∧ IntKind.u64.wrap ((u : Int) - (p : Int)) = (rh : Int) ∧ Dig v1 v0 u u1 q rh ∧ rh < 4294967296 ∧ q ≤ 4294967297 := by
  have hd := Nat.div_mul_le_self u v1
  have hm := Nat.mod_lt u (show 0 < v1 by omega)
  have hs := Dig.start h1 h0 hu1 hu
  have e := Nat.div_add_mod u v1
  rw [Nat.mul_comm] at e
  have ht := hs.top
  refine ⟨u / v1, u / v1 * v1, u - u / v1 * v1, ?_, ?_, ?_, hs, by omega, hs.top⟩
  · rw [← Int.natCast_ediv]; exact Mul64.wrapN _ (by omega)
  · rw [← Int.natCast_mul]; exact Mul64.wrapN _ (by omega)
  · rw [IntKind.wrap_u64]; omega

theorem mul_words {q v0 : Nat} (hq : q < 4294967296) (h0 : v0 < 4294967296) : ∃ m : Nat, IntKind.u64.wrap ((q : Int) * (v0 : Int)) = (m : Int) ∧ m = q * v0 := by
  have := Lib.half_mul_le (a := q) (b := v0) (by omega) (by omega)
  refine ⟨q * v0, ?_, rfl⟩
  rw [← Int.natCast_mul]; exact Mul64.wrapN _ (by omega)

/-- what is left of a digit, reckoned modulo 2^64 -/
theorem rest_words {u u1 q v : Nat} (hq : q = (u * 4294967296 + u1) / v) (hv : 0 < v) (hb : v < 18446744073709551616) :
    IntKind.u64.wrap (IntKind.u64.wrap (IntKind.u64.wrap ((u : Int) * 4294967296) + (u1 : Int)) - IntKind.u64.wrap ((q : Int) * (v : Int))) = (((u * 4294967296 + u1) % v : Nat) : Int) := by
  have e := Nat.div_add_mod (u * 4294967296 + u1) v
  have hm := Nat.mod_lt (u * 4294967296 + u1) hv
  rw [Nat.mul_comm, ← hq] at e
  rw [← Int.natCast_mul q v]
  simp only [IntKind.wrap_u64]
  generalize q * v = Z at *
  omega

theorem rest_of {u u1 q v : Nat} (hq : q = (u * 4294967296 + u1) / v) (hv : 0 < v) (hb : v < 18446744073709551616) :
    ∃ r : Nat, IntKind.u64.wrap (IntKind.u64.wrap (IntKind.u64.wrap ((u : Int) * 4294967296) + (u1 : Int)) - IntKind.u64.wrap ((q : Int) * (v : Int))) = (r : Int) ∧ r = (u * 4294967296 + u1) % v ∧ r < v :=
  ⟨_, rest_words hq hv hb, rfl, Nat.mod_lt _ hv⟩

theorem div_end {hi lo y s v v1 v0 u l u1 u0 q1 q2 r r2 : Nat} (h : Shifted hi lo y s v v1 v0 u l u1 u0) (h1 : q1 = (u * 4294967296 + u1) / v) (hr : r = (u * 4294967296 + u1) % v) (h2 : q2 = (r * 4294967296 + u0) / v) (hr2 : r2 = (r * 4294967296 + u0) % v) :
    (q1 : Int) * 4294967296 + (q2 : Int) = (((hi * 18446744073709551616 + lo) / y : Nat) : Int) ∧ (r2 : Int) / 2 ^ s = (((hi * 18446744073709551616 + lo) % y : Nat) : Int) := by
  have tp : 0 < 2 ^ s := Nat.two_pow_pos s
  have hv : 0 < v := by have := h.u_lt; omega
  have t := two_digits (v := v) (a := u * 4294967296 + u1) (u0 := u0) hv
  rw [← h1, ← hr, ← h2, ← hr2, h.whole, h.ev, div_shift _ _ _ tp] at t
  have m := mod_shift (hi * 18446744073709551616 + lo) y (2 ^ s) tp
  rw [← t.2] at m
  refine ⟨by rw [← t.1]; omega, ?_⟩
  rw [← m, Int.natCast_ediv, cast_pow]

end Go.Proofs.YthaahebggboliaaGreat

-- DivWalk
namespace Go.Proofs.YthaahebggboliaaGreat
open Go.RowKit
set_option linter.unusedVariables false

theorem dec_of (p : Prop) [Decidable p] : (decide p = false ∧ ¬ p) ∨ (decide p = true ∧ p) := by
  by_cases h : p
  · exact .inr ⟨decide_eq_true h, h⟩
  · exact .inl ⟨decide_eq_false h, h⟩

theorem lz_any (y : Nat) (h1 : 1 ≤ y) (h2 : y < 18446744073709551616) (w : World) :
    Calls Tryz.prog 190 #[.int .u64 y] w fun e w' => (∃ s : Nat, e = .returned (.int .i64 s) ∧ s ≤ 63 ∧ 9223372036854775808 ≤ y * 2 ^ s ∧ y * 2 ^ s < 18446744073709551616) ∧ w = w' := by
  have h := bitLen_spec y h1 h2
  refine (Tryz.bits_LeadingZeros64 y w (by omega) (by omega)).mono ?_
  rintro e w' ⟨rfl, rfl⟩
  refine ⟨⟨64 - Lib.bitLen y, ?_, by omega, h.2.2⟩, rfl⟩
  have : (64 : Int) - (Lib.bitLen y : Int) = ((64 - Lib.bitLen y : Nat) : Int) := by omega
  simp [this]

set_option maxRecDepth 100000 in
set_option maxHeartbeats 1000000 in
theorem div64_far (hi lo y : Nat) (h0 : 1 ≤ hi) (hy : hi < y) (hl : lo < 18446744073709551616) (hb : y < 18446744073709551616) (w : World) :
    Calls Tryz.prog 189 #[.int .u64 hi, .int .u64 lo, .int .u64 y] w fun e w' => e = .returned (.tuple #[.int .u64 (((hi * 18446744073709551616 + lo) / y : Nat) : Int), .int .u64 (((hi * 18446744073709551616 + lo) % y : Nat) : Int)]) ∧ w = w' := by
  go_enter Tryz.func189, Tryz.ntmps189
  go_upto_region 15 with (go_at_call 190; refine (lz_any y (by omega) hb _).mono ?_; rintro e w' ⟨⟨s, rfl, hs, hs1, hs2⟩, rfl⟩; obtain ⟨v, v1, v0, u, l, u1, u0, e1, e2, e3, e4, e5, e6, e7, HS0⟩ := shifted hi lo y s hy hl hs hs1 hs2; have HS := Lib.hid HS0; have hv1 := HS0.v1_lo; have hv1' := HS0.v1_hi; have hv0 := HS0.v0_hi; have hu1 := HS0.u1_hi; have hu0 := HS0.u0_hi; clear HS0 hs1 hs2)
  clear e1 e2 e3 e4 e5 e6 e7
  obtain ⟨q0, p, rh0, e1, e2, e3, HD0, hr0, hq0⟩ := dig_words (v0 := v0) (u := u) (u1 := u1) hv1 hv0 hu1 hv1' (by have a := HS.out.u_lt; have b := HS.out.v_parts; omega)
  have HD := Lib.hid HD0; clear HD0
  go_upto_block 0 with fail
  clear e1 e2 e3
  obtain ⟨M, hM⟩ : ∃ M : Nat, 8589934592 ≤ M := ⟨_, Nat.le_refl _⟩
  go_cut [15] (fun a wx => ∃ q : Nat, a = .int .u64 q ∧ Hid (q = (u * 4294967296 + u1) / v) ∧ w = wx)
  case first =>
    go_wp2_with fail
    go_loopg [15, 16] (M - rh0) (fun g a b wx => ∃ q rh : Nat, a = .int .u64 q ∧ b = .int .u64 rh ∧ Hid (rh + g = M) ∧ rh < 4294967296 ∧ q ≤ 4294967297 ∧ Hid (Dig v1 v0 u u1 q rh) ∧ w = wx)
    case atStart => exact ⟨q0, rh0, rfl, rfl, (by omega : rh0 + (M - rh0) = M), hr0, hq0, HD, rfl⟩
    case round =>
      obtain ⟨q, rh, rfl, rfl, HG, hr, hq, HD1, rfl⟩ := hrel
      clear HD hq0 hr0
      have hu : Hid (u < v1 * 4294967296 + v0) := (by have a := HS.out.u_lt; have b := HS.out.v_parts; omega : u < v1 * 4294967296 + v0)
      rcases dec_of (4294967296 ≤ (q : Int)) with ⟨hqd, hq'⟩ | ⟨hqd, hq'⟩
      · obtain ⟨m, em, hm⟩ := mul_words (q := q) (v0 := v0) (by omega) hv0
        have HM := Lib.hid hm; clear hm
        rcases dec_of (4294967296 * (rh : Int) + (u1 : Int) < (m : Int)) with ⟨hcd, hc⟩ | ⟨hcd, hc⟩
        · go_wp2
          go_meet
          case rel => exact ⟨q, rfl, HD1.out.stopV HS.out.v_parts HM.out (by omega), rfl⟩
        · have HN := Lib.hid (HD1.out.next hu1 hu.out (.inr (HM.out ▸ (by omega : 4294967296 * rh + u1 < m))))
          have hq1 : 1 ≤ q := (HD1.out.pos hu1 hu.out (.inr (HM.out ▸ (by omega : 4294967296 * rh + u1 < m)))).1
          rcases dec_of (4294967296 ≤ (rh : Int) + (v1 : Int)) with ⟨hrd, hrr⟩ | ⟨hrd, hrr⟩
          · go_wp2
            go_roundg (gk - v1)
            case measure => have := HG.out; omega
            case rel => exact ⟨q - 1, rh + v1, by go_num, by go_num, (by have := HG.out; omega : rh + v1 + (gk - v1) = M), by omega, by omega, HN.out.1, rfl⟩
          · go_wp2
            go_meet
            case rel => exact ⟨q - 1, by go_num, HN.out.1.brkV HS.out.v_parts hv0 HN.out.2 (by omega), rfl⟩
      · have HN := Lib.hid (HD1.out.next hu1 hu.out (.inl (by omega)))
        rcases dec_of (4294967296 ≤ (rh : Int) + (v1 : Int)) with ⟨hrd, hrr⟩ | ⟨hrd, hrr⟩
        · go_wp2
          go_roundg (gk - v1)
          case measure => have := HG.out; omega
          case rel => exact ⟨q - 1, rh + v1, by go_num, by go_num, (by have := HG.out; omega : rh + v1 + (gk - v1) = M), by omega, by omega, HN.out.1, rfl⟩
        · go_wp2
          go_meet
          case rel => exact ⟨q - 1, by go_num, HN.out.1.brkV HS.out.v_parts hv0 HN.out.2 (by omega), rfl⟩
  case rest =>
    obtain ⟨q1, rfl, HQ1, rfl⟩ := hcut
    clear HD hr0 hq0
    have hq1 : q1 < 4294967296 := by rw [HQ1.out]; exact Dig.lt hu1 HS.out.u_lt
    have hvp : 0 < v := by have := HS.out.u_lt; omega
    have hvb : v < 18446744073709551616 := by have := HS.out.v_parts; omega
    obtain ⟨r, er, hr1, hr2⟩ := rest_of HQ1.out hvp hvb
    have HR1 := Lib.hid hr1; clear hr1
    have HR2 := Lib.hid hr2; clear hr2
    obtain ⟨q0, p, rh0, e1, e2, e3, HD0, hr0, hq0⟩ := dig_words (v0 := v0) (u := r) (u1 := u0) hv1 hv0 hu0 hv1' (by have a := HR2.out; have b := HS.out.v_parts; omega)
    have HD := Lib.hid HD0; clear HD0
    go_upto_block 2 with fail
    clear e1 e2 e3 er
    go_cut [18] (fun a wx => ∃ q : Nat, a = .int .u64 q ∧ Hid (q = (r * 4294967296 + u0) / v) ∧ w = wx)
    case first =>
      go_wp2_with fail
      go_loopg [18, 16] (M - rh0) (fun g a b wx => ∃ q rh : Nat, a = .int .u64 q ∧ b = .int .u64 rh ∧ Hid (rh + g = M) ∧ rh < 4294967296 ∧ q ≤ 4294967297 ∧ Hid (Dig v1 v0 r u0 q rh) ∧ w = wx)
      case atStart => exact ⟨q0, rh0, rfl, rfl, (by omega : rh0 + (M - rh0) = M), hr0, hq0, HD, rfl⟩
      case round =>
        obtain ⟨q, rh, rfl, rfl, HG, hr, hq, HD1, rfl⟩ := hrel
        clear HD hq0 hr0
        have hu : Hid (r < v1 * 4294967296 + v0) := (by have a := HR2.out; have b := HS.out.v_parts; omega : r < v1 * 4294967296 + v0)
        rcases dec_of (4294967296 ≤ (q : Int)) with ⟨hqd, hq'⟩ | ⟨hqd, hq'⟩
        · obtain ⟨m, em, hm⟩ := mul_words (q := q) (v0 := v0) (by omega) hv0
          have HM := Lib.hid hm; clear hm
          rcases dec_of (4294967296 * (rh : Int) + (u0 : Int) < (m : Int)) with ⟨hcd, hc⟩ | ⟨hcd, hc⟩
          · go_wp2
            go_meet
            case rel => exact ⟨q, rfl, HD1.out.stopV HS.out.v_parts HM.out (by omega), rfl⟩
          · have HN := Lib.hid (HD1.out.next hu0 hu.out (.inr (HM.out ▸ (by omega : 4294967296 * rh + u0 < m))))
            have hq1 : 1 ≤ q := (HD1.out.pos hu0 hu.out (.inr (HM.out ▸ (by omega : 4294967296 * rh + u0 < m)))).1
            rcases dec_of (4294967296 ≤ (rh : Int) + (v1 : Int)) with ⟨hrd, hrr⟩ | ⟨hrd, hrr⟩
            · go_wp2
              go_roundg (gk - v1)
              case measure => have := HG.out; omega
              case rel => exact ⟨q - 1, rh + v1, by go_num, by go_num, (by have := HG.out; omega : rh + v1 + (gk - v1) = M), by omega, by omega, HN.out.1, rfl⟩
            · go_wp2
              go_meet
              case rel => exact ⟨q - 1, by go_num, HN.out.1.brkV HS.out.v_parts hv0 HN.out.2 (by omega), rfl⟩
        · have HN := Lib.hid (HD1.out.next hu0 hu.out (.inl (by omega)))
          rcases dec_of (4294967296 ≤ (rh : Int) + (v1 : Int)) with ⟨hrd, hrr⟩ | ⟨hrd, hrr⟩
          · go_wp2
            go_roundg (gk - v1)
            case measure => have := HG.out; omega
            case rel => exact ⟨q - 1, rh + v1, by go_num, by go_num, (by have := HG.out; omega : rh + v1 + (gk - v1) = M), by omega, by omega, HN.out.1, rfl⟩
          · go_wp2
            go_meet
            case rel => exact ⟨q - 1, by go_num, HN.out.1.brkV HS.out.v_parts hv0 HN.out.2 (by omega), rfl⟩
    case rest =>
      obtain ⟨q2, rfl, HQ2, rfl⟩ := hcut
      have hq2 : q2 < 4294967296 := by rw [HQ2.out]; exact Dig.lt hu0 HR2.out
      obtain ⟨r2, er, hr3, -⟩ := rest_of HQ2.out hvp hvb
      have HE := Lib.hid (div_end HS.out HQ1.out HR1.out HQ2.out hr3)
      clear hr3
      go_wp2
      go_ret2
      exact ⟨by rw [← HE.out.1, ← HE.out.2]; rfl, rfl⟩

end Go.Proofs.YthaahebggboliaaGreat

-- DivZero
namespace Go.Proofs.YthaahebggboliaaGreat
open Go.RowKit
set_option linter.unusedVariables false

set_option maxRecDepth 100000 in
set_option maxHeartbeats 1000000 in
theorem div64_zero (lo y : Nat) (hy : 1 ≤ y) (hl : lo < 18446744073709551616) (hb : y < 18446744073709551616) (w : World) :
    Calls Tryz.prog 189 #[.int .u64 0, .int .u64 lo, .int .u64 y] w fun e w' => e = .returned (.tuple #[.int .u64 ((lo / y : Nat) : Int), .int .u64 ((lo % y : Nat) : Int)]) ∧ Grew w w' := by
  have h1 : ((y : Int) == 0) = false := by simp; omega
  have hq : lo / y ≤ lo := Nat.div_le_self lo y
  have e1 : IntKind.u64.wrap ((lo : Int) / (y : Int)) = ((lo / y : Nat) : Int) := by rw [← Int.natCast_ediv]; exact Mul64.wrapN _ (by omega)
  have e2 : (lo : Int) % (y : Int) = ((lo % y : Nat) : Int) := (Int.natCast_emod lo y).symm
  go_enter Tryz.func189, Tryz.ntmps189
  go_wp2
  go_region
  all_goals
    go_wp2
    go_ret2
    exact ⟨rfl, (Grew.refl _).drew⟩

theorem div64 (hi lo y : Nat) (hy : hi < y) (hl : lo < 18446744073709551616) (hb : y < 18446744073709551616) (w : World) :
    Calls Tryz.prog 189 #[.int .u64 hi, .int .u64 lo, .int .u64 y] w fun e w' => e = .returned (.tuple #[.int .u64 (((hi * 18446744073709551616 + lo) / y : Nat) : Int), .int .u64 (((hi * 18446744073709551616 + lo) % y : Nat) : Int)]) ∧ Grew w w' := by
  by_cases h : hi = 0
  · subst h
    refine (div64_zero lo y (by omega) hl hb w).mono ?_
    rintro e w' ⟨rfl, hg⟩
    exact ⟨by simp, hg⟩
  · refine (div64_far hi lo y (by omega) hy hl hb w).mono ?_
    rintro e w' ⟨rfl, rfl⟩
    exact ⟨rfl, Grew.refl _⟩

end Go.Proofs.YthaahebggboliaaGreat

-- MoneyMath
namespace Go.Proofs.YthaahebggboliaaGreat

/-- an amount: from -2^60 to 2^60 -/
def amtB (a : Int) : Bool := decide (-1152921504606846976 ≤ a ∧ a ≤ 1152921504606846976)
theorem amt_t {a : Int} (h : amtB a = true) : -1152921504606846976 ≤ a ∧ a ≤ 1152921504606846976 := of_decide_eq_true h
theorem amt_f {a : Int} (h : amtB a = false) : ¬ (-1152921504606846976 ≤ a ∧ a ≤ 1152921504606846976) := of_decide_eq_false h
theorem amt_mk {a : Int} (h1 : -1152921504606846976 ≤ a) (h2 : a ≤ 1152921504606846976) : amtB a = true := decide_eq_true ⟨h1, h2⟩
theorem amt_no {a : Int} (h : a < -1152921504606846976 ∨ 1152921504606846976 < a) : amtB a = false := decide_eq_false (by omega)

/-- the error of the first number that is no amount -/
def allE : List Int → Int
  | [] => 0
  | a :: l => if amtB a then allE l else 3
theorem allE_nil : allE [] = 0 := rfl
theorem allE_cons_t {a : Int} {l : List Int} (h : amtB a = true) : allE (a :: l) = allE l := by simp [allE, h]
theorem allE_cons_f {a : Int} {l : List Int} (h : amtB a = false) : allE (a :: l) = 3 := by simp [allE, h]
theorem allE_ok {l : List Int} (h : ∀ a ∈ l, amtB a = true) : allE l = 0 := by
  induction l with
  | nil => rfl
  | cons a l ih => rw [allE_cons_t (h a (by simp))]; exact ih fun b hb => h b (by simp [hb])
theorem allE_bad {l : List Int} {a : Int} (ha : a ∈ l) (h : amtB a = false) : allE l = 3 := by
  induction l with
  | nil => simp at ha
  | cons b l ih =>
    cases hb : amtB b with
    | false => exact allE_cons_f hb
    | true =>
      rw [allE_cons_t hb]
      rcases List.mem_cons.1 ha with rfl | h'
      · rw [h] at hb; cases hb
      · exact ih h'
theorem allE_cases (l : List Int) : (allE l = 0 ∧ ∀ a ∈ l, amtB a = true) ∨ (allE l = 3 ∧ ∃ a ∈ l, amtB a = false) := by
  induction l with
  | nil => exact .inl ⟨rfl, by simp⟩
  | cons b l ih =>
    cases hb : amtB b with
    | false => exact .inr ⟨allE_cons_f hb, b, by simp, hb⟩
    | true =>
      rw [allE_cons_t hb]
      rcases ih with ⟨h, hl⟩ | ⟨h, a, ha, h'⟩
      · exact .inl ⟨h, fun a ha => by
          rcases List.mem_cons.1 ha with e | ha
          · rw [e]; exact hb
          · exact hl a ha⟩
      · exact .inr ⟨h, a, by simp [ha], h'⟩

end Go.Proofs.YthaahebggboliaaGreat

-- MoneyA
namespace Go.Proofs.YthaahebggboliaaGreat
open Go.RowKit
set_option linter.unusedVariables false

theorem allE_take {zs : List Int} {k : Nat} (hk : k < zs.length) (hb : amtB (zs.getD k 0) = false) : allE zs = 3 := by
  refine allE_bad (a := zs.getD k 0) ?_ hb
  rw [List.getD_eq_getElem?_getD, List.getElem?_eq_getElem hk]
  simp

theorem checkAll_some (b off cap : Nat) (zs : List Int) (w : World) (hm : zs.length ≤ maxLen) (hc : ∀ j, j < zs.length → w.cell? ⟨b, off + j, none⟩ = some (.int .i64 (zs.getD j 0))) :
    Calls Tryz.prog 156 #[.slice (some ⟨b, off, none⟩) zs.length cap] w fun e w' => e = .returned (.int .i64 (allE zs)) ∧ w = w' := by
  unfold maxLen at hm
  have HC := Lib.hid hc; clear hc
  go_enter Tryz.func156, Tryz.ntmps156
  go_wp2
  go_loop [7] (fun i => ∃ k : Nat, k ≤ zs.length ∧ i = .int .i64 k ∧ Hid (∀ j, j < k → amtB (zs.getD j 0) = true)) (fun i => zs.length - (intOf i).toNat)
  case atStart => exact ⟨0, Nat.zero_le _, rfl, fun _ h => absurd h (Nat.not_lt_zero _)⟩
  case round =>
    obtain ⟨k, hk, rfl, HA⟩ := hrel
    by_cases hlt : k < zs.length
    · have hcell := HC.out k hlt
      generalize hz : zs.getD k 0 = z at hcell
      have HZ := Lib.hid hz; clear hz
      cases hb : amtB z with
      | true =>
        have hb' := amt_t hb
        have HB := Lib.hid hb; clear hb
        go_wp2
        go_round
        case rel => exact ⟨k + 1, by omega, by go_num, fun j hj => by
          rcases Nat.lt_succ_iff_lt_or_eq.1 hj with h | h
          · exact HA.out j h
          · rw [h, HZ.out]; exact HB.out⟩
        case measure => simp [intOf]; omega
      | false =>
        have hb' := amt_f hb
        have h3 := allE_take hlt (by rw [HZ.out]; exact hb)
        have H3 := Lib.hid h3; clear h3 hb
        by_cases h1 : z < -1152921504606846976
        · go_wp2
          go_ret
          exact ⟨ret_int H3.out.symm, rfl⟩
        · have h2 : 1152921504606846976 < z := by omega
          go_wp2
          go_ret
          exact ⟨ret_int H3.out.symm, rfl⟩
    · have e : allE zs = 0 := allE_ok fun a ha => by
        obtain ⟨j, hj, rfl⟩ := List.getElem_of_mem ha
        have := HA.out j (by omega)
        simpa [List.getD_eq_getElem?_getD, List.getElem?_eq_getElem hj] using this
      have E := Lib.hid e; clear e
      go_wp2
      go_ret
      exact ⟨ret_int E.out.symm, rfl⟩

theorem checkAll_none (cap : Nat) (a : Option Addr) (w : World) : Calls Tryz.prog 156 #[.slice a 0 cap] w fun e w' => e = .returned (.int .i64 0) ∧ w = w' := by
  go_enter Tryz.func156, Tryz.ntmps156
  go_wp2
  go_loop [7] (fun i => i = .int .i64 0) (fun _ => 0)
  case atStart => exact rfl
  case round =>
    obtain rfl := hrel
    go_wp2
    go_ret
    exact ⟨rfl, rfl⟩

theorem checkAll_any (v : Value) (zs : List Int) (w : World) (h : Reads w v zs) :
    Calls Tryz.prog 156 #[v] w fun e w' => e = .returned (.int .i64 (allE zs)) ∧ w = w' := by
  obtain ⟨a, cap, rfl, hm, hc⟩ := h
  by_cases h0 : zs = []
  · subst h0; exact checkAll_none cap a w
  · obtain ⟨b, off, rfl, -⟩ := hc 0 (by cases zs <;> simp at h0 ⊢)
    refine checkAll_some b off cap zs w hm fun j hj => ?_
    obtain ⟨b', off', e, h'⟩ := hc j hj
    simp only [Option.some.injEq, Addr.mk.injEq] at e
    obtain ⟨rfl, rfl, -⟩ := e
    exact h'

theorem checkAll1 (a : Int) (T : TypeId) (w : World) :
    Calls Tryz.prog 156 #[.slice (some ⟨w.heap.size, 0, none⟩) 1 1] (w.alloc (.cells #[.int .i64 a] T)) fun e w' => e = .returned (.int .i64 (allE [a])) ∧ w.alloc (.cells #[.int .i64 a] T) = w' :=
  checkAll_some w.heap.size 0 1 [a] _ (by unfold maxLen; simp) fun j hj => by
    obtain rfl : j = 0 := by simpa using hj
    simp [go_sem]

theorem checkAll1_ok (a : Int) (T : TypeId) (w : World) (h : amtB a = true) :
    Calls Tryz.prog 156 #[.slice (some ⟨w.heap.size, 0, none⟩) 1 1] (w.alloc (.cells #[.int .i64 a] T)) fun e w' => e = .returned (.int .i64 0) ∧ w.alloc (.cells #[.int .i64 a] T) = w' := by
  refine (checkAll1 a T w).mono ?_
  rintro e w' ⟨rfl, rfl⟩
  exact ⟨ret_int ((allE_cons_t (l := []) h).trans allE_nil), rfl⟩

theorem checkAll1_no (a : Int) (T : TypeId) (w : World) (h : amtB a = false) :
    Calls Tryz.prog 156 #[.slice (some ⟨w.heap.size, 0, none⟩) 1 1] (w.alloc (.cells #[.int .i64 a] T)) fun e w' => e = .returned (.int .i64 3) ∧ w.alloc (.cells #[.int .i64 a] T) = w' := by
  refine (checkAll1 a T w).mono ?_
  rintro e w' ⟨rfl, rfl⟩
  exact ⟨ret_int (allE_cons_f (l := []) h), rfl⟩

theorem checkAll2 (a b : Int) (T : TypeId) (w : World) :
    Calls Tryz.prog 156 #[.slice (some ⟨w.heap.size, 0, none⟩) 2 2] (w.alloc (.cells #[.int .i64 a, .int .i64 b] T)) fun e w' => e = .returned (.int .i64 (allE [a, b])) ∧ w.alloc (.cells #[.int .i64 a, .int .i64 b] T) = w' :=
  checkAll_some w.heap.size 0 2 [a, b] _ (by unfold maxLen; simp) fun j hj => by
    rcases (show j = 0 ∨ j = 1 by simp at hj; omega) with rfl | rfl <;> simp [go_sem]

theorem check_ok (a : Int) (w : World) (h : amtB a = true) :
    Calls Tryz.prog 132 #[.int .i64 a] w fun e w' => e = .returned (.int .i64 0) ∧ Grew w w' := by
  have E := Lib.hid ((allE_cons_t (l := []) h).trans allE_nil)
  clear h
  go_enter Tryz.func132, Tryz.ntmps132
  go_wp2_with (go_at_call 156; refine (checkAll1 _ _ _).mono ?_; rintro e w' ⟨rfl, rfl⟩)
  go_ret
  exact ⟨ret_int E.out, (Grew.refl _).alloc _ _⟩

theorem check_no (a : Int) (w : World) (h : amtB a = false) :
    Calls Tryz.prog 132 #[.int .i64 a] w fun e w' => e = .returned (.int .i64 3) ∧ Grew w w' := by
  have E := Lib.hid (allE_cons_f (l := []) h)
  clear h
  go_enter Tryz.func132, Tryz.ntmps132
  go_wp2_with (go_at_call 156; refine (checkAll1 _ _ _).mono ?_; rintro e w' ⟨rfl, rfl⟩)
  go_ret
  exact ⟨ret_int E.out, (Grew.refl _).alloc _ _⟩

theorem asAmount_ok (a : Int) (w : World) (h : amtB a = true) :
    Calls Tryz.prog 184 #[.int .i64 a] w fun e w' => e = .returned (.tuple #[.int .i64 a, .int .i64 0]) ∧ Grew w w' := by
  go_enter Tryz.func184, Tryz.ntmps184
  go_wp2_with (go_at_call 132; refine (check_ok _ _ h).mono ?_; rintro e w' ⟨rfl, hg⟩)
  go_ret2
  exact ⟨rfl, hg⟩

theorem asAmount_no (a : Int) (w : World) (h : amtB a = false) :
    Calls Tryz.prog 184 #[.int .i64 a] w fun e w' => e = .returned (.tuple #[.int .i64 0, .int .i64 8]) ∧ Grew w w' := by
  go_enter Tryz.func184, Tryz.ntmps184
  go_wp2_with (go_at_call 132; refine (check_no _ _ h).mono ?_; rintro e w' ⟨rfl, hg⟩)
  go_ret2
  exact ⟨rfl, hg⟩

end Go.Proofs.YthaahebggboliaaGreat

-- PartWalk
namespace Go.Proofs.YthaahebggboliaaGreat
open Go.RowKit
set_option linter.unusedVariables false

theorem mul64_any (x y : Nat) (hx : x < 18446744073709551616) (hy : y < 18446744073709551616) (w : World) :
    Calls Tryz.prog 188 #[.int .u64 x, .int .u64 y] w fun e w' => (∃ hi lo : Nat, e = .returned (.tuple #[.int .u64 hi, .int .u64 lo]) ∧ hi * 18446744073709551616 + lo = x * y ∧ lo < 18446744073709551616) ∧ w = w' := by
  refine (Tryz.bits_Mul64 x y hx hy w).mono ?_
  rintro e w' ⟨rfl, rfl⟩
  exact ⟨⟨_, _, rfl, by have := Nat.div_add_mod (x * y) 18446744073709551616; omega, Nat.mod_lt _ (by omega)⟩, rfl⟩

theorem div64_any (hi lo y n : Nat) (hn : hi * 18446744073709551616 + lo = n) (hy : hi < y) (hl : lo < 18446744073709551616) (hb : y < 18446744073709551616) (w : World) :
    Calls Tryz.prog 189 #[.int .u64 hi, .int .u64 lo, .int .u64 y] w fun e w' => (∃ q r : Nat, e = .returned (.tuple #[.int .u64 q, .int .u64 r]) ∧ q = n / y ∧ r = n % y) ∧ Grew w w' := by
  subst hn
  refine (div64 hi lo y hy hl hb w).mono ?_
  rintro e w' ⟨rfl, hg⟩
  exact ⟨⟨_, _, rfl, rfl, rfl⟩, hg⟩

theorem wide_hi {hi lo n c : Nat} (hn : hi * 18446744073709551616 + lo = n) (hc : c ≤ hi) (h1 : 1 ≤ c) : 1152921504606846976 < n / c := by
  have : 18446744073709551616 * c ≤ n := by omega
  have := (Nat.le_div_iff_mul_le (by omega)).2 this
  omega

set_option maxHeartbeats 400000 in
theorem divide_ok (a b c : Nat) (ha : a ≤ 1152921504606846976) (hb : b ≤ 1099511627776) (hc : 1 ≤ c) (hc' : c ≤ 1099511627776) (h : a * b / c ≤ 1152921504606846976) (w : World) :
    Calls Tryz.prog 182 #[.int .i64 a, .int .i64 b, .int .i64 c] w fun e w' => e = .returned (.tuple #[.int .i64 ((a * b / c : Nat) : Int), .int .i64 ((a * b % c : Nat) : Int), .bool true]) ∧ Grew w w' := by
  have H := Lib.hid h; clear h
  go_enter Tryz.func182, Tryz.ntmps182
  go_wp2_with (first
    | (go_at_call 188; refine (mul64_any a b (by omega) (by omega) _).mono ?_; rintro e w' ⟨⟨hi, lo, rfl, hn, hlo⟩, rfl⟩; have HN := Lib.hid hn; clear hn; have hhi : hi < c := Nat.lt_of_not_le (fun hh => by have := wide_hi HN.out hh hc; have := H.out; omega); have hhd : decide (c ≤ hi) = false := decide_eq_false (by omega))
    | (go_at_call 189; refine (div64_any _ _ c _ HN.out hhi hlo (by omega) _).mono ?_; rintro e w' ⟨⟨q, r, rfl, hq, hr⟩, hg⟩; have hq1 : q ≤ 1152921504606846976 := (by rw [hq]; exact H.out); have hr1 : r < c := (by rw [hr]; exact Nat.mod_lt _ (by omega)); have HQ := Lib.hid hq; have HR := Lib.hid hr; clear hq hr))
  go_ret3
  exact ⟨by rw [← HQ.out, ← HR.out]; rfl, hg⟩

set_option maxHeartbeats 400000 in
theorem divide_no (a b c : Nat) (ha : a ≤ 1152921504606846976) (hb : b ≤ 1099511627776) (hc : 1 ≤ c) (hc' : c ≤ 1099511627776) (h : 1152921504606846976 < a * b / c) (w : World) :
    Calls Tryz.prog 182 #[.int .i64 a, .int .i64 b, .int .i64 c] w fun e w' => e = .returned (.tuple #[.int .i64 0, .int .i64 0, .bool false]) ∧ Grew w w' := by
  have H := Lib.hid h; clear h
  go_enter Tryz.func182, Tryz.ntmps182
  go_wp2_with (first
    | (go_at_call 188; refine (mul64_any a b (by omega) (by omega) _).mono ?_; rintro e w' ⟨⟨hi, lo, rfl, hn, hlo⟩, rfl⟩; have HN := Lib.hid hn; clear hn; by_cases hhi : c ≤ hi)
    | (go_at_call 189; refine (div64_any _ _ c _ HN.out (by omega) hlo (by omega) _).mono ?_; rintro e w' ⟨⟨q, r, rfl, hq, hr⟩, hg⟩; have hq1 : 1152921504606846976 < q := (by rw [hq]; exact H.out); clear hq hr))
  · go_ret3
    exact ⟨rfl, Grew.refl _⟩
  · go_ret3
    exact ⟨rfl, hg⟩

end Go.Proofs.YthaahebggboliaaGreat

-- Part2
namespace Go.Proofs.YthaahebggboliaaGreat
open Go.RowKit
set_option linter.unusedVariables false

theorem neg_div_zero {n c : Nat} (hc : 1 ≤ c) (h : n % c = 0) : (-(n : Int)) / (c : Int) = -((n / c : Nat) : Int) ∧ (-(n : Int)) % (c : Int) = 0 := by
  have e := Nat.div_add_mod n c
  refine (Int.ediv_emod_unique (by omega)).2 ⟨?_, Int.le_refl _, by omega⟩
  rw [h, Nat.add_zero] at e
  have e' : (c : Int) * ((n / c : Nat) : Int) = (n : Int) := by rw [← Int.natCast_mul, e]
  rw [Int.mul_neg, e']; omega
theorem neg_div_rest {n c : Nat} (hc : 1 ≤ c) (h : n % c ≠ 0) : (-(n : Int)) / (c : Int) = -((n / c : Nat) : Int) - 1 ∧ (-(n : Int)) % (c : Int) = (c : Int) - ((n % c : Nat) : Int) := by
  have e := Nat.div_add_mod n c
  have hm := Nat.mod_lt n (show 0 < c by omega)
  refine (Int.ediv_emod_unique (by omega)).2 ⟨?_, by omega, by omega⟩
  have e' : (c : Int) * ((n / c : Nat) : Int) = ((c * (n / c) : Nat) : Int) := (Int.natCast_mul _ _).symm
  rw [Int.mul_sub, Int.mul_neg, e', Int.mul_one]; omega

theorem negate_zero (q c : Nat) (hq : q ≤ 1152921504606846976) (w : World) :
    Calls Tryz.prog 183 #[.int .i64 q, .int .i64 0, .int .i64 c] w fun e w' => e = .returned (.tuple #[.int .i64 (-(q : Int)), .int .i64 0]) ∧ w = w' := by
  go_enter Tryz.func183, Tryz.ntmps183
  go_wp2
  go_ret2
  exact ⟨rfl, rfl⟩
theorem negate_rest (q r c : Nat) (hq : q ≤ 1152921504606846976) (hr : 1 ≤ r) (hr' : r < c) (hc : c ≤ 1099511627776) (w : World) :
    Calls Tryz.prog 183 #[.int .i64 q, .int .i64 r, .int .i64 c] w fun e w' => e = .returned (.tuple #[.int .i64 (-(q : Int) - 1), .int .i64 ((c : Int) - (r : Int))]) ∧ w = w' := by
  go_enter Tryz.func183, Tryz.ntmps183
  go_wp2
  go_ret2
  exact ⟨rfl, rfl⟩

set_option maxHeartbeats 400000 in
theorem part_pos_ok (a b c : Nat) (ha : a ≤ 1152921504606846976) (hb : b ≤ 1099511627776) (hc : 1 ≤ c) (hc' : c ≤ 1099511627776) (h : a * b / c ≤ 1152921504606846976) (w : World) :
    Calls Tryz.prog 174 #[.int .i64 a, .int .i64 b, .int .i64 c] w fun e w' => e = .returned (.tuple #[.int .i64 ((a * b / c : Nat) : Int), .int .i64 ((a * b % c : Nat) : Int), .int .i64 0]) ∧ Grew w w' := by
  have H := Lib.hid h; clear h
  have em : max (a : Int) (-(a : Int)) = (a : Int) := by omega
  obtain ⟨q, hq⟩ : ∃ q, q = a * b / c := ⟨_, rfl⟩
  obtain ⟨r, hr⟩ : ∃ r, r = a * b % c := ⟨_, rfl⟩
  have hq1 : q ≤ 1152921504606846976 := by rw [hq]; exact H.out
  rw [← hq, ← hr]
  have cd := divide_ok a b c ha hb hc hc' H.out
  rw [← hq, ← hr] at cd
  have CD := Lib.hid cd
  clear cd hq hr H
  go_enter Tryz.func174, Tryz.ntmps174
  go_wp2_with (first
    | (go_at_call 156; (with_reducible refine (checkAll1_ok _ _ _ (amt_mk (by omega) (by omega))).mono ?_); rintro e w' ⟨rfl, rfl⟩)
    | (go_at_call 182; (with_reducible refine (CD.out _).mono ?_); rintro e w' ⟨rfl, hg⟩)
    | (go_at_call 184; (with_reducible refine (asAmount_ok _ _ (amt_mk (by omega) (by omega))).mono ?_); rintro e w' ⟨rfl, hg2⟩))
  go_ret3
  exact ⟨rfl, gtr (gtr ((Grew.refl _).alloc _ _) hg) hg2⟩

set_option maxHeartbeats 400000 in
theorem part_pos_wide (a b c : Nat) (ha : a ≤ 1152921504606846976) (hb : b ≤ 1099511627776) (hc : 1 ≤ c) (hc' : c ≤ 1099511627776) (h : 1152921504606846976 < a * b / c) (w : World) :
    Calls Tryz.prog 174 #[.int .i64 a, .int .i64 b, .int .i64 c] w fun e w' => e = .returned (.tuple #[.int .i64 0, .int .i64 0, .int .i64 8]) ∧ Grew w w' := by
  have em : max (a : Int) (-(a : Int)) = (a : Int) := by omega
  have CD := Lib.hid (divide_no a b c ha hb hc hc' h)
  clear h
  go_enter Tryz.func174, Tryz.ntmps174
  go_wp2_with (first
    | (go_at_call 156; (with_reducible refine (checkAll1_ok _ _ _ (amt_mk (by omega) (by omega))).mono ?_); rintro e w' ⟨rfl, rfl⟩)
    | (go_at_call 182; (with_reducible refine (CD.out _).mono ?_); rintro e w' ⟨rfl, hg⟩))
  go_ret3
  exact ⟨rfl, gtr ((Grew.refl _).alloc _ _) hg⟩

set_option maxHeartbeats 400000 in
theorem part_neg_wide (a b c : Nat) (ha0 : 1 ≤ a) (ha : a ≤ 1152921504606846976) (hb : b ≤ 1099511627776) (hc : 1 ≤ c) (hc' : c ≤ 1099511627776) (h : 1152921504606846976 < a * b / c) (w : World) :
    Calls Tryz.prog 174 #[.int .i64 (-(a : Int)), .int .i64 b, .int .i64 c] w fun e w' => e = .returned (.tuple #[.int .i64 0, .int .i64 0, .int .i64 8]) ∧ Grew w w' := by
  have em : max (-(a : Int)) (a : Int) = (a : Int) := by omega
  have CD := Lib.hid (divide_no a b c ha hb hc hc' h)
  clear h
  go_enter Tryz.func174, Tryz.ntmps174
  go_wp2_with (first
    | (go_at_call 156; (with_reducible refine (checkAll1_ok _ _ _ (amt_mk (by omega) (by omega))).mono ?_); rintro e w' ⟨rfl, rfl⟩)
    | (go_at_call 182; (with_reducible refine (CD.out _).mono ?_); rintro e w' ⟨rfl, hg⟩))
  go_ret3
  exact ⟨rfl, gtr ((Grew.refl _).alloc _ _) hg⟩

set_option maxHeartbeats 400000 in
theorem part_neg_zero (a b c : Nat) (ha0 : 1 ≤ a) (ha : a ≤ 1152921504606846976) (hb : b ≤ 1099511627776) (hc : 1 ≤ c) (hc' : c ≤ 1099511627776) (h : a * b / c ≤ 1152921504606846976) (hz : a * b % c = 0) (w : World) :
    Calls Tryz.prog 174 #[.int .i64 (-(a : Int)), .int .i64 b, .int .i64 c] w fun e w' => e = .returned (.tuple #[.int .i64 (-((a * b / c : Nat) : Int)), .int .i64 0, .int .i64 0]) ∧ Grew w w' := by
  have em : max (-(a : Int)) (a : Int) = (a : Int) := by omega
  have cd := divide_ok a b c ha hb hc hc' h
  rw [hz] at cd
  obtain ⟨q, hq⟩ : ∃ q, q = a * b / c := ⟨_, rfl⟩
  have hq1 : q ≤ 1152921504606846976 := by rw [hq]; exact h
  rw [← hq] at cd ⊢
  have CD := Lib.hid cd
  clear cd hq h hz
  go_enter Tryz.func174, Tryz.ntmps174
  go_wp2_with (first
    | (go_at_call 156; (with_reducible refine (checkAll1_ok _ _ _ (amt_mk (by omega) (by omega))).mono ?_); rintro e w' ⟨rfl, rfl⟩)
    | (go_at_call 182; (with_reducible refine (CD.out _).mono ?_); rintro e w' ⟨rfl, hg⟩)
    | (go_at_call 183; (with_reducible refine (negate_zero q c hq1 _).mono ?_); rintro e w' ⟨rfl, rfl⟩)
    | (go_at_call 184; (with_reducible refine (asAmount_ok _ _ (amt_mk (by omega) (by omega))).mono ?_); rintro e w' ⟨rfl, hg2⟩))
  go_ret3
  exact ⟨rfl, gtr (gtr ((Grew.refl _).alloc _ _) hg) hg2⟩

set_option maxHeartbeats 400000 in
theorem part_neg_rest (a b c : Nat) (ha0 : 1 ≤ a) (ha : a ≤ 1152921504606846976) (hb : b ≤ 1099511627776) (hc : 1 ≤ c) (hc' : c ≤ 1099511627776) (h : a * b / c < 1152921504606846976) (hz : a * b % c ≠ 0) (w : World) :
    Calls Tryz.prog 174 #[.int .i64 (-(a : Int)), .int .i64 b, .int .i64 c] w fun e w' => e = .returned (.tuple #[.int .i64 (-((a * b / c : Nat) : Int) - 1), .int .i64 ((c : Int) - ((a * b % c : Nat) : Int)), .int .i64 0]) ∧ Grew w w' := by
  have em : max (-(a : Int)) (a : Int) = (a : Int) := by omega
  have cd := divide_ok a b c ha hb hc hc' (by omega)
  obtain ⟨q, hq⟩ : ∃ q, q = a * b / c := ⟨_, rfl⟩
  obtain ⟨r, hr⟩ : ∃ r, r = a * b % c := ⟨_, rfl⟩
  have hq1 : q < 1152921504606846976 := by rw [hq]; exact h
  have hr1 : 1 ≤ r := by omega
  have hr2 : r < c := by rw [hr]; exact Nat.mod_lt _ (by omega)
  rw [← hq, ← hr] at cd ⊢
  have CD := Lib.hid cd
  clear cd hq hr h hz
  go_enter Tryz.func174, Tryz.ntmps174
  go_wp2_with (first
    | (go_at_call 156; (with_reducible refine (checkAll1_ok _ _ _ (amt_mk (by omega) (by omega))).mono ?_); rintro e w' ⟨rfl, rfl⟩)
    | (go_at_call 182; (with_reducible refine (CD.out _).mono ?_); rintro e w' ⟨rfl, hg⟩)
    | (go_at_call 183; (with_reducible refine (negate_rest q r c (by omega) hr1 hr2 hc' _).mono ?_); rintro e w' ⟨rfl, rfl⟩)
    | (go_at_call 184; (with_reducible refine (asAmount_ok _ _ (amt_mk (by omega) (by omega))).mono ?_); rintro e w' ⟨rfl, hg2⟩))
  go_ret3
  exact ⟨rfl, gtr (gtr ((Grew.refl _).alloc _ _) hg) hg2⟩

set_option maxHeartbeats 400000 in
theorem part_neg_edge (a b c : Nat) (ha0 : 1 ≤ a) (ha : a ≤ 1152921504606846976) (hb : b ≤ 1099511627776) (hc : 1 ≤ c) (hc' : c ≤ 1099511627776) (h : a * b / c = 1152921504606846976) (hz : a * b % c ≠ 0) (w : World) :
    Calls Tryz.prog 174 #[.int .i64 (-(a : Int)), .int .i64 b, .int .i64 c] w fun e w' => e = .returned (.tuple #[.int .i64 0, .int .i64 0, .int .i64 8]) ∧ Grew w w' := by
  have em : max (-(a : Int)) (a : Int) = (a : Int) := by omega
  have cd := divide_ok a b c ha hb hc hc' (by omega)
  obtain ⟨q, hq⟩ : ∃ q, q = a * b / c := ⟨_, rfl⟩
  obtain ⟨r, hr⟩ : ∃ r, r = a * b % c := ⟨_, rfl⟩
  have hq1 : q ≤ 1152921504606846976 := by omega
  have hq2 : 1152921504606846976 ≤ q := by omega
  have hr1 : 1 ≤ r := by omega
  have hr2 : r < c := by rw [hr]; exact Nat.mod_lt _ (by omega)
  rw [← hq, ← hr] at cd
  have CD := Lib.hid cd
  clear cd hq hr h hz
  go_enter Tryz.func174, Tryz.ntmps174
  go_wp2_with (first
    | (go_at_call 156; (with_reducible refine (checkAll1_ok _ _ _ (amt_mk (by omega) (by omega))).mono ?_); rintro e w' ⟨rfl, rfl⟩)
    | (go_at_call 182; (with_reducible refine (CD.out _).mono ?_); rintro e w' ⟨rfl, hg⟩)
    | (go_at_call 183; (with_reducible refine (negate_rest q r c (by omega) hr1 hr2 hc' _).mono ?_); rintro e w' ⟨rfl, rfl⟩)
    | (go_at_call 184; (with_reducible refine (asAmount_no _ _ (amt_no (by omega))).mono ?_); rintro e w' ⟨rfl, hg2⟩))
  go_ret3
  exact ⟨rfl, gtr (gtr ((Grew.refl _).alloc _ _) hg) hg2⟩

/-- the limits of what an amount is multiplied with, and divided by -/
def rngB (b c : Int) : Bool := decide (0 ≤ b ∧ b ≤ 1099511627776 ∧ 1 ≤ c ∧ c ≤ 1099511627776)
theorem rng_t {b c : Int} (h : rngB b c = true) : 0 ≤ b ∧ b ≤ 1099511627776 ∧ 1 ≤ c ∧ c ≤ 1099511627776 := of_decide_eq_true h
theorem rng_f {b c : Int} (h : rngB b c = false) : ¬ (0 ≤ b ∧ b ≤ 1099511627776 ∧ 1 ≤ c ∧ c ≤ 1099511627776) := of_decide_eq_false h
theorem rng_mk {b c : Int} (h1 : 0 ≤ b) (h2 : b ≤ 1099511627776) (h3 : 1 ≤ c) (h4 : c ≤ 1099511627776) : rngB b c = true := decide_eq_true ⟨h1, h2, h3, h4⟩

theorem part_ok (a b c : Int) (ha : amtB a = true) (hr : rngB b c = true) (hq : amtB (a * b / c) = true) (w : World) :
    Calls Tryz.prog 174 #[.int .i64 a, .int .i64 b, .int .i64 c] w fun e w' => e = .returned (.tuple #[.int .i64 (a * b / c), .int .i64 (a * b % c), .int .i64 0]) ∧ Grew w w' := by
  obtain ⟨hb0, hb1, hc0, hc1⟩ := rng_t hr
  obtain ⟨ha0, ha1⟩ := amt_t ha
  obtain ⟨hq0, hq1⟩ := amt_t hq
  obtain ⟨b, rfl⟩ := Int.eq_ofNat_of_zero_le hb0
  obtain ⟨c, rfl⟩ := Int.eq_ofNat_of_zero_le (show 0 ≤ c by omega)
  by_cases h0 : 0 ≤ a
  · obtain ⟨a, rfl⟩ := Int.eq_ofNat_of_zero_le h0
    have e1 : (a : Int) * (b : Int) / (c : Int) = ((a * b / c : Nat) : Int) := by rw [Int.natCast_ediv, Int.natCast_mul]
    have e2 : (a : Int) * (b : Int) % (c : Int) = ((a * b % c : Nat) : Int) := by rw [Int.natCast_emod, Int.natCast_mul]
    rw [e1] at hq1
    rw [e1, e2]
    exact part_pos_ok a b c (by omega) (by omega) (by omega) (by omega) (by omega) w
  · obtain ⟨n, hn⟩ := Int.eq_ofNat_of_zero_le (show 0 ≤ -a by omega)
    obtain rfl : a = -(n : Int) := by omega
    have e0 : -(n : Int) * (b : Int) = -((n * b : Nat) : Int) := by rw [Int.neg_mul, Int.natCast_mul]
    rw [e0] at hq0 hq1 ⊢
    by_cases hz : n * b % c = 0
    · have z := neg_div_zero (n := n * b) (c := c) (by omega) hz
      rw [z.1] at hq0
      rw [z.1, z.2]
      exact part_neg_zero n b c (by omega) (by omega) (by omega) (by omega) (by omega) (by omega) hz w
    · have z := neg_div_rest (n := n * b) (c := c) (by omega) hz
      rw [z.1] at hq0
      rw [z.1, z.2]
      exact part_neg_rest n b c (by omega) (by omega) (by omega) (by omega) (by omega) (by omega) hz w

theorem wide_nat {q : Nat} (h : ¬ (-1152921504606846976 ≤ (q : Int) ∧ (q : Int) ≤ 1152921504606846976)) : 1152921504606846976 < q := by omega
theorem wide_neg {q : Nat} (h : ¬ (-1152921504606846976 ≤ -(q : Int) ∧ -(q : Int) ≤ 1152921504606846976)) : 1152921504606846976 < q := by omega
theorem wide_edge {q : Nat} (h : ¬ (-1152921504606846976 ≤ -(q : Int) - 1 ∧ -(q : Int) - 1 ≤ 1152921504606846976)) (hw : ¬ 1152921504606846976 < q) : q = 1152921504606846976 := by omega

theorem part_wide (a b c : Int) (ha : amtB a = true) (hr : rngB b c = true) (hq : amtB (a * b / c) = false) (w : World) :
    Calls Tryz.prog 174 #[.int .i64 a, .int .i64 b, .int .i64 c] w fun e w' => e = .returned (.tuple #[.int .i64 0, .int .i64 0, .int .i64 8]) ∧ Grew w w' := by
  obtain ⟨hb0, hb1, hc0, hc1⟩ := rng_t hr
  obtain ⟨ha0, ha1⟩ := amt_t ha
  have hq0 := amt_f hq
  obtain ⟨b, rfl⟩ := Int.eq_ofNat_of_zero_le hb0
  obtain ⟨c, rfl⟩ := Int.eq_ofNat_of_zero_le (show 0 ≤ c by omega)
  by_cases h0 : 0 ≤ a
  · obtain ⟨a, rfl⟩ := Int.eq_ofNat_of_zero_le h0
    have e1 : (a : Int) * (b : Int) / (c : Int) = ((a * b / c : Nat) : Int) := by rw [Int.natCast_ediv, Int.natCast_mul]
    rw [e1] at hq0
    exact part_pos_wide a b c (by omega) (by omega) (by omega) (by omega) (wide_nat hq0) w
  · obtain ⟨n, hn⟩ := Int.eq_ofNat_of_zero_le (show 0 ≤ -a by omega)
    obtain rfl : a = -(n : Int) := by omega
    have e0 : -(n : Int) * (b : Int) = -((n * b : Nat) : Int) := by rw [Int.neg_mul, Int.natCast_mul]
    rw [e0] at hq0
    by_cases hz : n * b % c = 0
    · have z := neg_div_zero (n := n * b) (c := c) (by omega) hz
      rw [z.1] at hq0
      exact part_neg_wide n b c (by omega) (by omega) (by omega) (by omega) (by omega) (wide_neg hq0) w
    · have z := neg_div_rest (n := n * b) (c := c) (by omega) hz
      rw [z.1] at hq0
      by_cases hw : 1152921504606846976 < n * b / c
      · exact part_neg_wide n b c (by omega) (by omega) (by omega) (by omega) (by omega) hw w
      · exact part_neg_edge n b c (by omega) (by omega) (by omega) (by omega) (by omega) (wide_edge hq0 hw) hz w

theorem part_no (a b c : Int) (ha : amtB a = false) (w : World) :
    Calls Tryz.prog 174 #[.int .i64 a, .int .i64 b, .int .i64 c] w fun e w' => e = .returned (.tuple #[.int .i64 0, .int .i64 0, .int .i64 3]) ∧ Grew w w' := by
  go_enter Tryz.func174, Tryz.ntmps174
  go_wp2_with (go_at_call 156; (with_reducible refine (checkAll1_no _ _ _ ha).mono ?_); rintro e w' ⟨rfl, rfl⟩)
  go_ret3
  exact ⟨rfl, (Grew.refl _).alloc _ _⟩

theorem part_rng (a b c : Int) (ha : amtB a = true) (hr : rngB b c = false) (w : World) :
    Calls Tryz.prog 174 #[.int .i64 a, .int .i64 b, .int .i64 c] w fun e w' => e = .returned (.tuple #[.int .i64 0, .int .i64 0, .int .i64 3]) ∧ Grew w w' := by
  have h := rng_f hr
  clear hr
  by_cases h1 : b < 0
  · go_enter Tryz.func174, Tryz.ntmps174
    go_wp2_with (go_at_call 156; (with_reducible refine (checkAll1_ok _ _ _ ha).mono ?_); rintro e w' ⟨rfl, rfl⟩)
    go_ret3
    exact ⟨rfl, (Grew.refl _).alloc _ _⟩
  · by_cases h2 : 1099511627776 < b
    · go_enter Tryz.func174, Tryz.ntmps174
      go_wp2_with (go_at_call 156; (with_reducible refine (checkAll1_ok _ _ _ ha).mono ?_); rintro e w' ⟨rfl, rfl⟩)
      go_ret3
      exact ⟨rfl, (Grew.refl _).alloc _ _⟩
    · by_cases h3 : c < 1
      · go_enter Tryz.func174, Tryz.ntmps174
        go_wp2_with (go_at_call 156; (with_reducible refine (checkAll1_ok _ _ _ ha).mono ?_); rintro e w' ⟨rfl, rfl⟩)
        go_ret3
        exact ⟨rfl, (Grew.refl _).alloc _ _⟩
      · have h4 : 1099511627776 < c := by omega
        go_enter Tryz.func174, Tryz.ntmps174
        go_wp2_with (go_at_call 156; (with_reducible refine (checkAll1_ok _ _ _ ha).mono ?_); rintro e w' ⟨rfl, rfl⟩)
        go_ret3
        exact ⟨rfl, (Grew.refl _).alloc _ _⟩

end Go.Proofs.YthaahebggboliaaGreat
