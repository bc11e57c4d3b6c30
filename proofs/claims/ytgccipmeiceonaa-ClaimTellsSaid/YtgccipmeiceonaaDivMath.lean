/-
  The arithmetic of a division of two words by one, digit by digit of 32 bits. Nothing of the program is used here.
-/
import Derived.Below
import Derived.Lib.BitFns
import Derived.Laws.Bits64b
import Derived.Shelf.Bits.Mul64
namespace Go.Proofs.Ytgccipmeiceonaa

theorem dig_le {q v1 v0 rh u u1 : Nat} (h : q * v1 + rh = u) (hs : q * v0 ≤ 4294967296 * rh + u1) : q * (v1 * 4294967296 + v0) ≤ u * 4294967296 + u1 := by
  subst h
  have e1 : q * (v1 * 4294967296 + v0) = q * v1 * 4294967296 + q * v0 := by rw [Nat.mul_add, ← Nat.mul_assoc]
  have e2 : (q * v1 + rh) * 4294967296 = q * v1 * 4294967296 + rh * 4294967296 := Nat.add_mul _ _ _
  omega
theorem dig_gt {q v1 v0 rh u u1 : Nat} (h : q * v1 + rh = u) (hs : 4294967296 * rh + u1 < q * v0) : u * 4294967296 + u1 < q * (v1 * 4294967296 + v0) := by
  subst h
  have e1 : q * (v1 * 4294967296 + v0) = q * v1 * 4294967296 + q * v0 := by rw [Nat.mul_add, ← Nat.mul_assoc]
  have e2 : (q * v1 + rh) * 4294967296 = q * v1 * 4294967296 + rh * 4294967296 := Nat.add_mul _ _ _
  omega
theorem dig_big {q v u u1 : Nat} (hu : u < v) (h1 : u1 < 4294967296) (hq : 4294967296 ≤ q) : u * 4294967296 + u1 < q * v := by
  have : 4294967296 * v ≤ q * v := Nat.mul_le_mul_right v hq
  omega
theorem dig_first {v v1 v0 u : Nat} (hv : v = v1 * 4294967296 + v0) (h1 : 2147483648 ≤ v1) (h0 : v0 < 4294967296) (hu : u < v) : u / v1 ≤ 4294967297 := by
  refine Nat.le_of_lt_succ (Nat.div_lt_of_lt_mul ?_)
  have : v1 * (4294967297 + 1) = v1 * 4294967298 := rfl
  omega
theorem dig_start {v1 v0 u u1 : Nat} (h1 : 0 < v1) (hu1 : u1 < 4294967296) : u * 4294967296 + u1 < (u / v1 + 1) * (v1 * 4294967296 + v0) := by
  have hd := Nat.div_add_mod u v1
  have hm := Nat.mod_lt u h1
  have e1 : (u / v1 + 1) * (v1 * 4294967296 + v0) = (v1 * (u / v1)) * 4294967296 + v1 * 4294967296 + (u / v1 + 1) * v0 := by
    rw [Nat.mul_add, ← Nat.mul_assoc, Nat.add_mul (u / v1) 1 v1, Nat.one_mul, Nat.mul_comm (u / v1) v1, Nat.add_mul]
  omega
/-- the invariant of a digit's loop -/
structure Dig (v1 v0 u u1 q rh : Nat) : Prop where
  sum : q * v1 + rh = u
  above : u * 4294967296 + u1 < (q + 1) * (v1 * 4294967296 + v0)
  top : q ≤ 4294967297
theorem Dig.start {v1 v0 u u1 : Nat} (h1 : 2147483648 ≤ v1) (h0 : v0 < 4294967296) (hu1 : u1 < 4294967296) (hu : u < v1 * 4294967296 + v0) : Dig v1 v0 u u1 (u / v1) (u - u / v1 * v1) := by
  refine ⟨?_, dig_start (by omega) hu1, dig_first rfl h1 h0 hu⟩
  have := Nat.div_mul_le_self u v1
  omega
theorem Dig.pos {v1 v0 u u1 q rh : Nat} (hu1 : u1 < 4294967296) (hu : u < v1 * 4294967296 + v0) (h : Dig v1 v0 u u1 q rh) (hc : 4294967296 ≤ q ∨ 4294967296 * rh + u1 < q * v0) : 1 ≤ q ∧ u * 4294967296 + u1 < q * (v1 * 4294967296 + v0) := by
  rcases hc with hc | hc
  · exact ⟨by omega, dig_big hu hu1 hc⟩
  · refine ⟨?_, dig_gt h.sum hc⟩
    rcases Nat.eq_zero_or_pos q with e | e
    · subst e; simp at hc
    · exact e
theorem Dig.next {v1 v0 u u1 q rh : Nat} (hu1 : u1 < 4294967296) (hu : u < v1 * 4294967296 + v0) (h : Dig v1 v0 u u1 q rh) (hc : 4294967296 ≤ q ∨ 4294967296 * rh + u1 < q * v0) : Dig v1 v0 u u1 (q - 1) (rh + v1) ∧ q - 1 ≤ 4294967296 := by
  obtain ⟨hp, hl⟩ := h.pos hu1 hu hc
  obtain ⟨k, rfl⟩ : ∃ k, q = k + 1 := ⟨q - 1, by omega⟩
  have e : (k + 1) * v1 = k * v1 + v1 := by rw [Nat.add_mul, Nat.one_mul]
  have hs := h.sum
  have ht := h.top
  refine ⟨⟨by simp only [Nat.add_sub_cancel]; omega, by simpa using hl, by omega⟩, by omega⟩
theorem Dig.stop {v1 v0 u u1 q rh : Nat} (h : Dig v1 v0 u u1 q rh) (hc : q * v0 ≤ 4294967296 * rh + u1) : q = (u * 4294967296 + u1) / (v1 * 4294967296 + v0) := by
  have h1 := dig_le h.sum hc
  exact (Nat.div_eq_of_lt_le h1 h.above).symm
theorem Dig.brk {v1 v0 u u1 q rh : Nat} (h0 : v0 < 4294967296) (h : Dig v1 v0 u u1 q rh) (hq : q ≤ 4294967296) (hr : 4294967296 ≤ rh) : q = (u * 4294967296 + u1) / (v1 * 4294967296 + v0) := by
  refine h.stop ?_
  have : q * v0 ≤ 4294967296 * v0 := Nat.mul_le_mul_right v0 hq
  omega
theorem Dig.stopV {v v1 v0 u u1 q rh m : Nat} (hv : v = v1 * 4294967296 + v0) (hm : m = q * v0) (h : Dig v1 v0 u u1 q rh) (hc : m ≤ 4294967296 * rh + u1) : q = (u * 4294967296 + u1) / v := by
  subst hv hm; exact h.stop hc
theorem Dig.brkV {v v1 v0 u u1 q rh : Nat} (hv : v = v1 * 4294967296 + v0) (h0 : v0 < 4294967296) (h : Dig v1 v0 u u1 q rh) (hq : q ≤ 4294967296) (hr : 4294967296 ≤ rh) : q = (u * 4294967296 + u1) / v := by
  subst hv; exact h.brk h0 hq hr
theorem Dig.lt {v u u1 : Nat} (hu1 : u1 < 4294967296) (hu : u < v) : (u * 4294967296 + u1) / v < 4294967296 :=
  Nat.div_lt_of_lt_mul (by rw [Nat.mul_comm v]; omega)
/-- the quotient and the rest, out of two digits -/
theorem two_digits {v a u0 : Nat} (hv : 0 < v) :
    a / v * 4294967296 + (a % v * 4294967296 + u0) / v = (a * 4294967296 + u0) / v ∧ (a % v * 4294967296 + u0) % v = (a * 4294967296 + u0) % v := by
  have e : a * 4294967296 + u0 = (a % v * 4294967296 + u0) + v * (a / v * 4294967296) := by
    have h := Nat.div_add_mod a v
    have h2 : v * (a / v * 4294967296) = v * (a / v) * 4294967296 := (Nat.mul_assoc _ _ _).symm
    omega
  have e1 : (a * 4294967296 + u0) / v = (a % v * 4294967296 + u0) / v + a / v * 4294967296 := by rw [e]; exact Nat.add_mul_div_left _ _ hv
  have e2 : (a * 4294967296 + u0) % v = (a % v * 4294967296 + u0) % v := by rw [e]; exact Nat.add_mul_mod_self_left _ _ _
  exact ⟨by rw [e1]; exact Nat.add_comm _ _, e2.symm⟩
theorem div_shift (a y t : Nat) (ht : 0 < t) : a * t / (y * t) = a / y := Nat.mul_div_mul_right a y ht
theorem mod_shift (a y t : Nat) (ht : 0 < t) : a * t % (y * t) / t = a % y := by rw [Nat.mul_mod_mul_right]; exact Nat.mul_div_cancel _ ht

theorem bitLenAux_spec : ∀ (f x : Nat), x < 2 ^ f → x < 2 ^ Lib.bitLenAux f x ∧ (x ≠ 0 → 2 ^ Lib.bitLenAux f x ≤ 2 * x)
  | 0, x, h => by simp [Lib.bitLenAux] at h ⊢; omega
  | f + 1, x, h => by
    by_cases hx : x = 0
    · subst hx; simp [Lib.bitLenAux]
    · have ih := bitLenAux_spec f (x / 2) (by rw [Nat.pow_succ] at h; omega)
      have e : Lib.bitLenAux (f + 1) x = Lib.bitLenAux f (x / 2) + 1 := by
        rw [Lib.bitLenAux, if_neg hx]; exact Nat.add_comm _ _
      rw [e, Nat.pow_succ]
      refine ⟨by omega, fun _ => ?_⟩
      by_cases h2 : x / 2 = 0
      · have : Lib.bitLenAux f (x / 2) = 0 := by rw [h2]; cases f <;> simp [Lib.bitLenAux]
        rw [this]; omega
      · have := ih.2 h2; omega
theorem bitLen_spec (y : Nat) (h1 : 1 ≤ y) (h2 : y < 18446744073709551616) : Lib.bitLen y ≤ 64 ∧ 1 ≤ Lib.bitLen y ∧ 9223372036854775808 ≤ y * 2 ^ (64 - Lib.bitLen y) ∧ y * 2 ^ (64 - Lib.bitLen y) < 18446744073709551616 := by
  have hs := bitLenAux_spec 64 y h2
  have hle := Lib.bitLen_le y 64 (Nat.le_refl _) h2
  change y < 2 ^ Lib.bitLen y ∧ (y ≠ 0 → 2 ^ Lib.bitLen y ≤ 2 * y) at hs
  have hs2 := hs.2 (by omega)
  have e : 2 ^ Lib.bitLen y * 2 ^ (64 - Lib.bitLen y) = 18446744073709551616 := by
    rw [← Nat.pow_add, Nat.add_sub_cancel' hle]
  have hpos : 0 < 2 ^ (64 - Lib.bitLen y) := Nat.two_pow_pos _
  have a1 : y * 2 ^ (64 - Lib.bitLen y) < 2 ^ Lib.bitLen y * 2 ^ (64 - Lib.bitLen y) := Nat.mul_lt_mul_of_pos_right hs.1 hpos
  have a2 : 2 ^ Lib.bitLen y * 2 ^ (64 - Lib.bitLen y) ≤ 2 * y * 2 ^ (64 - Lib.bitLen y) := Nat.mul_le_mul_right _ hs2
  rw [e] at a1 a2
  rw [Nat.mul_assoc] at a2
  refine ⟨hle, ?_, by omega, a1⟩
  rcases Nat.eq_zero_or_pos (Lib.bitLen y) with h0 | h0
  · have := hs.1; rw [h0] at this; omega
  · exact h0

/-- what the shifts make of the three words -/
structure Shifted (hi lo y s v v1 v0 u l u1 u0 : Nat) : Prop where
  ev : v = y * 2 ^ s
  v_parts : v = v1 * 4294967296 + v0
  v1_lo : 2147483648 ≤ v1
  v1_hi : v1 < 4294967296
  v0_hi : v0 < 4294967296
  l_parts : l = u1 * 4294967296 + u0
  u1_hi : u1 < 4294967296
  u0_hi : u0 < 4294967296
  u_lt : u < v
  whole : (u * 4294967296 + u1) * 4294967296 + u0 = (hi * 18446744073709551616 + lo) * 2 ^ s

theorem cast_pow (s : Nat) : ((2 ^ s : Nat) : Int) = (2 : Int) ^ s := by
  induction s with
  | zero => rfl
  | succ n ih => rw [Nat.pow_succ, Int.pow_succ, Int.natCast_mul, ih]; rfl

theorem shifted (hi lo y s : Nat) (hy : hi < y) (hl : lo < 18446744073709551616) (hs : s ≤ 63) (h1 : 9223372036854775808 ≤ y * 2 ^ s) (h2 : y * 2 ^ s < 18446744073709551616) :
    ∃ v v1 v0 u l u1 u0 : Nat, IntKind.u64.wrap ((y : Int) * 2 ^ s) = (v : Int) ∧ (v : Int) / 4294967296 = (v1 : Int) ∧ bits .and .u64 (v : Int) 4294967295 = (v0 : Int) ∧
      bits .or .u64 (IntKind.u64.wrap ((hi : Int) * 2 ^ s)) ((lo : Int) / 2 ^ (64 - s)) = (u : Int) ∧ IntKind.u64.wrap ((lo : Int) * 2 ^ s) = (l : Int) ∧ (l : Int) / 4294967296 = (u1 : Int) ∧ bits .and .u64 (l : Int) 4294967295 = (u0 : Int) ∧
      Shifted hi lo y s v v1 v0 u l u1 u0 := by
  have et : 2 ^ s * 2 ^ (64 - s) = 18446744073709551616 := by rw [← Nat.pow_add, Nat.add_sub_cancel' (by omega)]
  have tp : 0 < 2 ^ s := Nat.two_pow_pos s
  have c1 : ∀ x : Nat, (x : Int) * 2 ^ s = ((x * 2 ^ s : Nat) : Int) := fun x => by rw [Int.natCast_mul, cast_pow]
  have c2 : (lo : Int) / 2 ^ (64 - s) = ((lo / 2 ^ (64 - s) : Nat) : Int) := by rw [Int.natCast_ediv, cast_pow]
  rw [c1, c1, c1, c2]
  have hhi : hi * 2 ^ s < y * 2 ^ s := Nat.mul_lt_mul_of_pos_right hy tp
  have hdiv : lo / 2 ^ (64 - s) = lo * 2 ^ s / 18446744073709551616 := by
    rw [← et, Nat.mul_comm (2 ^ s)]; exact (Nat.mul_div_mul_right lo _ tp).symm
  have hsmall : lo / 2 ^ (64 - s) < 2 ^ s := by
    refine Nat.div_lt_of_lt_mul ?_
    rw [Nat.mul_comm, et]; exact hl
  have hor : (hi * 2 ^ s ||| lo / 2 ^ (64 - s)) = hi * 2 ^ s + lo / 2 ^ (64 - s) := by
    rw [Nat.mul_comm hi]; exact (Nat.two_pow_add_eq_or_of_lt hsmall hi).symm
  have hmul : (hi * 18446744073709551616 + lo) * 2 ^ s = hi * 2 ^ s * 18446744073709551616 + lo * 2 ^ s := by
    rw [Nat.add_mul, Nat.mul_right_comm]
  have hmul2 : (hi + 1) * 2 ^ s = hi * 2 ^ s + 2 ^ s := by rw [Nat.add_mul, Nat.one_mul]
  have hle2 : (hi + 1) * 2 ^ s ≤ y * 2 ^ s := Nat.mul_le_mul_right _ hy
  have hs63 : 2 ^ s ≤ 9223372036854775808 := Nat.pow_le_pow_right (n := 2) (by omega) hs
  refine ⟨y * 2 ^ s, y * 2 ^ s / 4294967296, y * 2 ^ s % 4294967296, hi * 2 ^ s + lo / 2 ^ (64 - s), lo * 2 ^ s % 18446744073709551616, lo * 2 ^ s % 18446744073709551616 / 4294967296, lo * 2 ^ s % 18446744073709551616 % 4294967296, Mul64.wrapN _ h2, Mul64.divN _, Mul64.maskN _ h2, ?_, Mul64.wrapM _, Mul64.divN _, Mul64.maskN _ (Nat.mod_lt _ (by omega)), ?_⟩
  · rw [Mul64.wrapN _ (by omega), bits_or_u64_nat _ _ (by omega) (by omega), hor]
  · refine ⟨rfl, ?_, ?_, ?_, ?_, ?_, ?_, ?_, ?_, Eq.trans ?_ hmul.symm⟩
    all_goals
      clear c1 c2 hmul
      generalize 2 ^ s = t at *
      generalize y * t = Y at *
      generalize hi * t = H at *
      generalize lo * t = L at *
      generalize lo / 2 ^ (64 - s) = D at *
      omega

theorem dig_words {v1 v0 u u1 : Nat} (h1 : 2147483648 ≤ v1) (h0 : v0 < 4294967296) (hu1 : u1 < 4294967296) (hv1 : v1 < 4294967296) (hu : u < v1 * 4294967296 + v0) :
    ∃ q p rh : Nat, IntKind.u64.wrap ((u : Int) / (v1 : Int)) = (q : Int) ∧ IntKind.u64.wrap ((q : Int) * (v1 : Int)) = (p : Int) ∧ IntKind.u64.wrap ((u : Int) - (p : Int)) = (rh : Int) ∧ Dig v1 v0 u u1 q rh ∧ rh < 4294967296 ∧ q ≤ 4294967297 := by
  have hd := Nat.div_mul_le_self u v1
  have hm := Nat.mod_lt u (show 0 < v1 by omega)
  have hs := Dig.start h1 h0 hu1 hu
  have e := Nat.div_add_mod u v1
  rw [Nat.mul_comm] at e
  have ht := hs.top
  refine ⟨u / v1, u / v1 * v1, u - u / v1 * v1, ?_, ?_, ?_, hs, by omega, hs.top⟩
  · rw [← Int.natCast_ediv]; exact Mul64.wrapN _ (by omega)
  · rw [← Int.natCast_mul]; exact Mul64.wrapN _ (by omega)
  · rw [IntKind.wrap_u64]; omega

theorem mul_words {q v0 : Nat} (hq : q < 4294967296) (h0 : v0 < 4294967296) : ∃ m : Nat, IntKind.u64.wrap ((q : Int) * (v0 : Int)) = (m : Int) ∧ m = q * v0 := by
  have := Lib.half_mul_le (a := q) (b := v0) (by omega) (by omega)
  refine ⟨q * v0, ?_, rfl⟩
  rw [← Int.natCast_mul]; exact Mul64.wrapN _ (by omega)

/-- what is left of a digit, reckoned modulo 2^64 -/
theorem rest_words {u u1 q v : Nat} (hq : q = (u * 4294967296 + u1) / v) (hv : 0 < v) (hb : v < 18446744073709551616) :
    IntKind.u64.wrap (IntKind.u64.wrap (IntKind.u64.wrap ((u : Int) * 4294967296) + (u1 : Int)) - IntKind.u64.wrap ((q : Int) * (v : Int))) = (((u * 4294967296 + u1) % v : Nat) : Int) := by
  have e := Nat.div_add_mod (u * 4294967296 + u1) v
  have hm := Nat.mod_lt (u * 4294967296 + u1) hv
  rw [Nat.mul_comm, ← hq] at e
  rw [← Int.natCast_mul q v]
  simp only [IntKind.wrap_u64]
  generalize q * v = Z at *
  omega

theorem rest_of {u u1 q v : Nat} (hq : q = (u * 4294967296 + u1) / v) (hv : 0 < v) (hb : v < 18446744073709551616) :
    ∃ r : Nat, IntKind.u64.wrap (IntKind.u64.wrap (IntKind.u64.wrap ((u : Int) * 4294967296) + (u1 : Int)) - IntKind.u64.wrap ((q : Int) * (v : Int))) = (r : Int) ∧ r = (u * 4294967296 + u1) % v ∧ r < v :=
  ⟨_, rest_words hq hv hb, rfl, Nat.mod_lt _ hv⟩

theorem div_end {hi lo y s v v1 v0 u l u1 u0 q1 q2 r r2 : Nat} (h : Shifted hi lo y s v v1 v0 u l u1 u0) (h1 : q1 = (u * 4294967296 + u1) / v) (hr : r = (u * 4294967296 + u1) % v) (h2 : q2 = (r * 4294967296 + u0) / v) (hr2 : r2 = (r * 4294967296 + u0) % v) :
    (q1 : Int) * 4294967296 + (q2 : Int) = (((hi * 18446744073709551616 + lo) / y : Nat) : Int) ∧ (r2 : Int) / 2 ^ s = (((hi * 18446744073709551616 + lo) % y : Nat) : Int) := by
  have tp : 0 < 2 ^ s := Nat.two_pow_pos s
  have hv : 0 < v := by have := h.u_lt; omega
  have t := two_digits (v := v) (a := u * 4294967296 + u1) (u0 := u0) hv
  rw [← h1, ← hr, ← h2, ← hr2, h.whole, h.ev, div_shift _ _ _ tp] at t
  have m := mod_shift (hi * 18446744073709551616 + lo) y (2 ^ s) tp
  rw [← t.2] at m
  refine ⟨by rw [← t.1]; omega, ?_⟩
  rw [← m, Int.natCast_ediv, cast_pow]

end Go.Proofs.Ytgccipmeiceonaa
