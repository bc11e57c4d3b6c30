/-
  A byte of many is another one: the mathematics of their checksum.
-/
import Derived.Test.YtljdffkelocfbaaTapM
import Derived.Laws.BitsAllLaws
namespace Go.Proofs.Ytljdffkelocfbaa
open Go.RowKit
set_option linter.unusedVariables false

theorem i64_xor_nat (a b : Nat) (ha : a < 9223372036854775808) (hb : b < 9223372036854775808) : bits .xor .i64 (a : Int) (b : Int) = ((a ^^^ b : Nat) : Int) := by
  have hx : a ^^^ b < 2 ^ 63 := Nat.xor_lt_two_pow (by omega) (by omega)
  show IntKind.i64.wrap ((BitVec.ofInt 64 (a : Int) ^^^ BitVec.ofInt 64 (b : Int)).toNat : Int) = _
  rw [BitVec.toNat_xor, ofInt_u64 a (by omega), ofInt_u64 b (by omega)]
  exact IntWalk.i64_in _ (by omega)
theorem xor4 (a b c d : Nat) : (a ^^^ b) ^^^ (c ^^^ d) = (a ^^^ c) ^^^ (b ^^^ d) := by
  rw [Nat.xor_assoc, Nat.xor_assoc, ← Nat.xor_assoc b c d, Nat.xor_comm b c, Nat.xor_assoc c b d]
theorem stp_xor (a b : Nat) : stp (a ^^^ b) = stp a ^^^ stp b := by
  have h1 : (a ^^^ b) / 2 = a / 2 ^^^ b / 2 := by simpa using Nat.xor_div_two_pow (a := a) (b := b) (n := 1)
  have h2 : (a ^^^ b) % 2 = a % 2 ^^^ b % 2 := by simpa using Nat.xor_mod_two_pow (a := a) (b := b) (n := 1)
  unfold stp
  rw [h1, h2, xor4]
  congr 1
  have ha : a % 2 = 0 ∨ a % 2 = 1 := by omega
  have hb : b % 2 = 0 ∨ b % 2 = 1 := by omega
  rcases ha with ha | ha <;> rcases hb with hb | hb <;> rw [ha, hb] <;> decide
theorem stps_xor (k a b : Nat) : stps k (a ^^^ b) = stps k a ^^^ stps k b := by
  induction k with
  | zero => rfl
  | succ k ih => show stp (stps k (a ^^^ b)) = stp (stps k a) ^^^ stp (stps k b); rw [ih, stp_xor]
theorem rmd_xor (a b : Nat) : rmd (a ^^^ b) = rmd a ^^^ rmd b := stps_xor 8 a b
theorem crs_xor (s t a b : Nat) : crs (s ^^^ t) (a ^^^ b) = crs s a ^^^ crs t b := by
  have h1 : (s ^^^ t) / 256 = s / 256 ^^^ t / 256 := by simpa using Nat.xor_div_two_pow (a := s) (b := t) (n := 8)
  have h2 : (s ^^^ t) % 256 = s % 256 ^^^ t % 256 := by simpa using Nat.xor_mod_two_pow (a := s) (b := t) (n := 8)
  unfold crs
  rw [h1, h2, xor4 (s % 256) (t % 256) a b, rmd_xor, xor4]
/-- what a difference becomes behind so many bytes -/
def zer : Nat → Nat → Nat
  | 0, d => d
  | k + 1, d => zer k (crs d 0)
theorem zer_xor (k a b : Nat) : zer k (a ^^^ b) = zer k a ^^^ zer k b := by
  induction k generalizing a b with
  | zero => rfl
  | succ k ih =>
    show zer k (crs (a ^^^ b) 0) = zer k (crs a 0) ^^^ zer k (crs b 0)
    rw [← ih, ← crs_xor, Nat.xor_zero]
theorem fold_xor (bs : List Nat) (s d : Nat) : bs.foldl crs (s ^^^ d) = bs.foldl crs s ^^^ zer bs.length d := by
  induction bs generalizing s d with
  | nil => rfl
  | cons b l ih =>
    show l.foldl crs (crs (s ^^^ d) b) = _
    have : crs (s ^^^ d) b = crs s b ^^^ crs d 0 := by rw [← crs_xor, Nat.xor_zero]
    rw [this, ih]; rfl
theorem rmd_0 : rmd 0 = 0 := by decide
theorem crs_0 (x : Nat) : crs 0 x = rmd x := by unfold crs; simp
set_option maxRecDepth 100000 in
theorem rmd_hi : ∀ b : Fin 256, rmd b.1 < 16777216 → b.1 = 0 := by decide +kernel
theorem crs_inj {d : Nat} (hd : d < 4294967296) (h : crs d 0 = 0) : d = 0 := by
  unfold crs at h
  rw [Nat.xor_zero] at h
  have h2 : d / 256 = rmd (d % 256) := by
    have := congrArg (· ^^^ rmd (d % 256)) h
    simp only [Nat.xor_assoc, Nat.xor_self, Nat.xor_zero, Nat.zero_xor] at this
    exact this
  have h3 := rmd_hi ⟨d % 256, by omega⟩ (by rw [← h2]; omega)
  have h3' : d % 256 = 0 := h3
  rw [h3', rmd_0] at h2
  omega
theorem zer_inj (k : Nat) {d : Nat} (hd : d < 4294967296) (h : zer k d = 0) : d = 0 := by
  induction k generalizing d with
  | zero => exact h
  | succ k ih => exact crs_inj hd (ih (crs_lt hd (by decide)) h)
theorem rmd_inj {x : Nat} (hx : x < 256) (h : rmd x = 0) : x = 0 := rmd_hi ⟨x, hx⟩ (by show rmd x < 16777216; rw [h]; decide)
theorem zer_lt (k : Nat) {d : Nat} (hd : d < 4294967296) : zer k d < 4294967296 := by
  induction k generalizing d with
  | zero => exact hd
  | succ k ih => exact ih (crs_lt hd (by decide))
theorem not_xor {s : Nat} (hs : s < 4294967296) : 4294967295 - s = 4294967295 ^^^ s := by
  have h := congrArg BitVec.toNat (show BitVec.allOnes 32 ^^^ (BitVec.ofNat 32 s) = ~~~(BitVec.ofNat 32 s) from by ext i hi; simp only [BitVec.getElem_xor, BitVec.getElem_allOnes, BitVec.getElem_not, Bool.true_xor])
  rw [BitVec.toNat_xor, BitVec.toNat_not, BitVec.toNat_allOnes, BitVec.toNat_ofNat, Nat.mod_eq_of_lt (show s < 2 ^ 32 by omega)] at h
  simpa using h.symm
/-- by what the sum of so many bytes changes, where the byte ahead of so many of them does -/
def dif (k x : Nat) : Nat := zer k (rmd x)
theorem crc_set {bs : List Nat} (hb : IsB bs) {j : Nat} (hj : j < bs.length) {x : Nat} (hx : x < 256) : crc (bs.set j (bs.getD j 0 ^^^ x)) = crc bs ^^^ dif (bs.length - j - 1) x := by
  have hv : bs.getD j 0 < 256 := hb _ (getB_mem hj)
  have hs : IsB (bs.set j (bs.getD j 0 ^^^ x)) := fun b h => by
    rcases List.mem_or_eq_of_mem_set h with h | rfl
    · exact hb b h
    · exact xor_lt8 hv hx
  have e1 : bs = bs.take j ++ bs.getD j 0 :: bs.drop (j + 1) := by
    have := List.getElem_cons_drop hj
    rw [List.getD_eq_getElem?_getD, List.getElem?_eq_getElem hj, Option.getD_some, this, List.take_append_drop]
  have e2 : bs.set j (bs.getD j 0 ^^^ x) = bs.take j ++ (bs.getD j 0 ^^^ x) :: bs.drop (j + 1) := List.set_eq_take_append_cons_drop.trans (by rw [if_pos hj])
  have f : (bs.set j (bs.getD j 0 ^^^ x)).foldl crs 4294967295 = bs.foldl crs 4294967295 ^^^ dif (bs.length - j - 1) x := by
    rw [e2]
    conv => rhs; rw [show bs.foldl crs 4294967295 = (bs.take j ++ bs.getD j 0 :: bs.drop (j + 1)).foldl crs 4294967295 by rw [← e1]]
    rw [List.foldl_append, List.foldl_append, List.foldl_cons, List.foldl_cons]
    have : crs ((bs.take j).foldl crs 4294967295) (bs.getD j 0 ^^^ x) = crs ((bs.take j).foldl crs 4294967295) (bs.getD j 0) ^^^ rmd x := by
      rw [← crs_0, ← crs_xor, Nat.xor_zero]
    rw [this, fold_xor, List.length_drop]
    unfold dif
    rw [show bs.length - (j + 1) = bs.length - j - 1 by omega]
  unfold crc
  rw [not_xor (crc_st hs (by decide)), not_xor (crc_st hb (by decide)), f, Nat.xor_assoc]
theorem dif_xor (k x y : Nat) : dif k (x ^^^ y) = dif k x ^^^ dif k y := by unfold dif; rw [rmd_xor, zer_xor]
theorem dif_inj (k : Nat) {x : Nat} (hx : x < 256) (h : dif k x = 0) : x = 0 := rmd_inj hx (zer_inj k (rmd_lt hx) h)
theorem dif_lt (k : Nat) {x : Nat} (hx : x < 256) : dif k x < 4294967296 := zer_lt k (rmd_lt hx)
theorem dif_0 (k : Nat) : dif k 0 = 0 := by
  have := dif_xor k 0 0
  simpa using this
/-- the law's last words -/
theorem sums_eq (s k : Nat) {x : Nat} (hx : x < 256) : (s ^^^ dif k x = s) ↔ x = 0 := by
  constructor
  · intro h
    refine dif_inj k hx ?_
    have := congrArg (s ^^^ ·) h
    simpa [← Nat.xor_assoc] using this
  · rintro rfl
    rw [dif_0, Nat.xor_zero]
theorem sums_add (s k x y : Nat) : (s ^^^ (s ^^^ dif k x)) ^^^ (s ^^^ dif k y) = s ^^^ dif k (x ^^^ y) := by
  rw [dif_xor, ← Nat.xor_assoc s s, Nat.xor_self, Nat.zero_xor, ← Nat.xor_assoc, Nat.xor_comm (dif k x) s, Nat.xor_assoc]

end Go.Proofs.Ytljdffkelocfbaa
