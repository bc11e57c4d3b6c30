/-
  What Check, Cost, Apart and Read of package price do: contracts.
-/
import Derived.Test.YtoahdhhbjljjlaaDoorPriceA
import Derived.Test.YtoahdhhbjljjlaaDoorPart2
import Derived.Test.YtoahdhhbjljjlaaDoorShelf
namespace Go.Proofs.YtoahdhhbjljjlaaDoor
open Go.RowKit
set_option linter.unusedVariables false

def prcB (p : Int) : Bool := decide (0 ≤ p ∧ p ≤ 1099511627776)
theorem prc_t {p : Int} (h : prcB p = true) : 0 ≤ p ∧ p ≤ 1099511627776 := of_decide_eq_true h
theorem prc_f {p : Int} (h : prcB p = false) : ¬ (0 ≤ p ∧ p ≤ 1099511627776) := of_decide_eq_false h
theorem prc_mk {p : Int} (h0 : 0 ≤ p) (h1 : p ≤ 1099511627776) : prcB p = true := decide_eq_true ⟨h0, h1⟩
theorem pcheck_ok (p : Int) (h : prcB p = true) (w : World) : Calls Tryd.prog 19 #[.int .i64 p] w fun e w' => e = .returned (.int .i64 0) ∧ w = w' := by
  obtain ⟨h0, h1⟩ := prc_t h
  clear h
  go_enter Tryd.func19, Tryd.ntmps19
  go_wp2
  go_ret
  exact ⟨rfl, rfl⟩
theorem pcheck_no (p : Int) (h : prcB p = false) (w : World) : Calls Tryd.prog 19 #[.int .i64 p] w fun e w' => e = .returned (.int .i64 3) ∧ w = w' := by
  have h' := prc_f h
  clear h
  by_cases a : p < 0
  · clear h'
    go_enter Tryd.func19, Tryd.ntmps19
    go_wp2
    go_ret
    exact ⟨rfl, rfl⟩
  · have b : 1099511627776 < p := by omega
    clear h'
    go_enter Tryd.func19, Tryd.ntmps19
    go_wp2
    go_ret
    exact ⟨rfl, rfl⟩

/-- what Part answers -/
def PartIs (a b c q r E : Int) : Prop := ∀ w, Calls Tryd.prog 27 #[.int .i64 a, .int .i64 b, .int .i64 c] w fun e w' => e = .returned (.tuple #[.int .i64 q, .int .i64 r, .int .i64 E]) ∧ Grew w w'
theorem PartIs.run {a b c q r E : Int} (h : PartIs a b c q r E) (w : World) : Calls Tryd.prog 27 #[.int .i64 a, .int .i64 b, .int .i64 c] w fun e w' => e = .returned (.tuple #[.int .i64 q, .int .i64 r, .int .i64 E]) ∧ Grew w w' := h w
theorem cost_no (u p : Int) (h : amtB u = false) (w : World) : Calls Tryd.prog 10 #[.int .i64 u, .int .i64 p] w fun e w' => e = .returned (.tuple #[.int .i64 0, .int .i64 0, .int .i64 3]) ∧ Grew w w' := by
  have C := Lib.hid (fun w => check_no u w h)
  clear h
  go_enter Tryd.func10, Tryd.ntmps10
  go_wp2_with (go_at_call 26; (with_reducible refine (C.out _).mono ?_); rintro e w1 ⟨rfl, g1⟩)
  go_ret3
  exact ⟨rfl, g1⟩
theorem cost_price (u p : Int) (h : amtB u = true) (hp : prcB p = false) (w : World) : Calls Tryd.prog 10 #[.int .i64 u, .int .i64 p] w fun e w' => e = .returned (.tuple #[.int .i64 0, .int .i64 0, .int .i64 3]) ∧ Grew w w' := by
  have C := Lib.hid (fun w => check_ok u w h)
  have D := Lib.hid (fun w => pcheck_no p hp w)
  clear h hp
  go_enter Tryd.func10, Tryd.ntmps10
  go_wp2_with (first
    | (go_at_call 26; (with_reducible refine (C.out _).mono ?_); rintro e w1 ⟨rfl, g1⟩)
    | (go_at_call 19; (with_reducible refine (D.out _).mono ?_); rintro e w' ⟨rfl, rfl⟩))
  go_ret3
  exact ⟨rfl, g1⟩
theorem cost_is (u p q r E : Int) (h : amtB u = true) (hp : prcB p = true) (P : PartIs u p 10000 q r E) (w : World) : Calls Tryd.prog 10 #[.int .i64 u, .int .i64 p] w fun e w' => e = .returned (.tuple #[.int .i64 q, .int .i64 r, .int .i64 E]) ∧ Grew w w' := by
  have C := Lib.hid (fun w => check_ok u w h)
  have D := Lib.hid (fun w => pcheck_ok p hp w)
  clear h hp
  go_enter Tryd.func10, Tryd.ntmps10
  go_wp2_with (first
    | (go_at_call 26; (with_reducible refine (C.out _).mono ?_); rintro e w1 ⟨rfl, g1⟩)
    | (go_at_call 19; (with_reducible refine (D.out _).mono ?_); rintro e w' ⟨rfl, rfl⟩)
    | (go_at_call 27; (with_reducible refine (P.run _).mono ?_); rintro e w2 ⟨rfl, g2⟩))
  go_ret3
  exact ⟨rfl, gtr g1 g2⟩
theorem apart_was (a b : Int) (h : prcB a = false) (w : World) : Calls Tryd.prog 11 #[.int .i64 a, .int .i64 b] w fun e w' => e = .returned (.tuple #[.int .i64 0, .int .i64 3]) ∧ w = w' := by
  have D := Lib.hid (fun w => pcheck_no a h w)
  clear h
  go_enter Tryd.func11, Tryd.ntmps11
  go_wp2_with (go_at_call 19; (with_reducible refine (D.out _).mono ?_); rintro e w' ⟨rfl, rfl⟩)
  go_ret2
  exact ⟨rfl, rfl⟩
theorem apart_now (a b : Int) (h : prcB a = true) (h2 : prcB b = false) (w : World) : Calls Tryd.prog 11 #[.int .i64 a, .int .i64 b] w fun e w' => e = .returned (.tuple #[.int .i64 0, .int .i64 3]) ∧ w = w' := by
  have D := Lib.hid (fun w => pcheck_ok a h w)
  have D2 := Lib.hid (fun w => pcheck_no b h2 w)
  clear h h2
  go_enter Tryd.func11, Tryd.ntmps11
  go_wp2_with (first
    | (go_at_call 19; (with_reducible refine (D.out _).mono ?_); rintro e w' ⟨rfl, rfl⟩)
    | (go_at_call 19; (with_reducible refine (D2.out _).mono ?_); rintro e w' ⟨rfl, rfl⟩))
  go_ret2
  exact ⟨rfl, rfl⟩
theorem apart_zero (b : Int) (h2 : prcB b = true) (w : World) : Calls Tryd.prog 11 #[.int .i64 0, .int .i64 b] w fun e w' => e = .returned (.tuple #[.int .i64 0, .int .i64 1]) ∧ w = w' := by
  have D := Lib.hid (fun w => pcheck_ok 0 (by decide) w)
  have D2 := Lib.hid (fun w => pcheck_ok b h2 w)
  clear h2
  go_enter Tryd.func11, Tryd.ntmps11
  go_wp2_with (first
    | (go_at_call 19; (with_reducible refine (D.out _).mono ?_); rintro e w' ⟨rfl, rfl⟩)
    | (go_at_call 19; (with_reducible refine (D2.out _).mono ?_); rintro e w' ⟨rfl, rfl⟩))
  go_ret2
  exact ⟨rfl, rfl⟩
/-- a price is never too far apart -/
theorem apart_amt {a b : Int} (h : prcB a = true) (h2 : prcB b = true) (h0 : 1 ≤ a) : amtB ((b - a) * 10000 / a) = true := by
  obtain ⟨a0, a1⟩ := prc_t h
  obtain ⟨b0, b1⟩ := prc_t h2
  refine decide_eq_true ⟨?_, ?_⟩
  · refine (Int.le_ediv_iff_mul_le (by omega)).2 ?_
    have : -1152921504606846976 * a ≤ -10000 * a := by omega
    omega
  · have : (b - a) * 10000 / a ≤ 10000 * 1099511627776 / a := Int.ediv_le_ediv (by omega) (by omega)
    have : 10000 * 1099511627776 / a ≤ 10000 * 1099511627776 := Int.ediv_le_self _ (by omega)
    omega
theorem apart_ok (a b : Int) (h : prcB a = true) (h2 : prcB b = true) (h0 : 1 ≤ a) (w : World) : Calls Tryd.prog 11 #[.int .i64 a, .int .i64 b] w fun e w' => e = .returned (.tuple #[.int .i64 ((b - a) * 10000 / a), .int .i64 0]) ∧ Grew w w' := by
  have D := Lib.hid (fun w => pcheck_ok a h w)
  have D2 := Lib.hid (fun w => pcheck_ok b h2 w)
  obtain ⟨a0, a1⟩ := prc_t h
  obtain ⟨b0, b1⟩ := prc_t h2
  have P := Lib.hid (fun w => part_ok (b - a) 10000 a (decide_eq_true (by omega)) (rng_mk (by decide) (by decide) h0 a1) (apart_amt h h2 h0) w)
  generalize (b - a) * 10000 / a = q at P ⊢
  generalize (b - a) * 10000 % a = r at P
  clear h h2
  go_enter Tryd.func11, Tryd.ntmps11
  go_wp2_with (first
    | (go_at_call 19; (with_reducible refine (D.out _).mono ?_); rintro e w' ⟨rfl, rfl⟩)
    | (go_at_call 19; (with_reducible refine (D2.out _).mono ?_); rintro e w' ⟨rfl, rfl⟩)
    | (go_at_call 27; (with_reducible refine (P.out _).mono ?_); rintro e w1 ⟨rfl, g1⟩))
  go_ret2
  exact ⟨rfl, g1⟩

/-- what stands before the point, and behind it; whether there is one -/
def whS (s : ByteArray) : ByteArray := ⟨(Lib.cut s.data.toList [46]).1.toArray⟩
def frS (s : ByteArray) : ByteArray := ⟨(Lib.cut s.data.toList [46]).2.1.toArray⟩
def ptB (s : ByteArray) : Bool := (Lib.cut s.data.toList [46]).2.2
/-- the variable of the library's that a walk reads -/
def MaxL (w : World) : Prop := ∃ m, w.cell? ⟨0, 0, none⟩ = some (.int .i64 m)
theorem MaxL.kpt {w w' : World} (h : MaxL w) (g : Kpt w w') : MaxL w' := by obtain ⟨m, hm⟩ := h; exact ⟨m, g.cell hm⟩
theorem cut_any (s : ByteArray) (hs : s.size < 4294967281) (w : World) (hm : MaxL w) :
    Calls Tryd.prog 20 #[.string s, .string ⟨#[46]⟩] w fun e w' => e = .returned (.tuple #[.string (whS s), .string (frS s), .bool (ptB s)]) ∧ ∃ n, w' = w.drewN n := by
  obtain ⟨m, hm⟩ := hm
  exact Tryd.strings_Cut s ⟨#[46]⟩ m w hs hm
theorem size_mk (l : List UInt8) : (⟨l.toArray⟩ : ByteArray).size = l.length := by
  show l.toArray.size = l.length
  rw [List.size_toArray]
theorem size_list (s : ByteArray) : s.data.toList.length = s.size := by
  show s.data.toList.length = s.data.size
  rw [Array.length_toList]
theorem whS_size (s : ByteArray) : (whS s).size ≤ s.size := by
  unfold whS Lib.cut
  split
  · rw [size_mk, List.length_take, size_list]; omega
  · rw [size_mk, size_list]; exact Nat.le_refl _
theorem frS_size (s : ByteArray) : (frS s).size ≤ s.size := by
  unfold frS Lib.cut
  split
  · rw [size_mk, List.length_drop, size_list]; omega
  · rw [size_mk]; simp
theorem frS_none {s : ByteArray} (h : ptB s = false) : frS s = ⟨#[]⟩ := by
  unfold ptB Lib.cut at h
  unfold frS Lib.cut
  split at h
  · cases h
  · rename_i g; rw [if_neg g]
theorem whole_size {s : ByteArray} (h : wholeB s = true) : 1 ≤ s.size ∧ s.size ≤ 9 ∧ adig s = true := by
  unfold wholeB at h
  simp only [Bool.and_eq_true, decide_eq_true_eq] at h
  exact ⟨h.1.1.1, h.1.1.2, h.1.2⟩
theorem frac_size {s : ByteArray} (h : fracB s = true) : 1 ≤ s.size ∧ s.size ≤ 4 ∧ adig s = true := by
  unfold fracB at h
  simp only [Bool.and_eq_true, decide_eq_true_eq] at h
  exact ⟨h.1.1.1, h.1.1.2, h.1.2⟩

/-- the number that digits spell -/
def valD (l : List UInt8) : Nat := l.foldl (fun a c => a * 10 + (c.toNat - 48)) 0
theorem val_from (l : List UInt8) (a : Nat) : l.foldl (fun a c => a * 10 + (c.toNat - 48)) a = a * 10 ^ l.length + valD l := by
  unfold valD
  induction l generalizing a with
  | nil => simp
  | cons c t ih =>
    rw [List.foldl_cons, ih, List.foldl_cons, ih (0 * 10 + (c.toNat - 48)), List.length_cons, Nat.pow_succ, Nat.add_mul, Nat.zero_mul, Nat.zero_add]
    generalize 10 ^ t.length = p
    have : a * 10 * p = a * (p * 10) := by rw [Nat.mul_assoc, Nat.mul_comm 10 p]
    omega
theorem val_app (l m : List UInt8) : valD (l ++ m) = valD l * 10 ^ m.length + valD m := by
  show (l ++ m).foldl _ 0 = _
  rw [List.foldl_append, val_from]; rfl
theorem val_lt {l : List UInt8} (h : l.all digB = true) : valD l < 10 ^ l.length := by
  induction l with
  | nil => decide
  | cons c t ih =>
    rw [List.all_cons, Bool.and_eq_true] at h
    have hd : 48 ≤ c.toNat ∧ c.toNat ≤ 57 := of_decide_eq_true h.1
    have i := ih h.2
    rw [show c :: t = [c] ++ t from rfl, val_app, List.length_append, List.length_singleton, Nat.add_comm 1, Nat.pow_succ]
    have e : valD [c] = c.toNat - 48 := by unfold valD; simp
    rw [e]
    have : (c.toNat - 48) * 10 ^ t.length ≤ 9 * 10 ^ t.length := Nat.mul_le_mul_right _ (by omega)
    omega
theorem dec_val {l : List UInt8} (h : l.all digB = true) (a : Nat) : Lib.decFrom a l = some (l.foldl (fun a c => a * 10 + (c.toNat - 48)) a) := by
  induction l generalizing a with
  | nil => rfl
  | cons c t ih =>
    rw [List.all_cons, Bool.and_eq_true] at h
    have hd : 48 ≤ c.toNat ∧ c.toNat ≤ 57 := of_decide_eq_true h.1
    rw [Lib.decFrom, Lib.digitVal, if_pos hd]
    exact ih h.2 _
theorem atoi_val {l : List UInt8} (hne : l ≠ []) (h : l.all digB = true) : Lib.atoi l = some ((valD l : Nat) : Int) := by
  cases l with
  | nil => exact absurd rfl hne
  | cons c t =>
    have hd : 48 ≤ c.toNat ∧ c.toNat ≤ 57 := by
      rw [List.all_cons, Bool.and_eq_true] at h
      exact of_decide_eq_true h.1
    have n1 : (c == 45) = false := by rw [beq_eq_false_iff_ne]; intro e; subst e; revert hd; decide
    have n2 : (c == 43) = false := by rw [beq_eq_false_iff_ne]; intro e; subst e; revert hd; decide
    rw [Lib.atoi, n1, n2, if_neg (by simp), if_neg (by simp), Lib.decNat, dec_val h]
    rfl

/-- the text of which the number is taken: all places -/
def numS (s : ByteArray) : ByteArray := whS s ++ frS s ++ (⟨#[48, 48, 48, 48]⟩ : ByteArray).extract (frS s).size 4
theorem numS_list (s : ByteArray) : (numS s).data.toList = (whS s).data.toList ++ (frS s).data.toList ++ [48, 48, 48, 48].drop (frS s).size := by
  unfold numS
  rw [ByteArray.data_append, ByteArray.data_append, ByteArray.data_extract, Array.toList_append, Array.toList_append, Array.toList_extract]
  congr 1
  show ([48, 48, 48, 48].drop (frS s).size).take (4 - (frS s).size) = _
  rw [List.take_of_length_le (by simp)]
/-- a text that is a price, but for its size; its number -/
def rdB (s : ByteArray) : Bool := wholeB (whS s) && (!ptB s || fracB (frS s))
def rdV (s : ByteArray) : Int := ((valD (numS s).data.toList : Nat) : Int)
theorem rd_t {s : ByteArray} (h : rdB s = true) : wholeB (whS s) = true ∧ ((ptB s = false ∧ (frS s).size = 0) ∨ (ptB s = true ∧ fracB (frS s) = true)) ∧ (frS s).size ≤ 4 ∧ (whS s).size ≤ 9 ∧ (numS s).data.toList ≠ [] ∧ (numS s).data.toList.all digB = true ∧ (numS s).data.toList.length = (whS s).size + 4 := by
  unfold rdB at h
  rw [Bool.and_eq_true] at h
  obtain ⟨h1, h2⟩ := h
  obtain ⟨w1, w2, w3⟩ := whole_size h1
  have F : ((ptB s = false ∧ (frS s).size = 0) ∨ (ptB s = true ∧ fracB (frS s) = true)) ∧ (frS s).size ≤ 4 ∧ adig (frS s) = true := by
    cases hp : ptB s with
    | false => have e := frS_none hp; rw [e]; exact ⟨.inl ⟨rfl, rfl⟩, by decide, rfl⟩
    | true =>
      rw [hp] at h2
      have h3 : fracB (frS s) = true := by simpa using h2
      obtain ⟨f1, f2, f3⟩ := frac_size h3
      exact ⟨.inr ⟨rfl, h3⟩, f2, f3⟩
  obtain ⟨F1, F2, F3⟩ := F
  refine ⟨h1, F1, F2, w2, ?_, ?_, ?_⟩
  · rw [numS_list]
    intro e
    have := congrArg List.length e
    simp only [List.length_append, size_list, List.length_nil] at this
    omega
  · rw [numS_list, List.all_append, List.all_append]
    have z : ([48, 48, 48, 48].drop (frS s).size).all digB = true := by
      rcases (show (frS s).size = 0 ∨ (frS s).size = 1 ∨ (frS s).size = 2 ∨ (frS s).size = 3 ∨ (frS s).size = 4 by omega) with e | e | e | e | e <;> rw [e] <;> decide
    rw [z]
    unfold adig at w3 F3
    rw [w3, F3]; rfl
  · rw [numS_list, List.length_append, List.length_append, size_list, size_list, List.length_drop]
    simp; omega

theorem read_form1 (s : ByteArray) (hs : s.size < 4294967281) (h : wholeB (whS s) = false) (w : World) (hm : MaxL w) :
    Calls Tryd.prog 8 #[.string s] w fun e w' => e = .returned (.tuple #[.int .i64 0, .int .i64 1]) ∧ Kpt w w' := by
  have C := Lib.hid (cut_any s hs w hm)
  have s1 := whS_size s
  have W1 := Lib.hid (fun w => isWhole_any (whS s) (by unfold maxLen; omega) w)
  rw [h] at W1
  generalize whS s = wh at *
  generalize frS s = fr at *
  generalize ptB s = pt at *
  clear h hm s1
  go_enter Tryd.func8, Tryd.ntmps8
  go_wp2_with (first
    | (go_at_call 20; (with_reducible refine C.out.mono ?_); rintro e w1 ⟨rfl, n, rfl⟩)
    | (go_at_call 21; (with_reducible refine (W1.out _).mono ?_); rintro e w' ⟨rfl, rfl⟩))
  go_ret2
  exact ⟨rfl, (Kpt.refl _).drewN _⟩
theorem read_form2 (s : ByteArray) (hs : s.size < 4294967281) (h : wholeB (whS s) = true) (hf : fracB (frS s) = false) (hp : ptB s = true) (w : World) (hm : MaxL w) :
    Calls Tryd.prog 8 #[.string s] w fun e w' => e = .returned (.tuple #[.int .i64 0, .int .i64 1]) ∧ Kpt w w' := by
  have C := Lib.hid (cut_any s hs w hm)
  have s1 := whS_size s
  have s2 := frS_size s
  have W1 := Lib.hid (fun w => isWhole_any (whS s) (by unfold maxLen; omega) w)
  rw [h] at W1
  have F1 := Lib.hid (fun w => isFraction_any (frS s) (by unfold maxLen; omega) w)
  rw [hf] at F1
  rw [hp] at C
  generalize whS s = wh at *
  generalize frS s = fr at *
  clear h hm s1 s2 hf hp
  go_enter Tryd.func8, Tryd.ntmps8
  go_wp2_with (first
    | (go_at_call 20; (with_reducible refine C.out.mono ?_); rintro e w1 ⟨rfl, n, rfl⟩)
    | (go_at_call 21; (with_reducible refine (W1.out _).mono ?_); rintro e w' ⟨rfl, rfl⟩)
    | (go_at_call 22; (with_reducible refine (F1.out _).mono ?_); rintro e w' ⟨rfl, rfl⟩))
  go_ret2
  exact ⟨rfl, (Kpt.refl _).drewN _⟩
theorem atoi_num (s : ByteArray) (h : rdB s = true) (w : World) :
    Calls Tryd.prog 23 #[.string (numS s)] w fun e w' => e = .returned (.tuple #[.int .i64 (rdV s), .nilIface]) ∧ Kpt w w' := by
  obtain ⟨_, _, _, w9, a1, a2, a3⟩ := rd_t h
  refine (Tryd.strconv_Atoi (numS s) (rdV s) (by rw [← size_list, a3]; omega) (atoi_val a1 a2) w).mono ?_
  rintro e w' ⟨rfl, t, rfl⟩
  exact ⟨rfl, kpt_bytes _ _ _⟩
theorem rdV_bd {s : ByteArray} (h : rdB s = true) : 0 ≤ rdV s ∧ rdV s < 10000000000000 := by
  obtain ⟨_, _, _, w9, a1, a2, a3⟩ := rd_t h
  have := val_lt a2
  rw [a3] at this
  have h2 : 10 ^ ((whS s).size + 4) ≤ 10 ^ 13 := Nat.pow_le_pow_right (by decide) (by omega)
  unfold rdV
  have h3 : (10 : Nat) ^ 13 = 10000000000000 := by decide
  omega
theorem read_ok (s : ByteArray) (hs : s.size < 4294967281) (h : rdB s = true) (hp : prcB (rdV s) = true) (w : World) (hm : MaxL w) :
    Calls Tryd.prog 8 #[.string s] w fun e w' => e = .returned (.tuple #[.int .i64 (rdV s), .int .i64 0]) ∧ Kpt w w' := by
  have C := Lib.hid (cut_any s hs w hm)
  have A := Lib.hid (fun w => atoi_num s h w)
  have vb := rdV_bd h
  obtain ⟨vb0, vb1⟩ := vb
  obtain ⟨h1, hpt, f4, w9, _, _, _⟩ := rd_t h
  have PC := Lib.hid (fun w => pcheck_ok (rdV s) hp w)
  have W1 := Lib.hid (fun w => isWhole_any (whS s) (by unfold maxLen; omega) w)
  rw [h1] at W1
  have F1 := Lib.hid (fun w => isFraction_any (frS s) (by unfold maxLen; omega) w)
  unfold numS at A
  generalize rdV s = v at *
  rcases hpt with ⟨p1, p2⟩ | ⟨p1, p2⟩
  · rw [p1] at C
    generalize whS s = wh at *
    generalize frS s = fr at *
    clear h hm h1 p1 hp p2
    go_enter Tryd.func8, Tryd.ntmps8
    go_wp2_with (first
      | (go_at_call 20; (with_reducible refine C.out.mono ?_); rintro e w1 ⟨rfl, n, rfl⟩)
      | (go_at_call 21; (with_reducible refine (W1.out _).mono ?_); rintro e w' ⟨rfl, rfl⟩)
      | (go_at_call 22; (with_reducible refine (F1.out _).mono ?_); rintro e w' ⟨rfl, rfl⟩)
      | (go_at_call 23; (with_reducible refine (A.out _).mono ?_); rintro e w2 ⟨rfl, g2⟩; have G2 := Lib.hid (ktr ((Kpt.refl _).drewN _) g2); clear g2)
      | (go_at_call 19; (with_reducible refine (PC.out _).mono ?_); rintro e w' ⟨rfl, rfl⟩))
    go_ret2
    exact ⟨rfl, G2.out⟩
  · rw [p1] at C
    rw [p2] at F1
    generalize whS s = wh at *
    generalize frS s = fr at *
    clear h hm h1 p1 hp p2
    go_enter Tryd.func8, Tryd.ntmps8
    go_wp2_with (first
      | (go_at_call 20; (with_reducible refine C.out.mono ?_); rintro e w1 ⟨rfl, n, rfl⟩)
      | (go_at_call 21; (with_reducible refine (W1.out _).mono ?_); rintro e w' ⟨rfl, rfl⟩)
      | (go_at_call 22; (with_reducible refine (F1.out _).mono ?_); rintro e w' ⟨rfl, rfl⟩)
      | (go_at_call 23; (with_reducible refine (A.out _).mono ?_); rintro e w2 ⟨rfl, g2⟩; have G2 := Lib.hid (ktr ((Kpt.refl _).drewN _) g2); clear g2)
      | (go_at_call 19; (with_reducible refine (PC.out _).mono ?_); rintro e w' ⟨rfl, rfl⟩))
    go_ret2
    exact ⟨rfl, G2.out⟩
theorem read_rng (s : ByteArray) (hs : s.size < 4294967281) (h : rdB s = true) (hp : prcB (rdV s) = false) (w : World) (hm : MaxL w) :
    Calls Tryd.prog 8 #[.string s] w fun e w' => e = .returned (.tuple #[.int .i64 0, .int .i64 3]) ∧ Kpt w w' := by
  have C := Lib.hid (cut_any s hs w hm)
  have A := Lib.hid (fun w => atoi_num s h w)
  have vb := rdV_bd h
  obtain ⟨vb0, vb1⟩ := vb
  obtain ⟨h1, hpt, f4, w9, _, _, _⟩ := rd_t h
  have PC := Lib.hid (fun w => pcheck_no (rdV s) hp w)
  have W1 := Lib.hid (fun w => isWhole_any (whS s) (by unfold maxLen; omega) w)
  rw [h1] at W1
  have F1 := Lib.hid (fun w => isFraction_any (frS s) (by unfold maxLen; omega) w)
  unfold numS at A
  generalize rdV s = v at *
  rcases hpt with ⟨p1, p2⟩ | ⟨p1, p2⟩
  · rw [p1] at C
    generalize whS s = wh at *
    generalize frS s = fr at *
    clear h hm h1 p1 hp p2
    go_enter Tryd.func8, Tryd.ntmps8
    go_wp2_with (first
      | (go_at_call 20; (with_reducible refine C.out.mono ?_); rintro e w1 ⟨rfl, n, rfl⟩)
      | (go_at_call 21; (with_reducible refine (W1.out _).mono ?_); rintro e w' ⟨rfl, rfl⟩)
      | (go_at_call 22; (with_reducible refine (F1.out _).mono ?_); rintro e w' ⟨rfl, rfl⟩)
      | (go_at_call 23; (with_reducible refine (A.out _).mono ?_); rintro e w2 ⟨rfl, g2⟩; have G2 := Lib.hid (ktr ((Kpt.refl _).drewN _) g2); clear g2)
      | (go_at_call 19; (with_reducible refine (PC.out _).mono ?_); rintro e w' ⟨rfl, rfl⟩))
    go_ret2
    exact ⟨rfl, G2.out⟩
  · rw [p1] at C
    rw [p2] at F1
    generalize whS s = wh at *
    generalize frS s = fr at *
    clear h hm h1 p1 hp p2
    go_enter Tryd.func8, Tryd.ntmps8
    go_wp2_with (first
      | (go_at_call 20; (with_reducible refine C.out.mono ?_); rintro e w1 ⟨rfl, n, rfl⟩)
      | (go_at_call 21; (with_reducible refine (W1.out _).mono ?_); rintro e w' ⟨rfl, rfl⟩)
      | (go_at_call 22; (with_reducible refine (F1.out _).mono ?_); rintro e w' ⟨rfl, rfl⟩)
      | (go_at_call 23; (with_reducible refine (A.out _).mono ?_); rintro e w2 ⟨rfl, g2⟩; have G2 := Lib.hid (ktr ((Kpt.refl _).drewN _) g2); clear g2)
      | (go_at_call 19; (with_reducible refine (PC.out _).mono ?_); rintro e w' ⟨rfl, rfl⟩))
    go_ret2
    exact ⟨rfl, G2.out⟩

/-- what Read answers -/
def rdE (s : ByteArray) : Int := if rdB s = true then (if prcB (rdV s) = true then 0 else 3) else 1
def rdR (s : ByteArray) : Int := if rdB s = true ∧ prcB (rdV s) = true then rdV s else 0
theorem read_any (s : ByteArray) (hs : s.size < 4294967281) (w : World) (hm : MaxL w) :
    Calls Tryd.prog 8 #[.string s] w fun e w' => e = .returned (.tuple #[.int .i64 (rdR s), .int .i64 (rdE s)]) ∧ Kpt w w' := by
  unfold rdE rdR
  cases h : rdB s with
  | true =>
    cases hp : prcB (rdV s) with
    | true => exact read_ok s hs h hp w hm
    | false => exact read_rng s hs h hp w hm
  | false =>
    unfold rdB at h
    cases h1 : wholeB (whS s) with
    | false => exact read_form1 s hs h1 w hm
    | true =>
      rw [h1] at h
      cases h2 : ptB s with
      | false => rw [h2] at h; cases h
      | true =>
        rw [h2] at h
        have h3 : fracB (frS s) = false := by simpa using h
        exact read_form2 s hs h1 h3 h2 w hm

end Go.Proofs.YtoahdhhbjljjlaaDoor
