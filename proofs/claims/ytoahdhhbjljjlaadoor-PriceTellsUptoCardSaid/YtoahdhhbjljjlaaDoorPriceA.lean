/-
  What the inner functions of package price do: contracts.
-/
import Derived.Test.YtoahdhhbjljjlaaDoorKept
import Derived.WalkSpells
namespace Go.Proofs.YtoahdhhbjljjlaaDoor
open Go.RowKit
set_option linter.unusedVariables false

theorem ret_bool {a b : Bool} (h : a = b) : Ending.returned (.bool a) = .returned (.bool b) := by rw [h]
/-- a decimal digit -/
def digB (c : UInt8) : Bool := decide (48 ≤ c.toNat ∧ c.toNat ≤ 57)
theorem take_snoc (s : ByteArray) (k : Nat) (h : k < s.size) : s.data.toList.take (k + 1) = s.data.toList.take k ++ [s[k]] := by
  rw [List.take_succ_eq_append_getElem (by simpa using h)]; rfl
theorem all_take_t {s : ByteArray} {k : Nat} (h : k < s.size) (ha : (s.data.toList.take k).all digB = true) (hd : digB s[k] = true) : (s.data.toList.take (k + 1)).all digB = true := by
  rw [take_snoc s k h, List.all_append, ha]; simp [hd]
theorem all_take_f {s : ByteArray} {k : Nat} (h : k < s.size) (hd : digB s[k] = false) : s.data.toList.all digB = false := by
  have : s.data.toList = s.data.toList.take (k + 1) ++ s.data.toList.drop (k + 1) := (List.take_append_drop _ _).symm
  rw [this, take_snoc s k h]
  simp [hd]

def adig (s : ByteArray) : Bool := s.data.toList.all digB
set_option maxHeartbeats 400000 in
theorem allDigits_any (s : ByteArray) (hs : s.size ≤ maxLen) (w : World) :
    Calls Tryd.prog 32 #[.string s] w fun e w' => e = .returned (.bool (adig s)) ∧ w = w' := by
  unfold maxLen at hs
  go_enter Tryd.func32, Tryd.ntmps32
  go_wp2
  go_loop [6] (fun i => ∃ k : Nat, k ≤ s.size ∧ i = .int .i64 k ∧ Hid ((s.data.toList.take k).all digB = true)) (fun i => s.size - (intOf i).toNat)
  case atStart => exact ⟨0, Nat.zero_le _, rfl, by unfold Hid; rfl⟩
  case round =>
    obtain ⟨k, hk, rfl, HA⟩ := hrel
    by_cases hlt : k < s.size
    · cases hd : digB s[k] with
      | true =>
        have h2 : 48 ≤ s[k].toNat ∧ s[k].toNat ≤ 57 := of_decide_eq_true hd
        have HN : Hid ((s.data.toList.take (k + 1)).all digB = true) := all_take_t hlt HA.out hd
        obtain ⟨h3, h4⟩ := h2
        have q1 : decide ((s[k].toNat : Int) < 48) = false := decide_eq_false (by omega)
        have q2 : decide (57 < (s[k].toNat : Int)) = false := decide_eq_false (by omega)
        clear hd
        go_wp2
        go_round
        case rel => exact ⟨k + 1, by omega, by go_num, HN⟩
        case measure => simp [intOf]; omega
      | false =>
        have h2 : ¬ (48 ≤ s[k].toNat ∧ s[k].toNat ≤ 57) := of_decide_eq_false hd
        have E : Hid (adig s = false) := all_take_f hlt hd
        clear hd
        by_cases q : (s[k].toNat : Int) < 48
        · clear h2
          go_wp2
          go_ret
          exact ⟨ret_bool E.out.symm, rfl⟩
        · have q1 : 57 < (s[k].toNat : Int) := by omega
          clear h2
          go_wp2
          go_ret
          exact ⟨ret_bool E.out.symm, rfl⟩
    · have E : Hid (adig s = true) := by
        have := HA.out
        rw [List.take_of_length_le (by simp; omega)] at this
        exact this
      go_wp2
      go_ret
      exact ⟨ret_bool E.out.symm, rfl⟩

/-- what can stand before the point -/
def wholeB (s : ByteArray) : Bool := decide (1 ≤ s.size ∧ s.size ≤ 9) && adig s && (s.data.toList == [48] || !(s.data.toList.head? == some 48))
/-- what can stand behind it -/
def fracB (s : ByteArray) : Bool := decide (1 ≤ s.size ∧ s.size ≤ 4) && adig s && !(s.data.toList.getLast? == some 48)

theorem toList_data (s : ByteArray) : s.toList = s.data.toList := ByteArray.toList_eq s
theorem ne_of_size {s : ByteArray} (h : 1 ≤ s.size) : s.toList.isEmpty = false := by
  rw [toList_data]
  obtain ⟨⟨l⟩⟩ := s
  cases l with
  | nil => simp [ByteArray.size] at h
  | cons a t => rfl
theorem empty_of_size {s : ByteArray} (h : s.size = 0) : s = ⟨#[]⟩ := by
  obtain ⟨⟨l⟩⟩ := s
  cases l with
  | nil => rfl
  | cons a t => simp [ByteArray.size] at h
theorem u8_int {c : UInt8} : ((c.toNat : Int) != 48) = !(c == 48) := by
  by_cases h : c = 48
  · subst h; rfl
  · have : ¬ (c.toNat : Int) = 48 := by
      intro e
      apply h
      apply UInt8.toNat_inj.1
      show c.toNat = 48
      omega
    rw [beq_eq_false_iff_ne.2 h, bne_iff_ne.2 this]; rfl
theorem head_at {s : ByteArray} (h : 0 < s.size) : s.data.toList.head? = some s[0] := by
  obtain ⟨⟨l⟩⟩ := s
  cases l with
  | nil => simp [ByteArray.size] at h
  | cons a t => rfl
theorem last_at {s : ByteArray} (h : 0 < s.size) : s.data.toList.getLast? = some s[s.size - 1] := by
  rw [List.getLast?_eq_getElem?, List.getElem?_eq_getElem (by simpa using (show s.data.size - 1 < s.data.size from by have : s.data.size = s.size := rfl; omega))]
  rfl

set_option maxHeartbeats 400000 in
theorem isWhole_any (s : ByteArray) (hs : s.size ≤ maxLen) (w : World) :
    Calls Tryd.prog 21 #[.string s] w fun e w' => e = .returned (.bool (wholeB s)) ∧ w = w' := by
  have AD := Lib.hid (fun w => allDigits_any s hs w)
  unfold maxLen at hs
  by_cases h0 : s.size = 0
  · have E : Hid (wholeB s = false) := by unfold Hid wholeB; rw [decide_eq_false (by omega)]; rfl
    obtain rfl := empty_of_size h0
    clear h0
    go_enter Tryd.func21, Tryd.ntmps21
    go_wp2
    go_ret
    exact ⟨ret_bool E.out.symm, rfl⟩
  · have h1 : 1 ≤ s.size := by omega
    have hne := ne_of_size h1
    by_cases h9 : 9 < s.size
    · have E : Hid (wholeB s = false) := by unfold Hid wholeB; rw [decide_eq_false (by omega)]; rfl
      clear h0
      go_enter Tryd.func21, Tryd.ntmps21
      go_wp2
      go_ret
      exact ⟨ret_bool E.out.symm, rfl⟩
    · have h9' : s.size ≤ 9 := by omega
      have E : Hid (wholeB s = (adig s && (s.data.toList == [48] || !(s.data.toList.head? == some 48)))) := by unfold Hid wholeB; rw [decide_eq_true (show 1 ≤ s.size ∧ s.size ≤ 9 from ⟨h1, h9'⟩)]; rfl
      clear h0 h9
      cases ha : adig s with
      | false =>
        unfold Hid at E
        rw [ha] at AD E
        have E' := Lib.hid E
        clear E ha
        go_enter Tryd.func21, Tryd.ntmps21
        go_wp2_with (go_at_call 32; (with_reducible refine (AD.out _).mono ?_); rintro e w' ⟨rfl, rfl⟩)
        go_ret
        exact ⟨ret_bool E'.out.symm, rfl⟩
      | true =>
        unfold Hid at E
        rw [ha] at AD E
        have E' := Lib.hid E
        have hh := head_at (show 0 < s.size by omega)
        have U := u8_int (c := s[0])
        clear E ha
        have q0 : 0 < s.size := by omega
        cases hz : (s.data.toList == [48]) with
        | true =>
          have hz' : (s.toList == [48]) = true := by rw [toList_data]; exact hz
          have E2 : Hid (wholeB s = true) := by unfold Hid; rw [E'.out, hz]; rfl
          clear hz hh U
          go_enter Tryd.func21, Tryd.ntmps21
          go_wp2_with (go_at_call 32; (with_reducible refine (AD.out _).mono ?_); rintro e w' ⟨rfl, rfl⟩)
          go_ret
          exact ⟨ret_bool E2.out.symm, rfl⟩
        | false =>
          have hz' : (s.toList == [48]) = false := by rw [toList_data]; exact hz
          have E2 : Hid (wholeB s = ((s[0].toNat : Int) != 48)) := by
            unfold Hid; rw [E'.out, hz, U, hh]
            by_cases e : s[0] = 48
            · rw [e]; rfl
            · rw [beq_eq_false_iff_ne.2 e, beq_eq_false_iff_ne.2 (fun k => e (Option.some.inj k))]; rfl
          clear hz hh U
          go_enter Tryd.func21, Tryd.ntmps21
          go_wp2_with (go_at_call 32; (with_reducible refine (AD.out _).mono ?_); rintro e w' ⟨rfl, rfl⟩)
          go_ret
          exact ⟨ret_bool E2.out.symm, rfl⟩

set_option maxHeartbeats 400000 in
theorem isFraction_any (s : ByteArray) (hs : s.size ≤ maxLen) (w : World) :
    Calls Tryd.prog 22 #[.string s] w fun e w' => e = .returned (.bool (fracB s)) ∧ w = w' := by
  have AD := Lib.hid (fun w => allDigits_any s hs w)
  unfold maxLen at hs
  by_cases h0 : s.size = 0
  · have E : Hid (fracB s = false) := by unfold Hid fracB; rw [decide_eq_false (by omega)]; rfl
    obtain rfl := empty_of_size h0
    clear h0
    go_enter Tryd.func22, Tryd.ntmps22
    go_wp2
    go_ret
    exact ⟨ret_bool E.out.symm, rfl⟩
  · have h1 : 1 ≤ s.size := by omega
    have hne := ne_of_size h1
    by_cases h9 : 4 < s.size
    · have E : Hid (fracB s = false) := by unfold Hid fracB; rw [decide_eq_false (by omega)]; rfl
      clear h0
      go_enter Tryd.func22, Tryd.ntmps22
      go_wp2
      go_ret
      exact ⟨ret_bool E.out.symm, rfl⟩
    · have h9' : s.size ≤ 4 := by omega
      have E : Hid (fracB s = (adig s && !(s.data.toList.getLast? == some 48))) := by unfold Hid fracB; rw [decide_eq_true (show 1 ≤ s.size ∧ s.size ≤ 4 from ⟨h1, h9'⟩)]; rfl
      clear h0 h9
      cases ha : adig s with
      | false =>
        unfold Hid at E
        rw [ha] at AD E
        have E' := Lib.hid E
        clear E ha
        go_enter Tryd.func22, Tryd.ntmps22
        go_wp2_with (go_at_call 32; (with_reducible refine (AD.out _).mono ?_); rintro e w' ⟨rfl, rfl⟩)
        go_ret
        exact ⟨ret_bool E'.out.symm, rfl⟩
      | true =>
        unfold Hid at E
        rw [ha] at AD E
        have E' := Lib.hid E
        have hh := last_at (show 0 < s.size by omega)
        have U := u8_int (c := s[s.size - 1])
        have E2 : Hid (fracB s = ((s[s.size - 1].toNat : Int) != 48)) := by
          unfold Hid; rw [E'.out, U, hh]
          by_cases e : s[s.size - 1] = 48
          · rw [e]; rfl
          · rw [beq_eq_false_iff_ne.2 e, beq_eq_false_iff_ne.2 (fun k => e (Option.some.inj k))]; rfl
        clear E ha hh U
        go_enter Tryd.func22, Tryd.ntmps22
        go_wp2_with (go_at_call 32; (with_reducible refine (AD.out _).mono ?_); rintro e w' ⟨rfl, rfl⟩)
        go_ret
        exact ⟨ret_bool E2.out.symm, rfl⟩

end Go.Proofs.YtoahdhhbjljjlaaDoor
