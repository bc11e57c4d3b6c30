/-
  What isWeekend, isBusiness and checkDays of package cal do: contracts.
-/
import Derived.Test.YtmoanndonfmihaaCalA
import Derived.Test.YtmoanndonfmihaaShelf
namespace Go.Proofs.Ytmoanndonfmihaa
open Go.RowKit
set_option linter.unusedVariables false

theorem Grew.drewN {w w' : World} (h : Grew w w') (n : Nat) : Grew w (w'.drewN n) := by
  induction n generalizing w' with
  | zero => exact h
  | succ n ih => exact (ih h).drew

/-- a day of the weekend -/
def wkB (W n : Int) : Bool := bits BinOp.and IntKind.i64 (W / 2 ^ (n % 7).toNat) 1 == 1
theorem and_one (x : Nat) (h : x ≤ 126) : bits BinOp.and IntKind.i64 (x : Int) 1 = (x : Int) % 2 := by
  have : ∀ y : Fin 127, bits BinOp.and IntKind.i64 ((y.val : Nat) : Int) 1 = ((y.val : Nat) : Int) % 2 := by decide +kernel
  exact this ⟨x, by omega⟩
/-- .. by its bit -/
theorem wk_bit {W n : Int} (h0 : 0 ≤ W) (h1 : W ≤ 126) (hn : 0 ≤ n) : wkB W n = decide (W / 2 ^ (n % 7).toNat % 2 = 1) := by
  unfold wkB
  obtain ⟨x, hx⟩ : ∃ x : Nat, W / 2 ^ (n % 7).toNat = x := ⟨(W / 2 ^ (n % 7).toNat).toNat, by
    have : 0 ≤ W / 2 ^ (n % 7).toNat := Int.ediv_nonneg h0 (Int.le_of_lt (Int.pow_pos (by decide)))
    omega⟩
  have hle : x ≤ 126 := by
    have : W / 2 ^ (n % 7).toNat ≤ W := Int.ediv_le_self _ h0
    omega
  rw [hx, and_one x hle]
  by_cases h : (x : Int) % 2 = 1
  · rw [h]; rfl
  · rw [decide_eq_false h, beq_eq_false_iff_ne.2 h]

theorem isWeekend_any (W n : Int) (a : Option Addr) (l cap : Nat) (h0 : 0 ≤ W) (h1 : W ≤ 126) (n0 : 0 ≤ n) (n1 : n ≤ 3652058) (w : World) :
    Calls Try.prog 119 #[calV W (.slice a l cap), .int .i64 n] w fun e w' => e = .returned (.bool (wkB W n)) ∧ Grew w w' := by
  have WK := Lib.hid (fun w => week_ok n n0 n1 w)
  have d0 : 0 ≤ n % 7 := by omega
  have d1 : n % 7 ≤ 6 := by omega
  have E : Hid (wkB W n = (bits BinOp.and IntKind.i64 (W / 2 ^ (n % 7).toNat) 1 == 1)) := rfl
  generalize n % 7 = d at WK d0 d1 E
  go_enter Try.func119, Try.ntmps119
  go_wp2_with (go_at_call 86; (with_reducible refine (WK.out _).mono ?_); rintro e w' ⟨rfl, rfl⟩)
  go_ret
  exact ⟨ret_bool E.out.symm, (Grew.refl _).alloc _ _⟩

/-- a business day -/
def bizB (W : Int) (hs : List Int) (n : Int) : Bool := !hs.contains n && !wkB W n

theorem search_any (v : Value) (hs : List Int) (n : Int) (w : World) (hr : Reads w v hs) (hl : hs.length ≤ 60) (hp : hs.Pairwise (· ≤ ·)) :
    Calls Try.prog 145 #[v, .int .i64 n] w fun e w' => (∃ p : Int, e = .returned (.tuple #[.int .i64 p, .bool (hs.contains n)])) ∧ Grew w w' := by
  rcases hr.cell with ⟨rfl, a, cap, rfl⟩ | ⟨_, b, off, cap, rfl, hc⟩
  · refine (Try.slices_BinarySearch_int_empty a cap n w).mono ?_
    rintro e w' ⟨rfl, rfl⟩
    exact ⟨⟨0, rfl⟩, Grew.refl _⟩
  · have h := Try.slices_BinarySearch_int b off hs.length cap hs n w (Nat.le_refl _) (by omega) hc (by rw [List.take_length]; exact hp)
    rw [List.take_length] at h
    refine h.mono ?_
    rintro e w' ⟨rfl, q, rfl⟩
    exact ⟨⟨_, rfl⟩, (Grew.refl _).drewN q⟩

set_option maxHeartbeats 400000 in
theorem isBusiness_any (W n : Int) (v : Value) (hs : List Int) (h0 : 0 ≤ W) (h1 : W ≤ 126) (n0 : 0 ≤ n) (n1 : n ≤ 3652058) (w : World) (hr : Reads w v hs) (hl : hs.length ≤ 60) (hp : hs.Pairwise (· ≤ ·)) :
    Calls Try.prog 114 #[calV W v, .int .i64 n] w fun e w' => e = .returned (.bool (bizB W hs n)) ∧ Grew w w' := by
  obtain ⟨a, cap, rfl, hm, hc⟩ := id hr
  have SR := Lib.hid (fun w' (g : Grew w w') => search_any _ hs n w' (hr.grew g) hl hp)
  have WD := Lib.hid (fun w => isWeekend_any W n a hs.length cap h0 h1 n0 n1 w)
  have HBZ : Hid (bizB W hs n = (!hs.contains n && !wkB W n)) := rfl
  clear hr hm hc hp
  cases hk : hs.contains n with
  | true =>
    rw [hk] at SR HBZ
    have E : Hid (bizB W hs n = false) := by unfold Hid at HBZ ⊢; rw [HBZ]; rfl
    clear hk HBZ
    go_enter Try.func114, Try.ntmps114
    go_wp2_with (go_at_call 145; (with_reducible refine (SR.out _ ((Grew.refl _).alloc _ _)).mono ?_); rintro e w1 ⟨⟨p, rfl⟩, g1⟩; have G1 := Lib.hid g1; clear g1)
    go_ret
    exact ⟨ret_bool E.out.symm, gtr ((Grew.refl _).alloc _ _) G1.out⟩
  | false =>
    rw [hk] at SR HBZ
    generalize wkB W n = q at WD HBZ
    have E : Hid (bizB W hs n = !q) := by unfold Hid at HBZ ⊢; rw [HBZ]; cases q <;> rfl
    clear hk HBZ
    go_enter Try.func114, Try.ntmps114
    go_wp2_with (first
      | (go_at_call 145; (with_reducible refine (SR.out _ ((Grew.refl _).alloc _ _)).mono ?_); rintro e w1 ⟨⟨p, rfl⟩, g1⟩; have cb := g1.cell (p := ⟨w.heap.size, 0, none⟩) (v := .int .i64 W) (by simp) (by simp [go_sem]); have cv := g1.cell (p := ⟨w.heap.size, 1, none⟩) (v := .slice a hs.length cap) (by simp) (by simp [go_sem]); have G1 := Lib.hid g1; clear g1)
      | (go_at_call 119; (with_reducible refine (WD.out _).mono ?_); rintro e w2 ⟨rfl, g2⟩; have G2 := Lib.hid g2; clear g2))
    go_ret
    exact ⟨ret_bool E.out.symm, gtr (gtr ((Grew.refl _).alloc _ _) G1.out) G2.out⟩

end Go.Proofs.Ytmoanndonfmihaa
