/-
  What checkAll, Check, asAmount and Add of package money do: contracts.
-/
import Derived.Test.YtgccipmeiceonaaBase
import Derived.Test.YtgccipmeiceonaaMoneyMath
namespace Go.Proofs.Ytgccipmeiceonaa
open Go.RowKit
set_option linter.unusedVariables false

theorem allE_take {zs : List Int} {k : Nat} (hk : k < zs.length) (hb : amtB (zs.getD k 0) = false) : allE zs = 3 := by
  refine allE_bad (a := zs.getD k 0) ?_ hb
  rw [List.getD_eq_getElem?_getD, List.getElem?_eq_getElem hk]
  simp

theorem checkAll_some (b off cap : Nat) (zs : List Int) (w : World) (hm : zs.length ≤ maxLen) (hc : ∀ j, j < zs.length → w.cell? ⟨b, off + j, none⟩ = some (.int .i64 (zs.getD j 0))) :
    Calls Try.prog 98 #[.slice (some ⟨b, off, none⟩) zs.length cap] w fun e w' => e = .returned (.int .i64 (allE zs)) ∧ w = w' := by
  unfold maxLen at hm
  have HC := Lib.hid hc; clear hc
  go_enter Try.func98, Try.ntmps98
  go_wp2
  go_loop [7] (fun i => ∃ k : Nat, k ≤ zs.length ∧ i = .int .i64 k ∧ Hid (∀ j, j < k → amtB (zs.getD j 0) = true)) (fun i => zs.length - (intOf i).toNat)
  case atStart => exact ⟨0, Nat.zero_le _, rfl, fun _ h => absurd h (Nat.not_lt_zero _)⟩
  case round =>
    obtain ⟨k, hk, rfl, HA⟩ := hrel
    by_cases hlt : k < zs.length
    · have hcell := HC.out k hlt
      generalize hz : zs.getD k 0 = z at hcell
      have HZ := Lib.hid hz; clear hz
      cases hb : amtB z with
      | true =>
        have hb' := amt_t hb
        have HB := Lib.hid hb; clear hb
        go_wp2
        go_round
        case rel => exact ⟨k + 1, by omega, by go_num, fun j hj => by
          rcases Nat.lt_succ_iff_lt_or_eq.1 hj with h | h
          · exact HA.out j h
          · rw [h, HZ.out]; exact HB.out⟩
        case measure => simp [intOf]; omega
      | false =>
        have hb' := amt_f hb
        have h3 := allE_take hlt (by rw [HZ.out]; exact hb)
        have H3 := Lib.hid h3; clear h3 hb
        by_cases h1 : z < -1152921504606846976
        · go_wp2
          go_ret
          exact ⟨ret_int H3.out.symm, rfl⟩
        · have h2 : 1152921504606846976 < z := by omega
          go_wp2
          go_ret
          exact ⟨ret_int H3.out.symm, rfl⟩
    · have e : allE zs = 0 := allE_ok fun a ha => by
        obtain ⟨j, hj, rfl⟩ := List.getElem_of_mem ha
        have := HA.out j (by omega)
        simpa [List.getD_eq_getElem?_getD, List.getElem?_eq_getElem hj] using this
      have E := Lib.hid e; clear e
      go_wp2
      go_ret
      exact ⟨ret_int E.out.symm, rfl⟩

theorem checkAll_none (cap : Nat) (a : Option Addr) (w : World) : Calls Try.prog 98 #[.slice a 0 cap] w fun e w' => e = .returned (.int .i64 0) ∧ w = w' := by
  go_enter Try.func98, Try.ntmps98
  go_wp2
  go_loop [7] (fun i => i = .int .i64 0) (fun _ => 0)
  case atStart => exact rfl
  case round =>
    obtain rfl := hrel
    go_wp2
    go_ret
    exact ⟨rfl, rfl⟩

theorem checkAll_any (v : Value) (zs : List Int) (w : World) (h : Reads w v zs) :
    Calls Try.prog 98 #[v] w fun e w' => e = .returned (.int .i64 (allE zs)) ∧ w = w' := by
  obtain ⟨a, cap, rfl, hm, hc⟩ := h
  by_cases h0 : zs = []
  · subst h0; exact checkAll_none cap a w
  · obtain ⟨b, off, rfl, -⟩ := hc 0 (by cases zs <;> simp at h0 ⊢)
    refine checkAll_some b off cap zs w hm fun j hj => ?_
    obtain ⟨b', off', e, h'⟩ := hc j hj
    simp only [Option.some.injEq, Addr.mk.injEq] at e
    obtain ⟨rfl, rfl, -⟩ := e
    exact h'

theorem checkAll1 (a : Int) (T : TypeId) (w : World) :
    Calls Try.prog 98 #[.slice (some ⟨w.heap.size, 0, none⟩) 1 1] (w.alloc (.cells #[.int .i64 a] T)) fun e w' => e = .returned (.int .i64 (allE [a])) ∧ w.alloc (.cells #[.int .i64 a] T) = w' :=
  checkAll_some w.heap.size 0 1 [a] _ (by unfold maxLen; simp) fun j hj => by
    obtain rfl : j = 0 := by simpa using hj
    simp [go_sem]

theorem checkAll1_ok (a : Int) (T : TypeId) (w : World) (h : amtB a = true) :
    Calls Try.prog 98 #[.slice (some ⟨w.heap.size, 0, none⟩) 1 1] (w.alloc (.cells #[.int .i64 a] T)) fun e w' => e = .returned (.int .i64 0) ∧ w.alloc (.cells #[.int .i64 a] T) = w' := by
  refine (checkAll1 a T w).mono ?_
  rintro e w' ⟨rfl, rfl⟩
  exact ⟨ret_int ((allE_cons_t (l := []) h).trans allE_nil), rfl⟩

theorem checkAll1_no (a : Int) (T : TypeId) (w : World) (h : amtB a = false) :
    Calls Try.prog 98 #[.slice (some ⟨w.heap.size, 0, none⟩) 1 1] (w.alloc (.cells #[.int .i64 a] T)) fun e w' => e = .returned (.int .i64 3) ∧ w.alloc (.cells #[.int .i64 a] T) = w' := by
  refine (checkAll1 a T w).mono ?_
  rintro e w' ⟨rfl, rfl⟩
  exact ⟨ret_int (allE_cons_f (l := []) h), rfl⟩

theorem checkAll2 (a b : Int) (T : TypeId) (w : World) :
    Calls Try.prog 98 #[.slice (some ⟨w.heap.size, 0, none⟩) 2 2] (w.alloc (.cells #[.int .i64 a, .int .i64 b] T)) fun e w' => e = .returned (.int .i64 (allE [a, b])) ∧ w.alloc (.cells #[.int .i64 a, .int .i64 b] T) = w' :=
  checkAll_some w.heap.size 0 2 [a, b] _ (by unfold maxLen; simp) fun j hj => by
    rcases (show j = 0 ∨ j = 1 by simp at hj; omega) with rfl | rfl <;> simp [go_sem]

theorem check_ok (a : Int) (w : World) (h : amtB a = true) :
    Calls Try.prog 97 #[.int .i64 a] w fun e w' => e = .returned (.int .i64 0) ∧ Grew w w' := by
  have E := Lib.hid ((allE_cons_t (l := []) h).trans allE_nil)
  clear h
  go_enter Try.func97, Try.ntmps97
  go_wp2_with (go_at_call 98; refine (checkAll1 _ _ _).mono ?_; rintro e w' ⟨rfl, rfl⟩)
  go_ret
  exact ⟨ret_int E.out, (Grew.refl _).alloc _ _⟩

theorem check_no (a : Int) (w : World) (h : amtB a = false) :
    Calls Try.prog 97 #[.int .i64 a] w fun e w' => e = .returned (.int .i64 3) ∧ Grew w w' := by
  have E := Lib.hid (allE_cons_f (l := []) h)
  clear h
  go_enter Try.func97, Try.ntmps97
  go_wp2_with (go_at_call 98; refine (checkAll1 _ _ _).mono ?_; rintro e w' ⟨rfl, rfl⟩)
  go_ret
  exact ⟨ret_int E.out, (Grew.refl _).alloc _ _⟩

theorem asAmount_ok (a : Int) (w : World) (h : amtB a = true) :
    Calls Try.prog 101 #[.int .i64 a] w fun e w' => e = .returned (.tuple #[.int .i64 a, .int .i64 0]) ∧ Grew w w' := by
  go_enter Try.func101, Try.ntmps101
  go_wp2_with (go_at_call 97; refine (check_ok _ _ h).mono ?_; rintro e w' ⟨rfl, hg⟩)
  go_ret2
  exact ⟨rfl, hg⟩

theorem asAmount_no (a : Int) (w : World) (h : amtB a = false) :
    Calls Try.prog 101 #[.int .i64 a] w fun e w' => e = .returned (.tuple #[.int .i64 0, .int .i64 8]) ∧ Grew w w' := by
  go_enter Try.func101, Try.ntmps101
  go_wp2_with (go_at_call 97; refine (check_no _ _ h).mono ?_; rintro e w' ⟨rfl, hg⟩)
  go_ret2
  exact ⟨rfl, hg⟩

end Go.Proofs.Ytgccipmeiceonaa
