/-
  What wideSum and Total of package money do: contracts.
-/
import Derived.Test.YtjpikiglkgljbaaDoorPart2
namespace Go.Proofs.YtjpikiglkgljbaaDoor
open Go.RowKit
set_option linter.unusedVariables false

theorem checkAll2_ok (a b : Int) (T : TypeId) (w : World) (ha : amtB a = true) (hb : amtB b = true) :
    Calls Tryd.prog 59 #[.slice (some ⟨w.heap.size, 0, none⟩) 2 2] (w.alloc (.cells #[.int .i64 a, .int .i64 b] T)) fun e w' => e = .returned (.int .i64 0) ∧ w.alloc (.cells #[.int .i64 a, .int .i64 b] T) = w' := by
  refine (checkAll2 a b T w).mono ?_
  rintro e w' ⟨rfl, rfl⟩
  exact ⟨ret_int (by rw [allE_cons_t ha, allE_cons_t hb, allE_nil]), rfl⟩
theorem checkAll2_no (a b : Int) (T : TypeId) (w : World) (h : amtB a = false ∨ amtB b = false) :
    Calls Tryd.prog 59 #[.slice (some ⟨w.heap.size, 0, none⟩) 2 2] (w.alloc (.cells #[.int .i64 a, .int .i64 b] T)) fun e w' => e = .returned (.int .i64 3) ∧ w.alloc (.cells #[.int .i64 a, .int .i64 b] T) = w' := by
  refine (checkAll2 a b T w).mono ?_
  rintro e w' ⟨rfl, rfl⟩
  refine ⟨ret_int ?_, rfl⟩
  rcases h with h | h
  · exact allE_cons_f h
  · exact allE_bad (a := b) (by simp) h

theorem add64_run (x y : Int) (hx : 0 ≤ x) (hy : 0 ≤ y) (w : World) :
    (callFunc 76 #[.int .u64 x, .int .u64 y, .int .u64 0]).run Tryd.prog w =
      .ok (.value (.tuple #[.int .u64 ((x + y) % 18446744073709551616), .int .u64 ((x + y) / 18446744073709551616)])) w := by
  rw [run_callFunc_extern Tryd.func76 (by kernel_rfl) (by kernel_rfl) (by kernel_rfl) (e := add64Entry) (by kernel_rfl), run_add64 x y 0 hx hy (by omega) (by omega)]
  simp only [Result.andThen, Int.add_zero]

/-- a sum, in two words -/
def Wide (S h l : Int) : Prop := S = h * 18446744073709551616 + (if l < 0 then l + 18446744073709551616 else l)

theorem wide_step {S h l z : Int} (hW : Wide S h l) (hl0 : -9223372036854775808 ≤ l) (hl1 : l ≤ 9223372036854775807) (hz : amtB z = true) :
    ∃ L Z s c l' t : Int, IntKind.u64.wrap l = L ∧ IntKind.u64.wrap z = Z ∧ (∀ w, (callFunc 76 #[.int .u64 L, .int .u64 Z, .int .u64 0]).run Tryd.prog w = .ok (.value (.tuple #[.int .u64 s, .int .u64 c])) w) ∧
      wrap64 s = l' ∧ z / 9223372036854775808 = t ∧ 0 ≤ c ∧ c ≤ 1 ∧ -1 ≤ t ∧ t ≤ 0 ∧ -9223372036854775808 ≤ l' ∧ l' ≤ 9223372036854775807 ∧ Wide (S + z) (h + (t + c)) l' := by
  have hz1 := amt_t hz
  unfold Wide at *
  refine ⟨_, _, _, _, _, _, rfl, rfl, fun w => add64_run _ _ (by rw [IntKind.wrap_u64]; omega) (by rw [IntKind.wrap_u64]; omega) w, rfl, rfl, ?_⟩
  simp only [IntKind.wrap_u64, wrap64]
  refine ⟨by omega, by omega, by omega, by omega, by omega, by omega, ?_⟩
  split at hW <;> split <;> omega

theorem sum_take_succ {zs : List Int} {k : Nat} (hk : k < zs.length) : (zs.take (k + 1)).sum = (zs.take k).sum + zs.getD k 0 := by
  rw [List.take_succ_eq_append_getElem hk, List.sum_append, List.getD_eq_getElem?_getD, List.getElem?_eq_getElem hk]
  simp

theorem getD_mem {zs : List Int} {k : Nat} (hk : k < zs.length) : zs.getD k 0 ∈ zs := by
  rw [List.getD_eq_getElem?_getD, List.getElem?_eq_getElem hk]; simp

set_option maxHeartbeats 400000 in
theorem wideSum_some (b off cap : Nat) (zs : List Int) (w : World) (hm : zs.length ≤ 40) (hc : ∀ j, j < zs.length → w.cell? ⟨b, off + j, none⟩ = some (.int .i64 (zs.getD j 0))) (ha : ∀ z ∈ zs, amtB z = true) :
    Calls Tryd.prog 71 #[.slice (some ⟨b, off, none⟩) zs.length cap] w fun e w' => (∃ h l : Int, e = .returned (.tuple #[.int .i64 h, .int .i64 l]) ∧ -40 ≤ h ∧ h ≤ 40 ∧ -9223372036854775808 ≤ l ∧ l ≤ 9223372036854775807 ∧ Wide zs.sum h l) ∧ w = w' := by
  have HC := Lib.hid hc; clear hc
  have HA := Lib.hid ha; clear ha
  go_enter Tryd.func71, Tryd.ntmps71
  go_wp2
  go_loop [2, 3, 10] (fun h l i => ∃ (k : Nat) (a b : Int), k ≤ zs.length ∧ i = .int .i64 k ∧ h = .int .i64 a ∧ l = .int .i64 b ∧ -(k : Int) ≤ a ∧ a ≤ (k : Int) ∧ -9223372036854775808 ≤ b ∧ b ≤ 9223372036854775807 ∧ Hid (Wide (zs.take k).sum a b)) (fun _ _ i => zs.length - (intOf i).toNat)
  case atStart => exact ⟨0, 0, 0, Nat.zero_le _, rfl, rfl, rfl, by omega, by omega, by omega, by omega, by simp [Hid, Wide]⟩
  case round =>
    obtain ⟨k, h, l, hk, rfl, rfl, rfl, hh0, hh1, hl0, hl1, HW⟩ := hrel
    by_cases hlt : k < zs.length
    · have hcell := HC.out k hlt
      have ha := HA.out _ (getD_mem hlt)
      have hs := sum_take_succ hlt
      generalize zs.getD k 0 = z at hcell ha hs
      have HS := Lib.hid hs; clear hs
      obtain ⟨L, Z, s, c, l', t, e1, e2, e3, e4, e5, hc0, hc1, ht0, ht1, hl0', hl1', HW'0⟩ := wide_step HW.out hl0 hl1 ha
      have HW' := Lib.hid HW'0; clear HW'0
      go_wp2
      go_round
      case rel => exact ⟨k + 1, h + (t + c), wrap64 s, by omega, by go_num, rfl, rfl, by omega, by omega, by rw [e4]; exact hl0', by rw [e4]; exact hl1', by unfold Hid; rw [HS.out, e4]; exact HW'.out⟩
      case measure => simp [intOf]; omega
    · have e : zs.take k = zs := List.take_of_length_le (by omega)
      rw [e] at HW
      clear e
      go_wp2
      go_ret2
      exact ⟨⟨h, l, rfl, by omega, by omega, hl0, hl1, HW.out⟩, rfl⟩

theorem wideSum_none (a : Option Addr) (cap : Nat) (w : World) :
    Calls Tryd.prog 71 #[.slice a 0 cap] w fun e w' => e = .returned (.tuple #[.int .i64 0, .int .i64 0]) ∧ w = w' := by
  go_enter Tryd.func71, Tryd.ntmps71
  go_wp2
  go_loop [2, 3, 10] (fun h l i => h = .int .i64 0 ∧ l = .int .i64 0 ∧ i = .int .i64 0) (fun _ _ _ => 0)
  case atStart => exact ⟨rfl, rfl, rfl⟩
  case round =>
    obtain ⟨rfl, rfl, rfl⟩ := hrel
    go_wp2
    go_ret2
    exact ⟨rfl, rfl⟩

theorem wideSum_any (v : Value) (zs : List Int) (w : World) (hr : Reads w v zs) (hm : zs.length ≤ 40) (ha : ∀ z ∈ zs, amtB z = true) :
    Calls Tryd.prog 71 #[v] w fun e w' => (∃ h l : Int, e = .returned (.tuple #[.int .i64 h, .int .i64 l]) ∧ -40 ≤ h ∧ h ≤ 40 ∧ -9223372036854775808 ≤ l ∧ l ≤ 9223372036854775807 ∧ Wide zs.sum h l) ∧ w = w' := by
  rcases hr.cell with ⟨rfl, a, cap, rfl⟩ | ⟨_, b, off, cap, rfl, hc⟩
  · refine (wideSum_none a cap w).mono ?_
    rintro e w' ⟨rfl, rfl⟩
    exact ⟨⟨0, 0, rfl, by omega, by omega, by omega, by omega, by simp [Wide]⟩, rfl⟩
  · exact wideSum_some b off cap zs w hm hc ha

theorem wide_fit {S h l : Int} (hW : Wide S h l) (hl0 : -9223372036854775808 ≤ l) (hl1 : l ≤ 9223372036854775807) : ∃ t, l / 9223372036854775808 = t ∧ -1 ≤ t ∧ t ≤ 0 ∧ ((h = t ∧ S = l) ∨ (h ≠ t ∧ amtB S = false)) := by
  refine ⟨_, rfl, by omega, by omega, ?_⟩
  unfold Wide at hW
  by_cases e : h = l / 9223372036854775808
  · refine .inl ⟨e, ?_⟩
    split at hW <;> omega
  · refine .inr ⟨e, amt_no ?_⟩
    split at hW <;> omega

theorem total_many (a : Option Addr) (n cap : Nat) (hn : 40 < n) (hb : n ≤ maxLen) (w : World) :
    Calls Tryd.prog 57 #[.slice a n cap] w fun e w' => e = .returned (.tuple #[.int .i64 0, .int .i64 2]) ∧ w = w' := by
  unfold maxLen at hb
  go_enter Tryd.func57, Tryd.ntmps57
  go_wp2
  go_ret2
  exact ⟨rfl, rfl⟩

theorem total_no (a : Option Addr) (n cap : Nat) (zs : List Int) (hn : n ≤ 40) (w : World) (hr : Reads w (.slice a n cap) zs) (h : allE zs = 3) :
    Calls Tryd.prog 57 #[.slice a n cap] w fun e w' => e = .returned (.tuple #[.int .i64 0, .int .i64 3]) ∧ w = w' := by
  have C := Lib.hid (checkAll_any _ zs w hr)
  rw [h] at C
  clear hr h
  go_enter Tryd.func57, Tryd.ntmps57
  go_wp2_with (go_at_call 59; (with_reducible refine C.out.mono ?_); rintro e w' ⟨rfl, rfl⟩)
  go_ret2
  exact ⟨rfl, rfl⟩

set_option maxHeartbeats 400000 in
theorem total_ok (a : Option Addr) (n cap : Nat) (zs : List Int) (hn : n ≤ 40) (w : World) (hr : Reads w (.slice a n cap) zs) (h : allE zs = 0) (hS : amtB zs.sum = true) :
    Calls Tryd.prog 57 #[.slice a n cap] w fun e w' => e = .returned (.tuple #[.int .i64 zs.sum, .int .i64 0]) ∧ Grew w w' := by
  have hl : zs.length = n := by
    obtain ⟨a', cap', e, -⟩ := hr
    simp only [Value.slice.injEq] at e
    exact e.2.1.symm
  have ha : ∀ z ∈ zs, amtB z = true := by
    rcases allE_cases zs with ⟨_, q⟩ | ⟨q, _⟩
    · exact q
    · omega
  have C := Lib.hid (checkAll_any _ zs w hr)
  have D := Lib.hid (wideSum_any _ zs w hr (by omega) ha)
  rw [h] at C
  clear hr h hl ha
  generalize zs.sum = S at D hS ⊢
  go_enter Tryd.func57, Tryd.ntmps57
  go_wp2_with (first
    | (go_at_call 59; (with_reducible refine C.out.mono ?_); rintro e w' ⟨rfl, rfl⟩)
    | (go_at_call 71; (with_reducible refine D.out.mono ?_); rintro e w' ⟨⟨h, l, rfl, hh0, hh1, hl0, hl1, hW⟩, rfl⟩; obtain ⟨t, e1, ht0, ht1, hf⟩ := wide_fit hW hl0 hl1; clear hW; obtain ⟨rfl, rfl⟩ : h = t ∧ S = l := (hf.resolve_right (fun q => by rw [hS] at q; exact absurd q.2 (by decide))); clear hf)
    | (go_at_call 62; (with_reducible refine (asAmount_ok _ _ hS).mono ?_); rintro e w' ⟨rfl, hg⟩))
  go_ret2
  exact ⟨rfl, hg⟩

set_option maxHeartbeats 400000 in
theorem total_wide (a : Option Addr) (n cap : Nat) (zs : List Int) (hn : n ≤ 40) (w : World) (hr : Reads w (.slice a n cap) zs) (h : allE zs = 0) (hS : amtB zs.sum = false) :
    Calls Tryd.prog 57 #[.slice a n cap] w fun e w' => e = .returned (.tuple #[.int .i64 0, .int .i64 8]) ∧ Grew w w' := by
  have hl : zs.length = n := by
    obtain ⟨a', cap', e, -⟩ := hr
    simp only [Value.slice.injEq] at e
    exact e.2.1.symm
  have ha : ∀ z ∈ zs, amtB z = true := by
    rcases allE_cases zs with ⟨_, q⟩ | ⟨q, _⟩
    · exact q
    · omega
  have C := Lib.hid (checkAll_any _ zs w hr)
  have D := Lib.hid (wideSum_any _ zs w hr (by omega) ha)
  rw [h] at C
  clear hr h hl ha
  generalize zs.sum = S at D hS ⊢
  go_enter Tryd.func57, Tryd.ntmps57
  go_wp2_with (first
    | (go_at_call 59; (with_reducible refine C.out.mono ?_); rintro e w' ⟨rfl, rfl⟩)
    | (go_at_call 71; (with_reducible refine D.out.mono ?_); rintro e w' ⟨⟨h, l, rfl, hh0, hh1, hl0, hl1, hW⟩, rfl⟩; obtain ⟨t, e1, ht0, ht1, hf⟩ := wide_fit hW hl0 hl1; clear hW; rcases hf with ⟨rfl, rfl⟩ | ⟨hq, -⟩)
    | (go_at_call 62; (with_reducible refine (asAmount_no _ _ hS).mono ?_); rintro e w' ⟨rfl, hg⟩))
  · go_ret2
    exact ⟨rfl, hg⟩
  · go_ret2
    exact ⟨rfl, Grew.refl _⟩

end Go.Proofs.YtjpikiglkgljbaaDoor
