/-
  Merged: FailA, FailB.
-/
import Derived.Test.YtgccipmeiceonaaWeek
import Derived.Test.YtgccipmeiceonaaMk4
-- FailA
namespace Go.Proofs.Ytgccipmeiceonaa
open Go.RowKit
set_option linter.unusedVariables false

/-- is it from a to b? -/
def btw (a b z : Int) : Bool := decide (a ≤ z ∧ z ≤ b)
theorem btw_t {a b z : Int} (h : btw a b z = true) : a ≤ z ∧ z ≤ b := of_decide_eq_true h
theorem btw_f {a b z : Int} (h : btw a b z = false) : ¬ (a ≤ z ∧ z ≤ b) := of_decide_eq_false h
theorem bt_out {a b z : Int} (h : btw a b z = false) : z < a ∨ b < z := by have := btw_f h; omega
/-- is it a fail, whatever became of it? -/
def fdue (i f t c p d u : Int) : Bool := btw 0 3652058 d && btw 1 1099511627776 i && (btw 0 30 f && btw 0 30 t) && btw 0 5 c && btw 1 20 p && btw 1 1073741824 u
theorem fdue_t {i f t c p d u : Int} (h : fdue i f t c p d u = true) : (0 ≤ d ∧ d ≤ 3652058) ∧ (1 ≤ i ∧ i ≤ 1099511627776) ∧ ((0 ≤ f ∧ f ≤ 30) ∧ (0 ≤ t ∧ t ≤ 30)) ∧ (0 ≤ c ∧ c ≤ 5) ∧ (1 ≤ p ∧ p ≤ 20) ∧ (1 ≤ u ∧ u ≤ 1073741824) := by
  simp only [fdue, Bool.and_eq_true] at h
  obtain ⟨⟨⟨⟨⟨h1, h2⟩, h3, h4⟩, h5⟩, h6⟩, h7⟩ := h
  exact ⟨btw_t h1, btw_t h2, ⟨btw_t h3, btw_t h4⟩, btw_t h5, btw_t h6, btw_t h7⟩
theorem fdue_mk {i f t c p d u : Int} (h : (0 ≤ d ∧ d ≤ 3652058) ∧ (1 ≤ i ∧ i ≤ 1099511627776) ∧ ((0 ≤ f ∧ f ≤ 30) ∧ (0 ≤ t ∧ t ≤ 30)) ∧ (0 ≤ c ∧ c ≤ 5) ∧ (1 ≤ p ∧ p ≤ 20) ∧ (1 ≤ u ∧ u ≤ 1073741824)) : fdue i f t c p d u = true := by
  obtain ⟨h1, h2, ⟨h3, h4⟩, h5, h6, h7⟩ := h
  simp only [fdue, Bool.and_eq_true]
  exact ⟨⟨⟨⟨⟨decide_eq_true h1, decide_eq_true h2⟩, decide_eq_true h3, decide_eq_true h4⟩, decide_eq_true h5⟩, decide_eq_true h6⟩, decide_eq_true h7⟩
/-- may so many be delivered, bought, paid? -/
def ftk (u x b y : Int) : Bool := btw 0 u x && (btw 0 u b && btw 0 u y)
theorem ftk_t {u x b y : Int} (h : ftk u x b y = true) : (0 ≤ x ∧ x ≤ u) ∧ (0 ≤ b ∧ b ≤ u) ∧ (0 ≤ y ∧ y ≤ u) := by
  simp only [ftk, Bool.and_eq_true] at h
  exact ⟨btw_t h.1, btw_t h.2.1, btw_t h.2.2⟩
theorem ftk_mk {u x b y : Int} (h : (0 ≤ x ∧ x ≤ u) ∧ (0 ≤ b ∧ b ≤ u) ∧ (0 ≤ y ∧ y ≤ u)) : ftk u x b y = true := by
  simp only [ftk, Bool.and_eq_true]
  exact ⟨decide_eq_true h.1, decide_eq_true h.2.1, decide_eq_true h.2.2⟩
/-- the error of a fail -/
def failE (i f t c p d u x b y : Int) : Int :=
  if fdue i f t c p d u = true then (if f = t then 1 else if ftk u x b y = true then (if u - x - b - y < 0 then 4 else 0) else 3) else 3
theorem fail_0 {i f t c p d u x b y : Int} (h : failE i f t c p d u x b y = 0) : fdue i f t c p d u = true ∧ f ≠ t ∧ ftk u x b y = true ∧ 0 ≤ u - x - b - y := by
  unfold failE at h
  split at h
  · next h1 =>
    split at h
    · omega
    · next h2 =>
      split at h
      · next h3 =>
        split at h
        · omega
        · exact ⟨h1, h2, h3, by omega⟩
      · omega
  · omega
theorem fail_mk {i f t c p d u x b y : Int} (h1 : fdue i f t c p d u = true) (h2 : f ≠ t) (h3 : ftk u x b y = true) (h4 : 0 ≤ u - x - b - y) : failE i f t c p d u x b y = 0 := by
  unfold failE
  rw [if_pos h1, if_neg h2, if_pos h3, if_neg (by omega)]

theorem all_take {p : Int → Bool} {zs : List Int} {k : Nat} (hk : k < zs.length) : (zs.take (k + 1)).all p = ((zs.take k).all p && p (zs.getD k 0)) := by
  rw [List.take_add_one, List.getElem?_eq_getElem hk, List.all_append, List.getD_eq_getElem?_getD, List.getElem?_eq_getElem hk]
  simp
theorem all_false {p : Int → Bool} {zs : List Int} {k : Nat} (hk : k < zs.length) (h : p (zs.getD k 0) = false) : zs.all p = false := by
  rw [List.all_eq_false]
  refine ⟨zs.getD k 0, ?_, by rw [h]; simp⟩
  rw [List.getD_eq_getElem?_getD, List.getElem?_eq_getElem hk]
  simp

set_option maxHeartbeats 1000000 in
theorem within_run (a b : Int) (v : Value) (zs : List Int) (w : World) (hr : Reads w v zs) :
    Calls Try.prog 129 #[.int .i64 a, .int .i64 b, v] w fun e w' => e = .returned (.bool (zs.all (btw a b))) ∧ w = w' := by
  have hm := hr.len
  unfold maxLen at hm
  obtain ⟨am, cap, rfl, -⟩ := id hr
  have HC := Lib.hid hr.sl
  obtain ⟨n, hn⟩ : ∃ n, n = zs.length := ⟨_, rfl⟩
  have HN := Lib.hid hn
  have AT := Lib.hid (fun k (h : k < zs.length) => all_take (p := btw a b) h)
  have AX := Lib.hid (fun k (h : k < zs.length) h2 => all_false (p := btw a b) h h2)
  rw [← hn] at HC hm AT AX ⊢
  clear hr hn
  go_enter Try.func129, Try.ntmps129
  go_wp2
  go_loop [11] (fun i => ∃ k : Nat, k ≤ n ∧ i = .int .i64 (k : Int) ∧ Hid ((zs.take k).all (btw a b) = true)) (fun i => n - (intOf i).toNat)
  case atStart => exact ⟨0, Nat.zero_le _, rfl, rfl⟩
  case round =>
    obtain ⟨k, hk, rfl, HA⟩ := hrel
    by_cases hlt : k < n
    · obtain ⟨bm, om, rfl, c1⟩ := HC.out k hlt
      have at' := AT.out k hlt
      have ax := AX.out k hlt
      rw [HA.out, Bool.true_and] at at'
      generalize zs.getD k 0 = z at c1 at' ax
      by_cases h1 : z < a
      · have y1 : decide (z < a) = true := decide_eq_true h1
        have e : btw a b z = false := decide_eq_false (by omega)
        have EX := Lib.hid (ax e)
        clear at' ax e
        go_wp2
        go_ret
        exact ⟨by rw [EX.out]; rfl, rfl⟩
      · have y1 : decide (z < a) = false := decide_eq_false h1
        by_cases h2 : b < z
        · have y2 : decide (b < z) = true := decide_eq_true h2
          have e : btw a b z = false := decide_eq_false (by omega)
          have EX := Lib.hid (ax e)
          clear at' ax e
          go_wp2
          go_ret
          exact ⟨by rw [EX.out]; rfl, rfl⟩
        · have y2 : decide (b < z) = false := decide_eq_false h2
          have e : btw a b z = true := decide_eq_true (by omega)
          have HA' := Lib.hid (at'.trans e)
          clear at' ax e
          go_wp2
          go_round
          case rel => exact ⟨k + 1, by omega, by go_num, HA'.out⟩
          case measure => simp [intOf]; omega
    · have e : zs.all (btw a b) = true := by
        have := HA.out
        rwa [List.take_of_length_le (by have := HN.out; omega)] at this
      have EX := Lib.hid e
      clear e
      go_wp2
      go_ret
      exact ⟨by rw [EX.out]; rfl, rfl⟩

theorem reads_new {w : World} {cs : Array Value} {zs : List Int} (hm : zs.length ≤ maxLen) (h : ∀ j, j < zs.length → cs[j]? = some (.int .i64 (zs.getD j 0))) (cap : Nat) : Reads (w.alloc (.cells cs 3)) (.slice (some ⟨w.heap.size, 0, none⟩) zs.length cap) zs :=
  reads_mk rfl hm fun j hj => by
    rw [Nat.zero_add, cell_of_row _ _ j cs _ (0, 0) (heap_alloc_new w _)]
    exact h j hj
theorem one_at (z : Int) : ∀ j, j < [z].length → (#[Value.int .i64 z] : Array Value)[j]? = some (.int .i64 ([z].getD j 0)) := by
  intro j hj
  have : j = 0 := by simp at hj; exact hj
  subst this; rfl
theorem two_at (z1 z2 : Int) : ∀ j, j < [z1, z2].length → (#[Value.int .i64 z1, Value.int .i64 z2] : Array Value)[j]? = some (.int .i64 ([z1, z2].getD j 0)) := by
  intro j hj
  rcases (show j = 0 ∨ j = 1 by simp at hj; omega) with rfl | rfl <;> rfl
theorem three_at (z1 z2 z3 : Int) : ∀ j, j < [z1, z2, z3].length → (#[Value.int .i64 z1, Value.int .i64 z2, Value.int .i64 z3] : Array Value)[j]? = some (.int .i64 ([z1, z2, z3].getD j 0)) := by
  intro j hj
  rcases (show j = 0 ∨ j = 1 ∨ j = 2 by simp at hj; omega) with rfl | rfl | rfl <;> rfl
theorem within1 (a b z : Int) (B : Bool) (h : btw a b z = B) (w : World) (H : Nat) (hH : w.heap.size = H) :
    Calls Try.prog 129 #[.int .i64 a, .int .i64 b, .slice (some ⟨H, 0, none⟩) 1 1] (w.alloc (.cells #[.int .i64 z] 3)) fun e w' => e = .returned (.bool B) ∧ w.alloc (.cells #[.int .i64 z] 3) = w' := by
  subst hH
  have := within_run a b _ [z] _ (reads_new (w := w) (by unfold maxLen; simp) (one_at z) 1)
  rw [show [z].all (btw a b) = B by simp [h]] at this
  exact this
theorem within2 (a b z1 z2 : Int) (B : Bool) (h : (btw a b z1 && btw a b z2) = B) (w : World) (H : Nat) (hH : w.heap.size = H) :
    Calls Try.prog 129 #[.int .i64 a, .int .i64 b, .slice (some ⟨H, 0, none⟩) 2 2] (w.alloc (.cells #[.int .i64 z1, .int .i64 z2] 3)) fun e w' => e = .returned (.bool B) ∧ w.alloc (.cells #[.int .i64 z1, .int .i64 z2] 3) = w' := by
  subst hH
  have := within_run a b _ [z1, z2] _ (reads_new (w := w) (by unfold maxLen; simp) (two_at z1 z2) 2)
  rw [show [z1, z2].all (btw a b) = B by simp [← h]] at this
  exact this
theorem within3 (a b z1 z2 z3 : Int) (B : Bool) (h : (btw a b z1 && (btw a b z2 && btw a b z3)) = B) (w : World) (H : Nat) (hH : w.heap.size = H) :
    Calls Try.prog 129 #[.int .i64 a, .int .i64 b, .slice (some ⟨H, 0, none⟩) 3 3] (w.alloc (.cells #[.int .i64 z1, .int .i64 z2, .int .i64 z3] 3)) fun e w' => e = .returned (.bool B) ∧ w.alloc (.cells #[.int .i64 z1, .int .i64 z2, .int .i64 z3] 3) = w' := by
  subst hH
  have := within_run a b _ [z1, z2, z3] _ (reads_new (w := w) (by unfold maxLen; simp) (three_at z1 z2 z3) 3)
  rw [show [z1, z2, z3].all (btw a b) = B by simp [← h]] at this
  exact this

/-- what is open, of a fail whose numbers are small -/
theorem fopen_run (i f t c p d u x b y : Int) (w : World) (hu : 1 ≤ u ∧ u ≤ 1073741824) (hx : 0 ≤ x ∧ x ≤ u) (hb : 0 ≤ b ∧ b ≤ u) (hy : 0 ≤ y ∧ y ≤ u) :
    Calls Try.prog 130 #[.agg #[.int .i64 i, .int .i64 f, .int .i64 t, .int .i64 c, .int .i64 p, .int .i64 d, .int .i64 u, .int .i64 x, .int .i64 b, .int .i64 y]] w fun e w' => e = .returned (.int .i64 (u - x - b - y)) ∧ Kpt w w' := by
  have e1 : IntKind.i64.wrap (u - x) = u - x := by unfold IntKind.wrap; simp [IntKind.bits, IntKind.signed]; omega
  have e2 : IntKind.i64.wrap (u - x - b) = u - x - b := by unfold IntKind.wrap; simp [IntKind.bits, IntKind.signed]; omega
  have e3 : IntKind.i64.wrap (u - x - b - y) = u - x - b - y := by unfold IntKind.wrap; simp [IntKind.bits, IntKind.signed]; omega
  go_enter Try.func130, Try.ntmps130
  go_wp2
  go_ret
  exact ⟨rfl, by repeat (first | exact Kpt.refl _ | refine Kpt.alloc ?_ _)⟩

end Go.Proofs.Ytgccipmeiceonaa

-- FailB
namespace Go.Proofs.Ytgccipmeiceonaa
open Go.RowKit
set_option linter.unusedVariables false

set_option maxHeartbeats 2000000 in
theorem isDue_0 (i f t c p d u x b y : Int) (Y0 : btw 0 3652058 d = false) (w : World) :
    Calls Try.prog 128 #[.agg #[.int .i64 i, .int .i64 f, .int .i64 t, .int .i64 c, .int .i64 p, .int .i64 d, .int .i64 u, .int .i64 x, .int .i64 b, .int .i64 y]] w fun e w' => e = .returned (.bool false) ∧ Kpt w w' := by
  have HW := Lib.hid (fun w' => wk_no _ (bt_out Y0) w')
  go_enter Try.func128, Try.ntmps128
  go_wp2_with (first
    | (go_at_call 143; (with_reducible refine (HW.out _).mono ?_); rintro e w1 ⟨rfl, rfl⟩))
  go_ret
  exact ⟨rfl, by repeat (first | exact Kpt.refl _ | refine Kpt.alloc ?_ _)⟩
set_option maxHeartbeats 2000000 in
theorem isDue_1 (i f t c p d u x b y : Int) (Y0 : btw 0 3652058 d = true) (Y1 : btw 1 1099511627776 i = false) (w : World) :
    Calls Try.prog 128 #[.agg #[.int .i64 i, .int .i64 f, .int .i64 t, .int .i64 c, .int .i64 p, .int .i64 d, .int .i64 u, .int .i64 x, .int .i64 b, .int .i64 y]] w fun e w' => e = .returned (.bool false) ∧ Kpt w w' := by
  have HW := Lib.hid (fun w' => wk_ok _ (btw_t Y0).1 (btw_t Y0).2 w')
  go_enter Try.func128, Try.ntmps128
  go_wp2_with (first
    | (go_at_call 143; (with_reducible refine (HW.out _).mono ?_); rintro e w1 ⟨rfl, rfl⟩)
    | (go_at_call 129; (with_reducible refine (within1 _ _ _ _ Y1 _ _ (by simp)).mono ?_); rintro e w1 ⟨rfl, rfl⟩))
  go_ret
  exact ⟨rfl, by repeat (first | exact Kpt.refl _ | refine Kpt.alloc ?_ _)⟩
set_option maxHeartbeats 2000000 in
theorem isDue_2 (i f t c p d u x b y : Int) (Y0 : btw 0 3652058 d = true) (Y1 : btw 1 1099511627776 i = true) (Y2 : (btw 0 30 f && btw 0 30 t) = false) (w : World) :
    Calls Try.prog 128 #[.agg #[.int .i64 i, .int .i64 f, .int .i64 t, .int .i64 c, .int .i64 p, .int .i64 d, .int .i64 u, .int .i64 x, .int .i64 b, .int .i64 y]] w fun e w' => e = .returned (.bool false) ∧ Kpt w w' := by
  have HW := Lib.hid (fun w' => wk_ok _ (btw_t Y0).1 (btw_t Y0).2 w')
  go_enter Try.func128, Try.ntmps128
  go_wp2_with (first
    | (go_at_call 143; (with_reducible refine (HW.out _).mono ?_); rintro e w1 ⟨rfl, rfl⟩)
    | (go_at_call 129; (with_reducible refine (within1 _ _ _ _ Y1 _ _ (by simp)).mono ?_); rintro e w1 ⟨rfl, rfl⟩)
    | (go_at_call 129; (with_reducible refine (within2 _ _ _ _ _ Y2 _ _ (by simp)).mono ?_); rintro e w1 ⟨rfl, rfl⟩))
  go_ret
  exact ⟨rfl, by repeat (first | exact Kpt.refl _ | refine Kpt.alloc ?_ _)⟩
set_option maxHeartbeats 2000000 in
theorem isDue_3 (i f t c p d u x b y : Int) (Y0 : btw 0 3652058 d = true) (Y1 : btw 1 1099511627776 i = true) (Y2 : (btw 0 30 f && btw 0 30 t) = true) (Y3 : btw 0 5 c = false) (w : World) :
    Calls Try.prog 128 #[.agg #[.int .i64 i, .int .i64 f, .int .i64 t, .int .i64 c, .int .i64 p, .int .i64 d, .int .i64 u, .int .i64 x, .int .i64 b, .int .i64 y]] w fun e w' => e = .returned (.bool false) ∧ Kpt w w' := by
  have HW := Lib.hid (fun w' => wk_ok _ (btw_t Y0).1 (btw_t Y0).2 w')
  go_enter Try.func128, Try.ntmps128
  go_wp2_with (first
    | (go_at_call 143; (with_reducible refine (HW.out _).mono ?_); rintro e w1 ⟨rfl, rfl⟩)
    | (go_at_call 129; (with_reducible refine (within1 _ _ _ _ Y1 _ _ (by simp)).mono ?_); rintro e w1 ⟨rfl, rfl⟩)
    | (go_at_call 129; (with_reducible refine (within2 _ _ _ _ _ Y2 _ _ (by simp)).mono ?_); rintro e w1 ⟨rfl, rfl⟩)
    | (go_at_call 129; (with_reducible refine (within1 _ _ _ _ Y3 _ _ (by simp)).mono ?_); rintro e w1 ⟨rfl, rfl⟩))
  go_ret
  exact ⟨rfl, by repeat (first | exact Kpt.refl _ | refine Kpt.alloc ?_ _)⟩
set_option maxHeartbeats 2000000 in
theorem isDue_4 (i f t c p d u x b y : Int) (Y0 : btw 0 3652058 d = true) (Y1 : btw 1 1099511627776 i = true) (Y2 : (btw 0 30 f && btw 0 30 t) = true) (Y3 : btw 0 5 c = true) (Y4 : btw 1 20 p = false) (w : World) :
    Calls Try.prog 128 #[.agg #[.int .i64 i, .int .i64 f, .int .i64 t, .int .i64 c, .int .i64 p, .int .i64 d, .int .i64 u, .int .i64 x, .int .i64 b, .int .i64 y]] w fun e w' => e = .returned (.bool false) ∧ Kpt w w' := by
  have HW := Lib.hid (fun w' => wk_ok _ (btw_t Y0).1 (btw_t Y0).2 w')
  go_enter Try.func128, Try.ntmps128
  go_wp2_with (first
    | (go_at_call 143; (with_reducible refine (HW.out _).mono ?_); rintro e w1 ⟨rfl, rfl⟩)
    | (go_at_call 129; (with_reducible refine (within1 _ _ _ _ Y1 _ _ (by simp)).mono ?_); rintro e w1 ⟨rfl, rfl⟩)
    | (go_at_call 129; (with_reducible refine (within2 _ _ _ _ _ Y2 _ _ (by simp)).mono ?_); rintro e w1 ⟨rfl, rfl⟩)
    | (go_at_call 129; (with_reducible refine (within1 _ _ _ _ Y3 _ _ (by simp)).mono ?_); rintro e w1 ⟨rfl, rfl⟩)
    | (go_at_call 129; (with_reducible refine (within1 _ _ _ _ Y4 _ _ (by simp)).mono ?_); rintro e w1 ⟨rfl, rfl⟩))
  go_ret
  exact ⟨rfl, by repeat (first | exact Kpt.refl _ | refine Kpt.alloc ?_ _)⟩
set_option maxHeartbeats 2000000 in
theorem isDue_5 (i f t c p d u x b y : Int) (Y0 : btw 0 3652058 d = true) (Y1 : btw 1 1099511627776 i = true) (Y2 : (btw 0 30 f && btw 0 30 t) = true) (Y3 : btw 0 5 c = true) (Y4 : btw 1 20 p = true) (Y5 : btw 1 1073741824 u = false) (w : World) :
    Calls Try.prog 128 #[.agg #[.int .i64 i, .int .i64 f, .int .i64 t, .int .i64 c, .int .i64 p, .int .i64 d, .int .i64 u, .int .i64 x, .int .i64 b, .int .i64 y]] w fun e w' => e = .returned (.bool false) ∧ Kpt w w' := by
  have HW := Lib.hid (fun w' => wk_ok _ (btw_t Y0).1 (btw_t Y0).2 w')
  go_enter Try.func128, Try.ntmps128
  go_wp2_with (first
    | (go_at_call 143; (with_reducible refine (HW.out _).mono ?_); rintro e w1 ⟨rfl, rfl⟩)
    | (go_at_call 129; (with_reducible refine (within1 _ _ _ _ Y1 _ _ (by simp)).mono ?_); rintro e w1 ⟨rfl, rfl⟩)
    | (go_at_call 129; (with_reducible refine (within2 _ _ _ _ _ Y2 _ _ (by simp)).mono ?_); rintro e w1 ⟨rfl, rfl⟩)
    | (go_at_call 129; (with_reducible refine (within1 _ _ _ _ Y3 _ _ (by simp)).mono ?_); rintro e w1 ⟨rfl, rfl⟩)
    | (go_at_call 129; (with_reducible refine (within1 _ _ _ _ Y4 _ _ (by simp)).mono ?_); rintro e w1 ⟨rfl, rfl⟩)
    | (go_at_call 129; (with_reducible refine (within1 _ _ _ _ Y5 _ _ (by simp)).mono ?_); rintro e w1 ⟨rfl, rfl⟩))
  go_ret
  exact ⟨rfl, by repeat (first | exact Kpt.refl _ | refine Kpt.alloc ?_ _)⟩
set_option maxHeartbeats 2000000 in
theorem isDue_6 (i f t c p d u x b y : Int) (Y0 : btw 0 3652058 d = true) (Y1 : btw 1 1099511627776 i = true) (Y2 : (btw 0 30 f && btw 0 30 t) = true) (Y3 : btw 0 5 c = true) (Y4 : btw 1 20 p = true) (Y5 : btw 1 1073741824 u = true) (w : World) :
    Calls Try.prog 128 #[.agg #[.int .i64 i, .int .i64 f, .int .i64 t, .int .i64 c, .int .i64 p, .int .i64 d, .int .i64 u, .int .i64 x, .int .i64 b, .int .i64 y]] w fun e w' => e = .returned (.bool true) ∧ Kpt w w' := by
  have HW := Lib.hid (fun w' => wk_ok _ (btw_t Y0).1 (btw_t Y0).2 w')
  go_enter Try.func128, Try.ntmps128
  go_wp2_with (first
    | (go_at_call 143; (with_reducible refine (HW.out _).mono ?_); rintro e w1 ⟨rfl, rfl⟩)
    | (go_at_call 129; (with_reducible refine (within1 _ _ _ _ Y1 _ _ (by simp)).mono ?_); rintro e w1 ⟨rfl, rfl⟩)
    | (go_at_call 129; (with_reducible refine (within2 _ _ _ _ _ Y2 _ _ (by simp)).mono ?_); rintro e w1 ⟨rfl, rfl⟩)
    | (go_at_call 129; (with_reducible refine (within1 _ _ _ _ Y3 _ _ (by simp)).mono ?_); rintro e w1 ⟨rfl, rfl⟩)
    | (go_at_call 129; (with_reducible refine (within1 _ _ _ _ Y4 _ _ (by simp)).mono ?_); rintro e w1 ⟨rfl, rfl⟩)
    | (go_at_call 129; (with_reducible refine (within1 _ _ _ _ Y5 _ _ (by simp)).mono ?_); rintro e w1 ⟨rfl, rfl⟩))
  go_ret
  exact ⟨rfl, by repeat (first | exact Kpt.refl _ | refine Kpt.alloc ?_ _)⟩

theorem isDue_run (i f t c p d u x b y : Int) (w : World) :
    Calls Try.prog 128 #[.agg #[.int .i64 i, .int .i64 f, .int .i64 t, .int .i64 c, .int .i64 p, .int .i64 d, .int .i64 u, .int .i64 x, .int .i64 b, .int .i64 y]] w fun e w' => e = .returned (.bool (fdue i f t c p d u)) ∧ Kpt w w' := by
  cases Y0 : btw 0 3652058 d with
  | false => rw [show fdue i f t c p d u = false by unfold fdue; rw [Y0]; simp]; exact isDue_0 i f t c p d u x b y Y0 w
  | true =>
    cases Y1 : btw 1 1099511627776 i with
    | false => rw [show fdue i f t c p d u = false by unfold fdue; rw [Y0, Y1]; simp]; exact isDue_1 i f t c p d u x b y Y0 Y1 w
    | true =>
      cases Y2 : (btw 0 30 f && btw 0 30 t) with
      | false => rw [show fdue i f t c p d u = false by unfold fdue; rw [Y0, Y1, Y2]; simp]; exact isDue_2 i f t c p d u x b y Y0 Y1 Y2 w
      | true =>
        cases Y3 : btw 0 5 c with
        | false => rw [show fdue i f t c p d u = false by unfold fdue; rw [Y0, Y1, Y2, Y3]; simp]; exact isDue_3 i f t c p d u x b y Y0 Y1 Y2 Y3 w
        | true =>
          cases Y4 : btw 1 20 p with
          | false => rw [show fdue i f t c p d u = false by unfold fdue; rw [Y0, Y1, Y2, Y3, Y4]; simp]; exact isDue_4 i f t c p d u x b y Y0 Y1 Y2 Y3 Y4 w
          | true =>
            cases Y5 : btw 1 1073741824 u with
            | false => rw [show fdue i f t c p d u = false by unfold fdue; rw [Y0, Y1, Y2, Y3, Y4, Y5]; simp]; exact isDue_5 i f t c p d u x b y Y0 Y1 Y2 Y3 Y4 Y5 w
            | true =>
              rw [show fdue i f t c p d u = true by unfold fdue; rw [Y0, Y1, Y2, Y3, Y4, Y5]; rfl]
              exact isDue_6 i f t c p d u x b y Y0 Y1 Y2 Y3 Y4 Y5 w

end Go.Proofs.Ytgccipmeiceonaa
