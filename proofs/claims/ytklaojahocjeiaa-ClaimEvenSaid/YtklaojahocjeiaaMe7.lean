/-
  Merged: ClmP, ClmQ, FailG, QuietK, LawClE, LawClF.
-/
import Derived.Test.YtklaojahocjeiaaMe3
import Derived.Test.YtklaojahocjeiaaBookMath
import Derived.Test.YtklaojahocjeiaaMe5
import Derived.Test.YtklaojahocjeiaaKept
import Derived.Deep.QuietTactic
import Derived.BigQuiet
import Derived.Test.YtklaojahocjeiaaBookC
import Derived.Test.YtklaojahocjeiaaMe6
import Derived.Deep.Cut
-- ClmP
namespace Go.Proofs.Ytklaojahocjeiaa
open Go.RowKit
set_option linter.unusedVariables false

theorem fl_sum {c D : Int} (hD : 0 < D) (us : List Int) : (us.map fun u => u * c / D).sum ≤ us.sum * c / D ∧ us.sum * c / D ≤ (us.map fun u => u * c / D).sum + us.length := by
  induction us with
  | nil => simp
  | cons u l ih =>
    simp only [List.map_cons, List.sum_cons, List.length_cons]
    have e : (u + l.sum) * c = u * c + l.sum * c := Int.add_mul _ _ _
    rw [e]
    generalize u * c = x at *
    generalize l.sum * c = y at *
    have h1 := Int.mul_ediv_add_emod x D
    have h2 := Int.mul_ediv_add_emod y D
    have h3 := Int.mul_ediv_add_emod (x + y) D
    have r1 := Int.emod_nonneg x (by omega : D ≠ 0)
    have r2 := Int.emod_nonneg y (by omega : D ≠ 0)
    have r3 := Int.emod_nonneg (x + y) (by omega : D ≠ 0)
    have s1 := Int.emod_lt_of_pos x hD
    have s2 := Int.emod_lt_of_pos y hD
    have s3 := Int.emod_lt_of_pos (x + y) hD
    have lo : x / D + y / D ≤ (x + y) / D := by
      have : (x / D + y / D) * D ≤ x + y := by rw [Int.add_mul, Int.mul_comm (x / D), Int.mul_comm (y / D)]; omega
      exact (Int.le_ediv_iff_mul_le hD).2 this
    have hi : (x + y) / D ≤ x / D + y / D + 1 := by
      have : (x + y) / D < x / D + y / D + 2 := by
        apply Int.ediv_lt_of_lt_mul hD
        have : (x / D + y / D + 2) * D = D * (x / D) + D * (y / D) + 2 * D := by rw [Int.add_mul, Int.add_mul, Int.mul_comm (x / D), Int.mul_comm (y / D)]
        omega
      omega
    push_cast
    omega
/-- what is open of the fails with an index of xs -/
def opnX (fs : List (List Int)) (xs : List (Fin fs.length)) : List Int := xs.map fun x => openL (fs.getD x.1 [])
theorem dues_sum {C : Int} {fs : List (List Int)} (hC : 0 ≤ C) (h0 : ∀ l ∈ fs, 0 ≤ openL l) (xs : List (Fin fs.length)) : ((duesOf C fs xs).map fun d => d.2.2).sum = ((opnX fs xs).map fun u => u * C / 10000).sum := by
  induction xs with
  | nil => rfl
  | cons x l ih =>
    have hx : 0 ≤ openL (fs.getD x.1 []) := h0 _ (by rw [List.getD_eq_getElem?_getD, List.getElem?_eq_getElem x.2]; simp)
    have hn : 0 ≤ hoC C (openL (fs.getD x.1 [])) := Int.ediv_nonneg (Int.mul_nonneg hx hC) (by decide)
    unfold duesOf opnX at ih ⊢
    rw [List.flatMap_cons, List.map_append, List.sum_append, ih, List.map_cons, List.map_cons, List.sum_cons]
    congr 1
    show ((dueL C (fs.getD x.1 [])).map fun d => d.2.2).sum = hoC C (openL (fs.getD x.1 []))
    unfold dueL
    generalize hoC C (openL (fs.getD x.1 [])) = q at *
    split
    · simp
    · simp; omega
theorem psts_sum {P G O : Int} {fs : List (List Int)} (hG : 0 ≤ G) (hO : 0 ≤ O) (h0 : ∀ l ∈ fs, 0 ≤ openL l) (xs : List (Fin fs.length)) : ((pstsOf P G O fs xs).map fun d => max d.2.2 0).sum = ((opnX fs xs).map fun u => hoN G O u).sum := by
  induction xs with
  | nil => rfl
  | cons x l ih =>
    have hx : 0 ≤ openL (fs.getD x.1 []) := h0 _ (by rw [List.getD_eq_getElem?_getD, List.getElem?_eq_getElem x.2]; simp)
    have hn : 0 ≤ hoN G O (openL (fs.getD x.1 [])) := by
      unfold hoN
      split
      · exact Int.le_refl _
      · exact Int.ediv_nonneg (Int.mul_nonneg hx hG) hO
    unfold pstsOf opnX at ih ⊢
    rw [List.flatMap_cons, List.map_append, List.sum_append, ih, List.map_cons, List.map_cons, List.sum_cons]
    congr 1
    unfold pstL
    generalize hoN G O (openL (fs.getD x.1 [])) = q at *
    split
    · simp; omega
    · simp; omega
theorem hoN_sum {G O : Int} (hO : 0 ≤ O) (us : List Int) : (us.map fun u => hoN G O u).sum ≤ hoN G O us.sum ∧ hoN G O us.sum ≤ (us.map fun u => hoN G O u).sum + us.length := by
  by_cases h : O = 0
  · subst h
    have : (us.map fun u => hoN G 0 u).sum = 0 := by
      induction us with
      | nil => rfl
      | cons u l ih => rw [List.map_cons, List.sum_cons, ih]; rfl
    rw [this, show hoN G 0 us.sum = 0 from rfl]
    omega
  · have := fl_sum (c := G) (D := O) (by omega) us
    unfold hoN
    simp only [if_neg h]
    exact this
/-- what is open of the first k fails of a paper -/
def allS (P : Int) (fs : List (List Int)) (k : Nat) : Int := ((fs.take k).map fun f => if f.getD 4 0 = P then openL f else 0).sum
theorem allS_s {P : Int} {fs : List (List Int)} {k : Nat} (h : k < fs.length) : allS P fs (k + 1) = allS P fs k + (if (fs.getD k []).getD 4 0 = P then openL (fs.getD k []) else 0) := by
  unfold allS
  have e : fs[k] = fs.getD k [] := by rw [List.getD_eq_getElem?_getD, List.getElem?_eq_getElem h]; rfl
  rw [List.take_succ_eq_append_getElem h, List.map_append, List.sum_append, List.map_singleton, List.sum_singleton, e]
theorem allS_hit {P : Int} {fs : List (List Int)} (h0 : ∀ l ∈ fs, 0 ≤ openL l) (k : Nat) (hk : k ≤ fs.length) : allS P fs k = (opnX fs (hit P fs k)).sum := by
  induction k with
  | zero => rfl
  | succ k ih =>
    have hx : 0 ≤ openL (fs.getD k []) := h0 _ (by rw [List.getD_eq_getElem?_getD, List.getElem?_eq_getElem (by omega)]; simp)
    rw [allS_s (by omega), ih (by omega), hit_s (by omega)]
    unfold opnX
    rw [List.map_append, List.sum_append]
    congr 1
    unfold hitB
    by_cases hp : (fs.getD k []).getD 4 0 = P
    · by_cases ho : 0 < openL (fs.getD k [])
      · rw [if_pos hp, if_pos (by rw [decide_eq_true hp, decide_eq_true ho]; rfl)]; simp only [List.map_cons, List.map_nil, List.sum_cons, List.sum_nil]; omega
      · rw [if_pos hp, if_neg (by rw [decide_eq_true hp, decide_eq_false ho]; decide)]; simp only [List.map_nil, List.sum_nil]; omega
    · rw [if_neg hp, if_neg (by rw [decide_eq_false hp]; simp)]; rfl

end Go.Proofs.Ytklaojahocjeiaa

-- ClmQ
namespace Go.Proofs.Ytklaojahocjeiaa
open Go.RowKit
set_option linter.unusedVariables false

/-- a posting of claims -/
theorem pstL_pt {P G O : Int} {l : List Int} (hP : 1 ≤ P ∧ P ≤ 20) (hf : 0 ≤ l.getD 1 0 ∧ l.getD 1 0 ≤ 100) (ht : 0 ≤ l.getD 2 0 ∧ l.getD 2 0 ≤ 100) (hq : hoN G O (openL l) ≤ 1152921504606846976) : ∀ p ∈ pstL P G O l, ptB p = true := by
  intro p hp
  unfold pstL at hp
  generalize hoN G O (openL l) = q at *
  split at hp
  · rcases List.mem_cons.1 hp with rfl | hp
    · exact pt_mk ⟨hf.1, hf.2, by simp; omega, by simp; omega, by simp; omega, by simp; omega, by simp; omega⟩
    · rcases List.mem_cons.1 hp with rfl | hp
      · exact pt_mk ⟨ht.1, ht.2, by simp; omega, by simp; omega, by simp; omega, by simp; omega, by simp; omega⟩
      · cases hp
  · cases hp
theorem pstL_ev (P G O : Int) (l : List Int) (u : Nat) : unitS (pstL P G O l) u = 0 := by
  unfold pstL
  split
  · simp only [unitS]; split <;> omega
  · rfl
theorem psts_ev (P G O : Int) (fs : List (List Int)) (xs : List (Fin fs.length)) (u : Nat) : unitS (pstsOf P G O fs xs) u = 0 := by
  induction xs with
  | nil => rfl
  | cons x l ih =>
    unfold pstsOf at ih ⊢
    rw [List.flatMap_cons, unitS_append, ih, pstL_ev]; rfl
theorem psts_chk {P G O : Int} {fs : List (List Int)} (hP : 1 ≤ P ∧ P ≤ 20) (h : ∀ l ∈ fs, (0 ≤ l.getD 1 0 ∧ l.getD 1 0 ≤ 100) ∧ (0 ≤ l.getD 2 0 ∧ l.getD 2 0 ≤ 100) ∧ hoN G O (openL l) ≤ 1152921504606846976) (xs : List (Fin fs.length)) :
    chkE (pstsOf P G O fs xs) = if pstsOf P G O fs xs = [] then 1 else if 60 < (pstsOf P G O fs xs).length then 2 else 0 := by
  by_cases h0 : pstsOf P G O fs xs = []
  · rw [if_pos h0, h0]; rfl
  · rw [if_neg h0]
    by_cases h6 : 60 < (pstsOf P G O fs xs).length
    · rw [if_pos h6]; unfold chkE; rw [if_neg h0, if_pos h6]
    · rw [if_neg h6]
      refine chk_mk (List.length_pos_iff.2 h0) (by omega) (fun p hp => ?_) (evn_mk fun u _ => psts_ev P G O fs xs u)
      unfold pstsOf at hp
      obtain ⟨x, hx, hp⟩ := List.mem_flatMap.1 hp
      have hm : fs.getD x.1 [] ∈ fs := by rw [List.getD_eq_getElem?_getD, List.getElem?_eq_getElem x.2]; simp
      obtain ⟨h1, h2, h3⟩ := h _ hm
      exact pstL_pt hP h1 h2 h3 p hp

end Go.Proofs.Ytklaojahocjeiaa

-- FailG
namespace Go.Proofs.Ytklaojahocjeiaa
open Go.RowKit Go.Maps
set_option linter.unusedVariables false

theorem readsF_made {w : World} {cs : Array Value} {fs : List (List Int)} (hm : fs.length ≤ maxLen) (hb : ∀ l ∈ fs, FlB l) (h : ∀ k, k < fs.length → ∀ j, j < 10 → cs[k * 10 + j]? = some (.int .i64 ((fs.getD k []).getD j 0))) (cap : Nat) :
    ReadsF (w.alloc (.cells cs 49)) (.slice (some ⟨w.heap.size, 0, none⟩) fs.length cap) fs :=
  ⟨_, cap, rfl, hm, hb, fun k hk => ⟨_, _, rfl, fun j hj => by
    rw [Nat.zero_add, cell_of_row _ _ _ cs _ (0, 0) (heap_alloc_new w _)]
    exact h k hk j hj⟩⟩
theorem b0 : FlB [7, 1, 2, 0, 3, 739935, 100, 0, 0, 0] := by unfold FlB; decide
theorem b1 : FlB [7, 1, 2, 0, 3, 739935, 100, 30, 0, 0] := by unfold FlB; decide
theorem b2 : FlB [7, 1, 2, 0, 3, 739935, 100, 30, 50, 0] := by unfold FlB; decide
theorem fb_1 (w : World) : Calls Try.prog 46 #[.agg #[.int .i64 7, .int .i64 1, .int .i64 2, .int .i64 0, .int .i64 3, .int .i64 739935, .int .i64 100, .int .i64 0, .int .i64 0, .int .i64 0], .int .i64 30] w fun e w' => e = .returned (.tuple #[.agg #[.int .i64 7, .int .i64 1, .int .i64 2, .int .i64 0, .int .i64 3, .int .i64 739935, .int .i64 100, .int .i64 30, .int .i64 0, .int .i64 0], .int .i64 0]) ∧ Kpt w w' :=
  deliver_ok 7 1 2 0 3 739935 100 0 0 0 30 w (by decide) (by decide) (by decide) (by decide) (by decide)
theorem fb_2 (w : World) : Calls Try.prog 47 #[.agg #[.int .i64 7, .int .i64 1, .int .i64 2, .int .i64 0, .int .i64 3, .int .i64 739935, .int .i64 100, .int .i64 30, .int .i64 0, .int .i64 0], .int .i64 50] w fun e w' => e = .returned (.tuple #[.agg #[.int .i64 7, .int .i64 1, .int .i64 2, .int .i64 0, .int .i64 3, .int .i64 739935, .int .i64 100, .int .i64 30, .int .i64 50, .int .i64 0], .int .i64 0]) ∧ Kpt w w' :=
  buy_ok 7 1 2 0 3 739935 100 30 0 0 50 w (by decide) (by decide) (by decide) (by decide) (by decide)
theorem fb_3 (w : World) : Calls Try.prog 48 #[.agg #[.int .i64 7, .int .i64 1, .int .i64 2, .int .i64 0, .int .i64 3, .int .i64 739935, .int .i64 100, .int .i64 30, .int .i64 50, .int .i64 0]] w fun e w' => e = .returned (.tuple #[.agg #[.int .i64 7, .int .i64 1, .int .i64 2, .int .i64 0, .int .i64 3, .int .i64 739935, .int .i64 100, .int .i64 30, .int .i64 50, .int .i64 20], .int .i64 20, .int .i64 0]) ∧ Kpt w w' :=
  pay_ok 7 1 2 0 3 739935 100 30 50 0 w 20 (by decide) (by decide) (by decide) (by decide) (by decide) (by decide) (by decide)
theorem fb_4 (w : World) : Calls Try.prog 26 #[.agg #[.int .i64 7, .int .i64 1, .int .i64 2, .int .i64 0, .int .i64 3, .int .i64 739935, .int .i64 100, .int .i64 30, .int .i64 50, .int .i64 0]] w fun e w' => e = .returned (.tuple #[.int .i64 20, .int .i64 0]) ∧ Kpt w w' := by
  have := fopenX_run 7 1 2 0 3 739935 100 30 50 0 w
  rwa [show openV 7 1 2 0 3 739935 100 30 50 0 = 20 by decide, show failE 7 1 2 0 3 739935 100 30 50 0 = 0 by decide] at this
theorem fb_5 (w : World) (H : Nat) (hH : w.heap.size = H) : Calls Try.prog 49 #[.slice (some ⟨H, 0, none⟩) 1 1, .int .i64 7] (w.alloc (.cells #[.int .i64 7, .int .i64 1, .int .i64 2, .int .i64 0, .int .i64 3, .int .i64 739935, .int .i64 100, .int .i64 0, .int .i64 0, .int .i64 0] 49)) fun e w' => e = .returned (.tuple #[.int .i64 0, .int .i64 0]) ∧ Kpt (w.alloc (.cells #[.int .i64 7, .int .i64 1, .int .i64 2, .int .i64 0, .int .i64 3, .int .i64 739935, .int .i64 100, .int .i64 0, .int .i64 0, .int .i64 0] 49)) w' := by
  subst hH
  have hr := readsF_made (w := w) (cs := #[.int .i64 7, .int .i64 1, .int .i64 2, .int .i64 0, .int .i64 3, .int .i64 739935, .int .i64 100, .int .i64 0, .int .i64 0, .int .i64 0]) (fs := [[7, 1, 2, 0, 3, 739935, 100, 0, 0, 0]]) (by unfold maxLen; decide) (by intro l hl; rw [List.mem_singleton.1 hl]; exact b0) (by
    intro k hk j hj
    have : k = 0 := by simp at hk; exact hk
    subst this
    rcases (show j = 0 ∨ j = 1 ∨ j = 2 ∨ j = 3 ∨ j = 4 ∨ j = 5 ∨ j = 6 ∨ j = 7 ∨ j = 8 ∨ j = 9 by omega) with rfl | rfl | rfl | rfl | rfl | rfl | rfl | rfl | rfl | rfl <;> rfl) 1
  have := (find_run _ _ 7 _ hr).2.2 (by decide +kernel) (by decide +kernel)
  rwa [show idxF 7 [[7, 1, 2, 0, 3, 739935, 100, 0, 0, 0]] 0 = 0 by decide +kernel] at this
theorem fb_6 (w : World) : Calls Try.prog 46 #[.agg #[.int .i64 7, .int .i64 1, .int .i64 2, .int .i64 0, .int .i64 3, .int .i64 739935, .int .i64 100, .int .i64 30, .int .i64 50, .int .i64 0], .int .i64 21] w fun e w' => e = .returned (.tuple #[.agg #[.int .i64 0, .int .i64 0, .int .i64 0, .int .i64 0, .int .i64 0, .int .i64 0, .int .i64 0, .int .i64 0, .int .i64 0, .int .i64 0], .int .i64 8]) ∧ Kpt w w' :=
  deliver_bad 7 1 2 0 3 739935 100 30 50 0 21 8 w (by decide) (by decide)
theorem fb_7 (w : World) : Calls Try.prog 46 #[.agg #[.int .i64 7, .int .i64 1, .int .i64 2, .int .i64 0, .int .i64 3, .int .i64 739935, .int .i64 100, .int .i64 30, .int .i64 50, .int .i64 20], .int .i64 1] w fun e w' => e = .returned (.tuple #[.agg #[.int .i64 0, .int .i64 0, .int .i64 0, .int .i64 0, .int .i64 0, .int .i64 0, .int .i64 0, .int .i64 0, .int .i64 0, .int .i64 0], .int .i64 5]) ∧ Kpt w w' :=
  deliver_bad 7 1 2 0 3 739935 100 30 50 20 1 5 w (by decide) (by decide)
theorem fb_8 (w : World) : Calls Try.prog 50 #[.agg #[.int .i64 0, .int .i64 0, .int .i64 0, .int .i64 0, .int .i64 0, .int .i64 0, .int .i64 0, .int .i64 0, .int .i64 0, .int .i64 0]] w fun e w' => e = .returned (.int .i64 3) ∧ Kpt w w' := by
  have := fcheck_run 0 0 0 0 0 0 0 0 0 0 w
  rwa [show failE 0 0 0 0 0 0 0 0 0 0 = 3 by decide] at this
theorem fb_9 (w : World) (H : Nat) (hH : w.heap.size = H) : Calls Try.prog 27 #[.slice (some ⟨H, 0, none⟩) 2 2] (w.alloc (.cells #[.int .i64 7, .int .i64 1, .int .i64 2, .int .i64 0, .int .i64 3, .int .i64 739935, .int .i64 100, .int .i64 30, .int .i64 0, .int .i64 0, .int .i64 7, .int .i64 1, .int .i64 2, .int .i64 0, .int .i64 3, .int .i64 739935, .int .i64 100, .int .i64 30, .int .i64 50, .int .i64 0] 49)) fun e w' => e = .returned (.int .i64 6) ∧ Kpt (w.alloc (.cells #[.int .i64 7, .int .i64 1, .int .i64 2, .int .i64 0, .int .i64 3, .int .i64 739935, .int .i64 100, .int .i64 30, .int .i64 0, .int .i64 0, .int .i64 7, .int .i64 1, .int .i64 2, .int .i64 0, .int .i64 3, .int .i64 739935, .int .i64 100, .int .i64 30, .int .i64 50, .int .i64 0] 49)) w' := by
  subst hH
  have hr := readsF_made (w := w) (cs := #[.int .i64 7, .int .i64 1, .int .i64 2, .int .i64 0, .int .i64 3, .int .i64 739935, .int .i64 100, .int .i64 30, .int .i64 0, .int .i64 0, .int .i64 7, .int .i64 1, .int .i64 2, .int .i64 0, .int .i64 3, .int .i64 739935, .int .i64 100, .int .i64 30, .int .i64 50, .int .i64 0]) (fs := [[7, 1, 2, 0, 3, 739935, 100, 30, 0, 0], [7, 1, 2, 0, 3, 739935, 100, 30, 50, 0]]) (by unfold maxLen; decide) (by
    intro l hl
    simp only [List.mem_cons, List.not_mem_nil, or_false] at hl
    rcases hl with rfl | rfl
    · exact b1
    · exact b2) (by
    intro k hk j hj
    rcases (show k = 0 ∨ k = 1 by simp at hk; omega) with rfl | rfl
    · rcases (show j = 0 ∨ j = 1 ∨ j = 2 ∨ j = 3 ∨ j = 4 ∨ j = 5 ∨ j = 6 ∨ j = 7 ∨ j = 8 ∨ j = 9 by omega) with rfl | rfl | rfl | rfl | rfl | rfl | rfl | rfl | rfl | rfl <;> rfl
    · rcases (show j = 0 ∨ j = 1 ∨ j = 2 ∨ j = 3 ∨ j = 4 ∨ j = 5 ∨ j = 6 ∨ j = 7 ∨ j = 8 ∨ j = 9 by omega) with rfl | rfl | rfl | rfl | rfl | rfl | rfl | rfl | rfl | rfl <;> rfl) 2
  have := checks_run _ _ _ hr
  rwa [show checksE [[7, 1, 2, 0, 3, 739935, 100, 30, 0, 0], [7, 1, 2, 0, 3, 739935, 100, 30, 50, 0]] = 6 by decide +kernel] at this

set_option maxRecDepth 100000 in
set_option maxHeartbeats 8000000 in
theorem failBegun (w : World) : Calls Try.prog 24 #[] w fun e w' => e = .returned (.bool true) ∧ Kpt w w' := by
  go_enter Try.func24, Try.ntmps24
  go_wp2_with (first
    | (go_at_call 39; (with_reducible refine (some_run _).mono ?_); rintro e w1 ⟨rfl, k1⟩; have K1 := Lib.hid (ktr (Kpt.refl w) k1); clear k1)
    | (go_at_call 46; (with_reducible refine (fb_1 _).mono ?_); rintro e w2 ⟨rfl, k1⟩; have K2 := Lib.hid (ktr K1.out k1); clear k1)
    | (refine wp_storeF rfl (.tmp 1) (.tmp 19) rfl w2.heap.size _ _ rfl rfl (Blk.made w2 #[.int .i64 0, .int .i64 0, .int .i64 0, .int .i64 0, .int .i64 0, .int .i64 0, .int .i64 0, .int .i64 0, .int .i64 0, .int .i64 0] 49) rfl rfl (by simp [Value.oneCell']) ?_; intro w3 r9 k9 o9; have K3 := Lib.hid (k9 _ _ (K2.out.alloc _) K2.out.size); have BA := Lib.hid r9; clear r9 k9 o9)
    | (refine wp_loadF rfl (.tmp 1) rfl w2.heap.size _ rfl BA.out rfl ?_)
    | (go_at_call 47; (with_reducible refine (fb_2 _).mono ?_); rintro e w4 ⟨rfl, k1⟩; have K4 := Lib.hid (ktr K3.out k1); have BA := Lib.hid (Blk.kpt BA.out k1); clear k1)
    | (refine wp_storeF rfl (.tmp 3) (.tmp 24) rfl w4.heap.size _ _ rfl rfl (Blk.made w4 #[.int .i64 0, .int .i64 0, .int .i64 0, .int .i64 0, .int .i64 0, .int .i64 0, .int .i64 0, .int .i64 0, .int .i64 0, .int .i64 0] 49) rfl rfl (by simp [Value.oneCell']) ?_; intro w5 r9 k9 o9; have K5 := Lib.hid (k9 _ _ (K4.out.alloc _) K4.out.size); have BA : Hid (Blk w5 w2.heap.size #[.int .i64 7, .int .i64 1, .int .i64 2, .int .i64 0, .int .i64 3, .int .i64 739935, .int .i64 100, .int .i64 30, .int .i64 0, .int .i64 0] 49) := Blk.block (Blk.alloc BA.out _) (o9 _ (by have := BA.out.lt; omega)); have BB := Lib.hid r9; clear r9 k9 o9)
    | (refine wp_loadF rfl (.tmp 3) rfl w4.heap.size _ rfl BB.out rfl ?_)
    | (go_at_call 48; (with_reducible refine (fb_3 _).mono ?_); rintro e w6 ⟨rfl, k1⟩; have K6 := Lib.hid (ktr K5.out k1); have BA := Lib.hid (Blk.kpt BA.out k1); have BB := Lib.hid (Blk.kpt BB.out k1); clear k1)
    | (refine wp_storeF rfl (.tmp 5) (.tmp 29) rfl w6.heap.size _ _ rfl rfl (Blk.made w6 #[.int .i64 0, .int .i64 0, .int .i64 0, .int .i64 0, .int .i64 0, .int .i64 0, .int .i64 0, .int .i64 0, .int .i64 0, .int .i64 0] 49) rfl rfl (by simp [Value.oneCell']) ?_; intro w7 r9 k9 o9; have K7 := Lib.hid (k9 _ _ (K6.out.alloc _) K6.out.size); have BA : Hid (Blk w7 w2.heap.size #[.int .i64 7, .int .i64 1, .int .i64 2, .int .i64 0, .int .i64 3, .int .i64 739935, .int .i64 100, .int .i64 30, .int .i64 0, .int .i64 0] 49) := Blk.block (Blk.alloc BA.out _) (o9 _ (by have := BA.out.lt; omega)); have BB : Hid (Blk w7 w4.heap.size #[.int .i64 7, .int .i64 1, .int .i64 2, .int .i64 0, .int .i64 3, .int .i64 739935, .int .i64 100, .int .i64 30, .int .i64 50, .int .i64 0] 49) := Blk.block (Blk.alloc BB.out _) (o9 _ (by have := BB.out.lt; omega)); have BC := Lib.hid r9; clear r9 k9 o9)
    | (refine wp_loadF rfl (.tmp 5) rfl w6.heap.size _ rfl BC.out rfl ?_)
    | (go_at_call 26; (with_reducible refine (fb_4 _).mono ?_); rintro e w8 ⟨rfl, k1⟩; have K8 := Lib.hid (ktr K7.out k1); have BA := Lib.hid (Blk.kpt BA.out k1); have BB := Lib.hid (Blk.kpt BB.out k1); have BC := Lib.hid (Blk.kpt BC.out k1); clear k1)
    | (go_at_call 39; (with_reducible refine (some_run w8).mono ?_); rintro e w9 ⟨rfl, k1⟩; have K9 := Lib.hid (ktr K8.out k1); have BA := Lib.hid (Blk.kpt BA.out k1); have BB := Lib.hid (Blk.kpt BB.out k1); have BC := Lib.hid (Blk.kpt BC.out k1); clear k1)
    | (go_at_call 49; (with_reducible refine (fb_5 w9 _ rfl).mono ?_); rintro e w10 ⟨rfl, k1⟩; have K10 := Lib.hid (ktr (K9.out.alloc _) k1); have BA := Lib.hid (Blk.kpt (Blk.alloc BA.out _) k1); have BB := Lib.hid (Blk.kpt (Blk.alloc BB.out _) k1); have BC := Lib.hid (Blk.kpt (Blk.alloc BC.out _) k1); clear k1)
    | (go_at_call 46; (with_reducible refine (fb_6 _).mono ?_); rintro e w11 ⟨rfl, k1⟩; have K11 := Lib.hid (ktr K10.out k1); have BA := Lib.hid (Blk.kpt BA.out k1); have BB := Lib.hid (Blk.kpt BB.out k1); have BC := Lib.hid (Blk.kpt BC.out k1); clear k1)
    | (refine wp_storeF rfl (.tmp 12) (.tmp 46) rfl w11.heap.size _ _ rfl rfl (Blk.made w11 #[.int .i64 0, .int .i64 0, .int .i64 0, .int .i64 0, .int .i64 0, .int .i64 0, .int .i64 0, .int .i64 0, .int .i64 0, .int .i64 0] 49) rfl rfl (by simp [Value.oneCell']) ?_; intro w12 r9 k9 o9; have K12 := Lib.hid (k9 _ _ (K11.out.alloc _) K11.out.size); have BA : Hid (Blk w12 w2.heap.size #[.int .i64 7, .int .i64 1, .int .i64 2, .int .i64 0, .int .i64 3, .int .i64 739935, .int .i64 100, .int .i64 30, .int .i64 0, .int .i64 0] 49) := Blk.block (Blk.alloc BA.out _) (o9 _ (by have := BA.out.lt; omega)); have BB : Hid (Blk w12 w4.heap.size #[.int .i64 7, .int .i64 1, .int .i64 2, .int .i64 0, .int .i64 3, .int .i64 739935, .int .i64 100, .int .i64 30, .int .i64 50, .int .i64 0] 49) := Blk.block (Blk.alloc BB.out _) (o9 _ (by have := BB.out.lt; omega)); have BC : Hid (Blk w12 w6.heap.size #[.int .i64 7, .int .i64 1, .int .i64 2, .int .i64 0, .int .i64 3, .int .i64 739935, .int .i64 100, .int .i64 30, .int .i64 50, .int .i64 20] 49) := Blk.block (Blk.alloc BC.out _) (o9 _ (by have := BC.out.lt; omega)); clear r9 k9 o9)
    | (go_at_call 46; (with_reducible refine (fb_7 _).mono ?_); rintro e w13 ⟨rfl, k1⟩; have K13 := Lib.hid (ktr K12.out k1); have BA := Lib.hid (Blk.kpt BA.out k1); have BB := Lib.hid (Blk.kpt BB.out k1); have BC := Lib.hid (Blk.kpt BC.out k1); clear k1)
    | (refine wp_storeF rfl (.tmp 14) (.tmp 51) rfl w13.heap.size _ _ rfl rfl (Blk.made w13 #[.int .i64 0, .int .i64 0, .int .i64 0, .int .i64 0, .int .i64 0, .int .i64 0, .int .i64 0, .int .i64 0, .int .i64 0, .int .i64 0] 49) rfl rfl (by simp [Value.oneCell']) ?_; intro w14 r9 k9 o9; have K14 := Lib.hid (k9 _ _ (K13.out.alloc _) K13.out.size); have BA : Hid (Blk w14 w2.heap.size #[.int .i64 7, .int .i64 1, .int .i64 2, .int .i64 0, .int .i64 3, .int .i64 739935, .int .i64 100, .int .i64 30, .int .i64 0, .int .i64 0] 49) := Blk.block (Blk.alloc BA.out _) (o9 _ (by have := BA.out.lt; omega)); have BB : Hid (Blk w14 w4.heap.size #[.int .i64 7, .int .i64 1, .int .i64 2, .int .i64 0, .int .i64 3, .int .i64 739935, .int .i64 100, .int .i64 30, .int .i64 50, .int .i64 0] 49) := Blk.block (Blk.alloc BB.out _) (o9 _ (by have := BB.out.lt; omega)); have BC : Hid (Blk w14 w6.heap.size #[.int .i64 7, .int .i64 1, .int .i64 2, .int .i64 0, .int .i64 3, .int .i64 739935, .int .i64 100, .int .i64 30, .int .i64 50, .int .i64 20] 49) := Blk.block (Blk.alloc BC.out _) (o9 _ (by have := BC.out.lt; omega)); have ca : World.cell? w14 ⟨w2.heap.size, 7, none⟩ = some (.int .i64 30) := BA.out.cell 7; have cb : World.cell? w14 ⟨w4.heap.size, 8, none⟩ = some (.int .i64 50) := BB.out.cell 8; have cc : World.cell? w14 ⟨w6.heap.size, 9, none⟩ = some (.int .i64 20) := BC.out.cell 9; clear r9 k9 o9)
    | (go_at_call 50; (with_reducible refine (fb_8 _).mono ?_); rintro e w15 ⟨rfl, k1⟩; have K15 := Lib.hid (ktr K14.out k1); have BA := Lib.hid (Blk.kpt BA.out k1); have BB := Lib.hid (Blk.kpt BB.out k1); have BC := Lib.hid (Blk.kpt BC.out k1); have x0 : World.cell? w15 ⟨w2.heap.size, 0, none⟩ = some (.int .i64 7) := BA.out.cell 0; have y0 : World.cell? w15 ⟨w4.heap.size, 0, none⟩ = some (.int .i64 7) := BB.out.cell 0; have x1 : World.cell? w15 ⟨w2.heap.size, 1, none⟩ = some (.int .i64 1) := BA.out.cell 1; have y1 : World.cell? w15 ⟨w4.heap.size, 1, none⟩ = some (.int .i64 1) := BB.out.cell 1; have x2 : World.cell? w15 ⟨w2.heap.size, 2, none⟩ = some (.int .i64 2) := BA.out.cell 2; have y2 : World.cell? w15 ⟨w4.heap.size, 2, none⟩ = some (.int .i64 2) := BB.out.cell 2; have x3 : World.cell? w15 ⟨w2.heap.size, 3, none⟩ = some (.int .i64 0) := BA.out.cell 3; have y3 : World.cell? w15 ⟨w4.heap.size, 3, none⟩ = some (.int .i64 0) := BB.out.cell 3; have x4 : World.cell? w15 ⟨w2.heap.size, 4, none⟩ = some (.int .i64 3) := BA.out.cell 4; have y4 : World.cell? w15 ⟨w4.heap.size, 4, none⟩ = some (.int .i64 3) := BB.out.cell 4; have x5 : World.cell? w15 ⟨w2.heap.size, 5, none⟩ = some (.int .i64 739935) := BA.out.cell 5; have y5 : World.cell? w15 ⟨w4.heap.size, 5, none⟩ = some (.int .i64 739935) := BB.out.cell 5; have x6 : World.cell? w15 ⟨w2.heap.size, 6, none⟩ = some (.int .i64 100) := BA.out.cell 6; have y6 : World.cell? w15 ⟨w4.heap.size, 6, none⟩ = some (.int .i64 100) := BB.out.cell 6; have x7 : World.cell? w15 ⟨w2.heap.size, 7, none⟩ = some (.int .i64 30) := BA.out.cell 7; have y7 : World.cell? w15 ⟨w4.heap.size, 7, none⟩ = some (.int .i64 30) := BB.out.cell 7; have x8 : World.cell? w15 ⟨w2.heap.size, 8, none⟩ = some (.int .i64 0) := BA.out.cell 8; have y8 : World.cell? w15 ⟨w4.heap.size, 8, none⟩ = some (.int .i64 50) := BB.out.cell 8; have x9 : World.cell? w15 ⟨w2.heap.size, 9, none⟩ = some (.int .i64 0) := BA.out.cell 9; have y9 : World.cell? w15 ⟨w4.heap.size, 9, none⟩ = some (.int .i64 0) := BB.out.cell 9; clear k1)
    | (go_at_call 27; (with_reducible refine (fb_9 w15 _ rfl).mono ?_); rintro e w16 ⟨rfl, k1⟩; have K16 := Lib.hid (ktr (K15.out.alloc _) k1); clear k1))
  go_ret
  exact ⟨rfl, K16.out⟩

end Go.Proofs.Ytklaojahocjeiaa

-- QuietK
namespace Go.Proofs.Ytklaojahocjeiaa
open Go.RowKit
set_option linter.unusedVariables false

structure KptTo (q : World) where
  w : World
  h : Kpt q w
instance (q : World) : Inhabited (KptTo q) := ⟨⟨q, Kpt.refl q⟩⟩
theorem quiet_k {P : Program} {id : Nat} {Q : Exit → Act → World → Prop} {a : Act} {q : World} {l : List Oper} (hm : P.follows .mixedOrders = true) (hB : Region.lexB .any l.toArray = true)
    (h : wpQuiet P l.toArray (fun w' => ∃ p : KptTo q, w' = p.w) (fun a' => ∀ w', (∃ p : KptTo q, w' = p.w) → Q .normal a' w') l a) : (Code.region id l.toArray true).wp P Q a q :=
  wp_region_quiet (C := fun w' => ∃ p : KptTo q, w' = p.w) hm hB ⟨⟨_, (Kpt.refl q).drewN 1⟩, rfl⟩ (by simpa using h)
theorem cell_k {q : World} {a : Addr} {v : Value} (h : q.cell? a = some v) (p : KptTo q) : p.w.cell? a = some v := p.h.cell h
theorem calls_k {P : Program} {f : FuncId} {args : Array Value} {q : World} {p : KptTo q} {v : Value} (h : Calls P f args p.w fun e w' => e = .returned v ∧ Kpt p.w w') : Calls P f args p.w fun e w'' => e = .returned v ∧ ∃ p' : KptTo q, w'' = p'.w :=
  h.mono fun _ w' ⟨he, hk⟩ => ⟨he, ⟨w', ktr p.h hk⟩, rfl⟩
theorem calls_same {P : Program} {f : FuncId} {args : Array Value} {q : World} {p : KptTo q} {v : Value} (h : Calls P f args p.w fun e w' => e = .returned v ∧ p.w = w') : Calls P f args p.w fun e w'' => e = .returned v ∧ ∃ p' : KptTo q, w'' = p'.w :=
  h.mono fun _ w' ⟨he, hk⟩ => ⟨he, p, hk.symm⟩

end Go.Proofs.Ytklaojahocjeiaa

-- LawClE
namespace Go.Proofs.Ytklaojahocjeiaa
open Go.RowKit
set_option linter.unusedVariables false

set_option maxRecDepth 100000 in
set_option maxHeartbeats 2000000 in
theorem cev_bad (P C G O : Int) (v : Value) (fs : List (List Int)) (w : World) (hr : ReadsF w v fs) (h : cwE P C G O fs ≠ 0) : Calls Try.prog 4 #[.agg #[.int .i64 P, .int .i64 C, .int .i64 G, .int .i64 O], v] w fun e w' => e = .returned (.bool true) ∧ Kpt w w' := by
  have D := Lib.hid (fun w' (k : Kpt w w') => claims_bad P C G O v fs w' (hr.kpt k) h)
  generalize cwE P C G O fs = E at h D
  have y : (E != 0) = true := bne_iff_ne.2 h
  clear h hr
  have K0 : Hid (Kpt w (w.alloc (.cells #[.int .i64 P, .int .i64 C, .int .i64 G, .int .i64 O] 23))) := (Kpt.refl w).alloc _
  have B0 : Hid (Blk (w.alloc (.cells #[.int .i64 P, .int .i64 C, .int .i64 G, .int .i64 O] 23)) w.heap.size #[.int .i64 P, .int .i64 C, .int .i64 G, .int .i64 O] 23) := Blk.made w _ _
  go_enter Try.func4, Try.ntmps4
  go_wp2_with (first
    | (go_at_call 10; (with_reducible refine (D.out _ K0.out).mono ?_); rintro e w1 ⟨rfl, k1⟩; have K0 := Lib.hid (ktr K0.out k1); have B0 := Lib.hid (B0.out.kpt k1); have x0 : World.cell? w1 ⟨w.heap.size, 0, none⟩ = some (.int .i64 P) := B0.out.cell 0; have x1 : World.cell? w1 ⟨w.heap.size, 1, none⟩ = some (.int .i64 C) := B0.out.cell 1; have x2 : World.cell? w1 ⟨w.heap.size, 2, none⟩ = some (.int .i64 G) := B0.out.cell 2; have x3 : World.cell? w1 ⟨w.heap.size, 3, none⟩ = some (.int .i64 O) := B0.out.cell 3; clear k1)
    | (go_at_call 17; (with_reducible refine (claimBegun _).mono ?_); rintro e w2 ⟨rfl, k1⟩; have K0 := Lib.hid (ktr K0.out k1); have B0 := Lib.hid (B0.out.kpt k1); have x0 : World.cell? w2 ⟨w.heap.size, 0, none⟩ = some (.int .i64 P) := B0.out.cell 0; have x1 : World.cell? w2 ⟨w.heap.size, 1, none⟩ = some (.int .i64 C) := B0.out.cell 1; have x2 : World.cell? w2 ⟨w.heap.size, 2, none⟩ = some (.int .i64 G) := B0.out.cell 2; have x3 : World.cell? w2 ⟨w.heap.size, 3, none⟩ = some (.int .i64 O) := B0.out.cell 3; clear k1)
    | (go_at_call 23; (with_reducible refine (bookBegun _).mono ?_); rintro e w3 ⟨rfl, k1⟩; have K0 := Lib.hid (ktr K0.out k1); have B0 := Lib.hid (B0.out.kpt k1); have x0 : World.cell? w3 ⟨w.heap.size, 0, none⟩ = some (.int .i64 P) := B0.out.cell 0; have x1 : World.cell? w3 ⟨w.heap.size, 1, none⟩ = some (.int .i64 C) := B0.out.cell 1; have x2 : World.cell? w3 ⟨w.heap.size, 2, none⟩ = some (.int .i64 G) := B0.out.cell 2; have x3 : World.cell? w3 ⟨w.heap.size, 3, none⟩ = some (.int .i64 O) := B0.out.cell 3; clear k1)
    | (go_at_call 24; (with_reducible refine (failBegun _).mono ?_); rintro e w4 ⟨rfl, k1⟩; have K0 := Lib.hid (ktr K0.out k1); have B0 := Lib.hid (B0.out.kpt k1); have x0 : World.cell? w4 ⟨w.heap.size, 0, none⟩ = some (.int .i64 P) := B0.out.cell 0; have x1 : World.cell? w4 ⟨w.heap.size, 1, none⟩ = some (.int .i64 C) := B0.out.cell 1; have x2 : World.cell? w4 ⟨w.heap.size, 2, none⟩ = some (.int .i64 G) := B0.out.cell 2; have x3 : World.cell? w4 ⟨w.heap.size, 3, none⟩ = some (.int .i64 O) := B0.out.cell 3; clear k1))
  go_ret
  exact ⟨rfl, K0.out⟩
theorem blkK2 {w w' : World} {g : Nat} {cs : Array Value} {T : TypeId} (h : Blk w g cs T) (k : Kpt w w') : Blk w' g cs T := Blk.below h k (Blk.lt h)
theorem opL_bd (l : List Int) : 0 ≤ openL l ∧ openL l ≤ 1073741824 := openV_bd _ _ _ _ _ _ _ _ _ _
theorem allS_bd (P : Int) (fs : List (List Int)) (k : Nat) (hk : k ≤ fs.length) : 0 ≤ allS P fs k ∧ allS P fs k ≤ 1073741824 * k := by
  induction k with
  | zero => exact ⟨by simp [allS], by simp [allS]⟩
  | succ k ih =>
    have h := ih (by omega)
    have b := openV_bd ((fs.getD k []).getD 0 0) ((fs.getD k []).getD 1 0) ((fs.getD k []).getD 2 0) ((fs.getD k []).getD 3 0) ((fs.getD k []).getD 4 0) ((fs.getD k []).getD 5 0) ((fs.getD k []).getD 6 0) ((fs.getD k []).getD 7 0) ((fs.getD k []).getD 8 0) ((fs.getD k []).getD 9 0)
    have e : openL (fs.getD k []) = openV ((fs.getD k []).getD 0 0) ((fs.getD k []).getD 1 0) ((fs.getD k []).getD 2 0) ((fs.getD k []).getD 3 0) ((fs.getD k []).getD 4 0) ((fs.getD k []).getD 5 0) ((fs.getD k []).getD 6 0) ((fs.getD k []).getD 7 0) ((fs.getD k []).getD 8 0) ((fs.getD k []).getD 9 0) := rfl
    rw [allS_s (by omega)]
    split <;> omega
def sumA (ds : List (Int × Int × Int)) (k : Nat) : Int := ((ds.take k).map fun d => d.2.2).sum
def sumM (ps : List (Int × Int × Int)) (k : Nat) : Int := ((ps.take k).map fun d => max d.2.2 0).sum
theorem sumA_s {ds : List (Int × Int × Int)} {k : Nat} (h : k < ds.length) : sumA ds (k + 1) = sumA ds k + (ds.getD k default).2.2 := by
  unfold sumA
  have e : ds[k] = ds.getD k default := by rw [List.getD_eq_getElem?_getD, List.getElem?_eq_getElem h]; rfl
  rw [List.take_succ_eq_append_getElem h, List.map_append, List.sum_append, List.map_singleton, List.sum_singleton, e]
theorem sumM_s {ps : List (Int × Int × Int)} {k : Nat} (h : k < ps.length) : sumM ps (k + 1) = sumM ps k + max (ps.getD k default).2.2 0 := by
  unfold sumM
  have e : ps[k] = ps.getD k default := by rw [List.getD_eq_getElem?_getD, List.getElem?_eq_getElem h]; rfl
  rw [List.take_succ_eq_append_getElem h, List.map_append, List.sum_append, List.map_singleton, List.sum_singleton, e]
theorem sumA_bd {ds : List (Int × Int × Int)} (h : ∀ p ∈ ds, 0 ≤ p.2.2 ∧ p.2.2 ≤ 150000000000000000) (k : Nat) (hk : k ≤ ds.length) : 0 ≤ sumA ds k ∧ sumA ds k ≤ 150000000000000000 * k := by
  induction k with
  | zero => exact ⟨by simp [sumA], by simp [sumA]⟩
  | succ k ih =>
    have h1 := ih (by omega)
    have h2 := h _ (getP_mem (show k < ds.length by omega))
    rw [sumA_s (by omega)]
    omega
theorem sumM_bd {ps : List (Int × Int × Int)} (h : ∀ p ∈ ps, p.2.2 ≤ 2000000000000) (k : Nat) (hk : k ≤ ps.length) : 0 ≤ sumM ps k ∧ sumM ps k ≤ 2000000000000 * k := by
  induction k with
  | zero => exact ⟨by simp [sumM], by simp [sumM]⟩
  | succ k ih =>
    have h1 := ih (by omega)
    have h2 := h _ (getP_mem (show k < ps.length by omega))
    rw [sumM_s (by omega)]
    omega
/-- what Claims answers, by how it reads -/
def CevD (P C G O : Int) (v : Value) (ds ps : List (Int × Int × Int)) (w : World) : Prop := Calls Try.prog 10 #[.agg #[.int .i64 P, .int .i64 C, .int .i64 G, .int .i64 O], v] w fun e w' => ∃ a1 c1 a2 c2, e = .returned (.tuple #[.slice a1 ds.length c1, .slice a2 ps.length c2, .int .i64 0]) ∧ ReadsP w' (.slice a1 ds.length c1) ds ∧ ReadsP w' (.slice a2 ps.length c2) ps ∧ Kpt w w'
theorem CevD.run {P C G O : Int} {v : Value} {ds ps : List (Int × Int × Int)} {w : World} (h : CevD P C G O v ds ps w) : Calls Try.prog 10 #[.agg #[.int .i64 P, .int .i64 C, .int .i64 G, .int .i64 O], v] w fun e w' => ∃ a1 c1 a2 c2, e = .returned (.tuple #[.slice a1 ds.length c1, .slice a2 ps.length c2, .int .i64 0]) ∧ ReadsP w' (.slice a1 ds.length c1) ds ∧ ReadsP w' (.slice a2 ps.length c2) ps ∧ Kpt w w' := h
set_option maxRecDepth 100000 in
set_option maxHeartbeats 4000000 in
theorem cev_ok (P C G O F : Int) (a : Option Addr) (cap : Nat) (fs : List (List Int)) (ds ps : List (Int × Int × Int)) (w : World) (hr : ReadsF w (.slice a fs.length cap) fs) (hl : fs.length ≤ 60) (hfs : ∀ l ∈ fs, failEL l = 0)
    (hD : ∀ w', Kpt w w' → CevD P C G O (.slice a fs.length cap) ds ps w') (hF : chkE ps = F) (hF2 : F = 0 ∨ (F = 1 ∧ ps.length = 0) ∨ F = 2) (hds : ds.length ≤ 60 ∧ ∀ p ∈ ds, 0 ≤ p.2.2 ∧ p.2.2 ≤ 150000000000000000) (hps : ps.length ≤ 120 ∧ ∀ p ∈ ps, p.2.2 ≤ 2000000000000)
    (hev : evE P C G O = 0) (hS : 0 ≤ allS P fs fs.length ∧ (allS P fs fs.length ≤ 1073741824 → (sumA ds ds.length ≤ hoC C (allS P fs fs.length) ∧ hoC C (allS P fs fs.length) ≤ sumA ds ds.length + fs.length) ∧ sumM ps ps.length ≤ hoN G O (allS P fs fs.length) ∧ hoN G O (allS P fs fs.length) ≤ sumM ps ps.length + fs.length)) : Calls Try.prog 4 #[.agg #[.int .i64 P, .int .i64 C, .int .i64 G, .int .i64 O], .slice a fs.length cap] w fun e w' => e = .returned (.bool true) ∧ Kpt w w' := by
  have D := Lib.hid hD
  have HR := Lib.hid hr
  have BC := Lib.hid (fun v w' (h : ReadsP w' v ps) => bookCheck_any v ps w' h)
  rw [hF] at BC
  have FS := Lib.hid hfs
  have HS := Lib.hid hS
  clear hS
  clear hr hD hfs hF
  have K0 : Hid (Kpt w (w.alloc (.cells #[.int .i64 P, .int .i64 C, .int .i64 G, .int .i64 O] 23))) := (Kpt.refl w).alloc _
  have B0 : Hid (Blk (w.alloc (.cells #[.int .i64 P, .int .i64 C, .int .i64 G, .int .i64 O] 23)) w.heap.size #[.int .i64 P, .int .i64 C, .int .i64 G, .int .i64 O] 23) := Blk.made w _ _
  go_enter Try.func4, Try.ntmps4
  have h0 : F = 1 → decide ((0 : Int) < (ps.length : Int)) = false ∧ decide (0 < ps.length) = false := by
    intro h
    rcases hF2 with rfl | ⟨-, h0⟩ | rfl
    · cases h
    · exact ⟨decide_eq_false (by omega), decide_eq_false (by omega)⟩
    · cases h
  have h1 : F = 0 ∨ F = 1 ∨ F = 2 := by rcases hF2 with rfl | ⟨rfl, -⟩ | rfl <;> simp
  clear hF2
  rcases h1 with rfl | rfl | rfl
  case' inr.inl => obtain ⟨p0, p1⟩ := h0 rfl
  all_goals clear h0
  all_goals go_wp2_with (first
    | (go_at_call 10; (with_reducible refine ((D.out _ K0.out).run).mono ?_); rintro e w1 ⟨a1, c1, a2, c2, rfl, r1, r2, k1⟩; have RD := Lib.hid r1; have RP := Lib.hid r2; clear r1 r2; have K0 := Lib.hid (ktr K0.out k1); have B0 := Lib.hid (B0.out.kpt k1); have x0 : World.cell? w1 ⟨w.heap.size, 0, none⟩ = some (.int .i64 P) := B0.out.cell 0; have x1 : World.cell? w1 ⟨w.heap.size, 1, none⟩ = some (.int .i64 C) := B0.out.cell 1; have x2 : World.cell? w1 ⟨w.heap.size, 2, none⟩ = some (.int .i64 G) := B0.out.cell 2; have x3 : World.cell? w1 ⟨w.heap.size, 3, none⟩ = some (.int .i64 O) := B0.out.cell 3; clear k1)
    | (go_at_call 17; (with_reducible refine (claimBegun _).mono ?_); rintro e w2 ⟨rfl, k1⟩; have RD := Lib.hid (RD.out.kpt k1); have RP := Lib.hid (RP.out.kpt k1); have K0 := Lib.hid (ktr K0.out k1); have B0 := Lib.hid (B0.out.kpt k1); have x0 : World.cell? w2 ⟨w.heap.size, 0, none⟩ = some (.int .i64 P) := B0.out.cell 0; have x1 : World.cell? w2 ⟨w.heap.size, 1, none⟩ = some (.int .i64 C) := B0.out.cell 1; have x2 : World.cell? w2 ⟨w.heap.size, 2, none⟩ = some (.int .i64 G) := B0.out.cell 2; have x3 : World.cell? w2 ⟨w.heap.size, 3, none⟩ = some (.int .i64 O) := B0.out.cell 3; clear k1)
    | (go_at_call 23; (with_reducible refine (bookBegun _).mono ?_); rintro e w3 ⟨rfl, k1⟩; have RD := Lib.hid (RD.out.kpt k1); have RP := Lib.hid (RP.out.kpt k1); have K0 := Lib.hid (ktr K0.out k1); have B0 := Lib.hid (B0.out.kpt k1); have x0 : World.cell? w3 ⟨w.heap.size, 0, none⟩ = some (.int .i64 P) := B0.out.cell 0; have x1 : World.cell? w3 ⟨w.heap.size, 1, none⟩ = some (.int .i64 C) := B0.out.cell 1; have x2 : World.cell? w3 ⟨w.heap.size, 2, none⟩ = some (.int .i64 G) := B0.out.cell 2; have x3 : World.cell? w3 ⟨w.heap.size, 3, none⟩ = some (.int .i64 O) := B0.out.cell 3; clear k1)
    | (go_at_call 24; (with_reducible refine (failBegun _).mono ?_); rintro e w4 ⟨rfl, k1⟩; have RD := Lib.hid (RD.out.kpt k1); have RP := Lib.hid (RP.out.kpt k1); have K0 := Lib.hid (ktr K0.out k1); have B0 := Lib.hid (B0.out.kpt k1); have x0 : World.cell? w4 ⟨w.heap.size, 0, none⟩ = some (.int .i64 P) := B0.out.cell 0; have x1 : World.cell? w4 ⟨w.heap.size, 1, none⟩ = some (.int .i64 C) := B0.out.cell 1; have x2 : World.cell? w4 ⟨w.heap.size, 2, none⟩ = some (.int .i64 G) := B0.out.cell 2; have x3 : World.cell? w4 ⟨w.heap.size, 3, none⟩ = some (.int .i64 O) := B0.out.cell 3; clear k1)
    | (go_at_call 25; (with_reducible refine (BC.out _ _ RP.out).mono ?_); rintro e w5 ⟨rfl, g1⟩; have k1 := g1.below; clear g1; have RD := Lib.hid (RD.out.kpt k1); have RP := Lib.hid (RP.out.kpt k1); have K0 := Lib.hid (ktr K0.out k1); have B0 := Lib.hid (B0.out.kpt k1); have x0 : World.cell? w5 ⟨w.heap.size, 0, none⟩ = some (.int .i64 P) := B0.out.cell 0; have x1 : World.cell? w5 ⟨w.heap.size, 1, none⟩ = some (.int .i64 C) := B0.out.cell 1; have x2 : World.cell? w5 ⟨w.heap.size, 2, none⟩ = some (.int .i64 G) := B0.out.cell 2; have x3 : World.cell? w5 ⟨w.heap.size, 3, none⟩ = some (.int .i64 O) := B0.out.cell 3; clear k1))
  all_goals (
    clear D BC
    go_loopw [9, 12] (fun sv iv wr => ∃ k : Nat, k ≤ fs.length ∧ iv = .int .i64 (k : Int) ∧ sv = .int .i64 (allS P fs k) ∧ Hid (Kpt w wr) ∧ Hid (Blk wr w.heap.size #[.int .i64 P, .int .i64 C, .int .i64 G, .int .i64 O] 23) ∧ Hid (ReadsP wr (.slice a1 ds.length c1) ds) ∧ Hid (ReadsP wr (.slice a2 ps.length c2) ps)) (fun _ iv _ => fs.length - (intOf iv).toNat)
    case atStart => exact ⟨0, Nat.zero_le _, rfl, rfl, K0.out, B0.out, RD.out, RP.out⟩
    case round =>
      obtain ⟨k, hk, rfl, rfl, HK, HB, HD, HP⟩ := hrel
      clear K0 B0 RD RP x0 x1 x2 x3
      by_cases hlt : k < fs.length
      · have bd := allS_bd P fs k hk
        have sq := Lib.hid (allS_s (P := P) hlt)
        have fz := FS.out (fs.getD k []) (by rw [List.getD_eq_getElem?_getD, List.getElem?_eq_getElem hlt]; simp)
        have ob := opL_bd (fs.getD k [])
        rcases (HR.out.kpt HK.out).cell with ⟨e0, -⟩ | ⟨-, b, off, cap', e0, hc⟩
        · rw [e0] at hlt; cases hlt
        · injection e0 with e1 e2 e3
          subst e1 e3
          have hc := hc k hlt
          unfold openL at sq ob
          unfold failEL at fz
          obtain ⟨l, hl'⟩ : ∃ l, fs.getD k [] = l := ⟨_, rfl⟩
          rw [hl'] at hc sq fz ob
          have c0 : wr.cell? ⟨b, off + k * 10, none⟩ = some (.int .i64 (l.getD 0 0)) := by simpa using hc 0 (by decide)
          have c1 := hc 1 (by decide)
          have c2 := hc 2 (by decide)
          have c3 := hc 3 (by decide)
          have c4 := hc 4 (by decide)
          have c5 := hc 5 (by decide)
          have c6 := hc 6 (by decide)
          have c7 := hc 7 (by decide)
          have c8 := hc 8 (by decide)
          have c9 := hc 9 (by decide)
          have LP := Lib.hid hl'
          clear hl' hc
          obtain ⟨l0, h⟩ : ∃ x, l.getD 0 0 = x := ⟨_, rfl⟩
          rw [h] at c0 sq fz ob; clear h
          obtain ⟨l1, h⟩ : ∃ x, l.getD 1 0 = x := ⟨_, rfl⟩
          rw [h] at c1 sq fz ob; clear h
          obtain ⟨l2, h⟩ : ∃ x, l.getD 2 0 = x := ⟨_, rfl⟩
          rw [h] at c2 sq fz ob; clear h
          obtain ⟨l3, h⟩ : ∃ x, l.getD 3 0 = x := ⟨_, rfl⟩
          rw [h] at c3 sq fz ob; clear h
          obtain ⟨l4, h⟩ : ∃ x, l.getD 4 0 = x := ⟨_, rfl⟩
          rw [h] at c4 sq fz ob; clear h
          obtain ⟨l5, h⟩ : ∃ x, l.getD 5 0 = x := ⟨_, rfl⟩
          rw [h] at c5 sq fz ob; clear h
          obtain ⟨l6, h⟩ : ∃ x, l.getD 6 0 = x := ⟨_, rfl⟩
          rw [h] at c6 sq fz ob; clear h
          obtain ⟨l7, h⟩ : ∃ x, l.getD 7 0 = x := ⟨_, rfl⟩
          rw [h] at c7 sq fz ob; clear h
          obtain ⟨l8, h⟩ : ∃ x, l.getD 8 0 = x := ⟨_, rfl⟩
          rw [h] at c8 sq fz ob; clear h
          obtain ⟨l9, h⟩ : ∃ x, l.getD 9 0 = x := ⟨_, rfl⟩
          rw [h] at c9 sq fz ob; clear h
          have OX := Lib.hid (fun w' => fopenX_run l0 l1 l2 l3 l4 l5 l6 l7 l8 l9 w')
          rw [fz] at OX
          generalize openV l0 l1 l2 l3 l4 l5 l6 l7 l8 l9 = op at *
          have n0 : (0 : Int) ≤ (k : Int) := by omega
          have n1 : (k : Int) < (fs.length : Int) := by omega
          have m1 : IntKind.i64.wrap ((k : Int) + 1) = (k : Int) + 1 := IntWalk.i64_in _ (by omega)
          have m2 : IntKind.i64.wrap (allS P fs k + op) = allS P fs k + op := IntWalk.i64_in _ (by omega)
          clear fz
          go_wp2_with (go_at_call 26; (with_reducible refine (OX.out _).mono ?_); rintro e w6 ⟨rfl, k1⟩; have K6 := Lib.hid k1; have r4 := cell_k (q := w6) (a := ⟨b, off + k * 10 + 4, none⟩) (v := .int .i64 l4) (k1.cell c4); have rp := cell_k (q := w6) (a := ⟨w.heap.size, 0, none⟩) (v := .int .i64 P) (k1.cell (HB.out.cell 0)); clear k1)
          have mixed : Try.prog.follows .mixedOrders = true := by kernel_rfl
          refine quiet_k (q := w6) mixed (by kernel_rfl) ?_
          repeat (quiet_step (fail))
          refine wpQuiet_nil ?_
          intro w8 hw1
          obtain ⟨⟨wz, kz⟩, hw2⟩ := hw1
          have hw3 : w8 = wz := hw2
          clear hw2
          subst hw3
          have K8 := Lib.hid (ktr K6.out kz)
          have R8 := Lib.hid (blkK2 HB.out K8.out)
          by_cases hp : l4 = P
          · have yp : (l4 == P) = true := beq_iff_eq.2 hp
            rw [if_pos hp] at sq
            go_wp2
            exact ⟨⟨k + 1, by omega, rfl, by rw [sq.out], ktr HK.out K8.out, R8.out, HD.out.kpt K8.out, HP.out.kpt K8.out⟩, by simp [intOf]; omega⟩
          · have yp : (l4 == P) = false := beq_eq_false_iff_ne.2 hp
            rw [if_neg hp] at sq
            go_wp2
            exact ⟨⟨k + 1, by omega, rfl, by rw [sq.out]; simp, ktr HK.out K8.out, R8.out, HD.out.kpt K8.out, HP.out.kpt K8.out⟩, by simp [intOf]; omega⟩
      · obtain rfl : k = fs.length := by omega
        have sums := HS.out
        generalize allS P fs fs.length = U at *
        go_wp2
        go_loopw [10, 15] (fun sv iv wr2 => ∃ j : Nat, j ≤ ds.length ∧ iv = .int .i64 (j : Int) ∧ sv = .int .i64 (sumA ds j) ∧ Hid (Kpt w wr2) ∧ Hid (Blk wr2 w.heap.size #[.int .i64 P, .int .i64 C, .int .i64 G, .int .i64 O] 23) ∧ Hid (ReadsP wr2 (.slice a1 ds.length c1) ds) ∧ Hid (ReadsP wr2 (.slice a2 ps.length c2) ps)) (fun _ iv _ => ds.length - (intOf iv).toNat)
        case atStart => exact ⟨0, Nat.zero_le _, rfl, rfl, HK.out, HB.out, HD.out, HP.out⟩
        case round =>
          obtain ⟨j, hj, rfl, rfl, HK, HB, HD, HP⟩ := hrel
          by_cases hlj : j < ds.length
          · have b2 := sumA_bd hds.2 j hj
            have b3 := sumA_bd hds.2 (j + 1) (by omega)
            have sq := sumA_s (ds := ds) hlj
            rcases HD.out.cell with ⟨e0, -⟩ | ⟨-, b, off, cap', e0, hc⟩
            · rw [e0] at hlj; cases hlj
            · injection e0 with e1 e2 e3
              subst e1 e3
              obtain ⟨-, -, q2⟩ := hc j hlj
              have SQ := Lib.hid sq
              rw [sq] at b3
              clear sq
              generalize (ds.getD j default).2.2 = x at *
              have n0 : (0 : Int) ≤ (j : Int) := by omega
              have n1 : (j : Int) < (ds.length : Int) := by omega
              have m1 : IntKind.i64.wrap ((j : Int) + 1) = (j : Int) + 1 := IntWalk.i64_in _ (by omega)
              have m2 : IntKind.i64.wrap (sumA ds j + x) = sumA ds j + x := IntWalk.i64_in _ (by omega)
              go_wp2
              exact ⟨⟨j + 1, by omega, rfl, by rw [SQ.out], HK.out, HB.out, HD.out, HP.out⟩, by simp [intOf]; omega⟩
          · obtain rfl : j = ds.length := by omega
            have bA := sumA_bd hds.2 ds.length (Nat.le_refl _)
            generalize sumA ds ds.length = A at *
            go_wp2
            go_loopw [11, 16] (fun sv iv wr3 => ∃ j : Nat, j ≤ ps.length ∧ iv = .int .i64 (j : Int) ∧ sv = .int .i64 (sumM ps j) ∧ Hid (Kpt w wr3) ∧ Hid (Blk wr3 w.heap.size #[.int .i64 P, .int .i64 C, .int .i64 G, .int .i64 O] 23) ∧ Hid (ReadsP wr3 (.slice a2 ps.length c2) ps)) (fun _ iv _ => ps.length - (intOf iv).toNat)
            case atStart => exact ⟨0, Nat.zero_le _, rfl, rfl, HK.out, HB.out, HP.out⟩
            case round =>
              obtain ⟨j, hj, rfl, rfl, HK, HB, HP⟩ := hrel
              by_cases hlj : j < ps.length
              · have b2 := sumM_bd hps.2 j hj
                have b3 := sumM_bd hps.2 (j + 1) (by omega)
                have sq := sumM_s (ps := ps) hlj
                rcases HP.out.cell with ⟨e0, -⟩ | ⟨-, b, off, cap', e0, hc⟩
                · rw [e0] at hlj; cases hlj
                · injection e0 with e1 e2 e3
                  subst e1 e3
                  obtain ⟨-, -, q2⟩ := hc j hlj
                  have SQ := Lib.hid sq
                  rw [sq] at b3
                  clear sq
                  generalize (ps.getD j default).2.2 = x at *
                  have n0 : (0 : Int) ≤ (j : Int) := by omega
                  have n1 : (j : Int) < (ps.length : Int) := by omega
                  have m1 : IntKind.i64.wrap ((j : Int) + 1) = (j : Int) + 1 := IntWalk.i64_in _ (by omega)
                  have m2 : IntKind.i64.wrap (sumM ps j + max x 0) = sumM ps j + max x 0 := IntWalk.i64_in _ (by omega)
                  go_wp2
                  exact ⟨⟨j + 1, by omega, rfl, by rw [SQ.out], HK.out, HB.out, HP.out⟩, by simp [intOf]; omega⟩
              · obtain rfl : j = ps.length := by omega
                have bM := sumM_bd hps.2 ps.length (Nat.le_refl _)
                generalize sumM ps ps.length = M at *
                by_cases hU : U ≤ 1073741824
                · obtain ⟨⟨f1, f2⟩, f3, f4⟩ := sums.2 hU
                  have he : hoE P C G O U = 0 := by unfold hoE; rw [if_pos hev, if_pos ⟨sums.1, hU⟩]
                  have CA := Lib.hid (fun w' => cash_any P C G O U w')
                  have FR := Lib.hid (fun w' => fresh_any P C G O U w')
                  simp only [he, if_true] at CA FR
                  generalize hoC C U = c' at *
                  generalize hoN G O U = n' at *
                  generalize hoR G O U = r' at *
                  have y1 : decide (A ≤ c') = true := decide_eq_true f1
                  have y2 : decide (c' ≤ A + (fs.length : Int)) = true := decide_eq_true f2
                  have y3 : decide (M ≤ n') = true := decide_eq_true f3
                  have y4 : decide (n' ≤ M + (fs.length : Int)) = true := decide_eq_true f4
                  have m1 : IntKind.i64.wrap (A + (fs.length : Int)) = A + (fs.length : Int) := IntWalk.i64_in _ (by omega)
                  have m2 : IntKind.i64.wrap (M + (fs.length : Int)) = M + (fs.length : Int) := IntWalk.i64_in _ (by omega)
                  have yu : decide ((1073741824 : Int) < U) = false := decide_eq_false (by omega)
                  have K0 := Lib.hid HK.out
                  have B0 := Lib.hid HB.out
                  have x0 : World.cell? _ ⟨w.heap.size, 0, none⟩ = some (.int .i64 P) := B0.out.cell 0
                  have x1 : World.cell? _ ⟨w.heap.size, 1, none⟩ = some (.int .i64 C) := B0.out.cell 1
                  have x2 : World.cell? _ ⟨w.heap.size, 2, none⟩ = some (.int .i64 G) := B0.out.cell 2
                  have x3 : World.cell? _ ⟨w.heap.size, 3, none⟩ = some (.int .i64 O) := B0.out.cell 3
                  clear he f1 f2 f3 f4 sums
                  go_wp2_with (first
                    | (go_at_call 8; (with_reducible refine (CA.out _).mono ?_); rintro e w7 ⟨rfl, k1⟩; have K0 := Lib.hid (ktr K0.out k1); have B0 := Lib.hid (B0.out.kpt k1); have x0 : World.cell? w7 ⟨w.heap.size, 0, none⟩ = some (.int .i64 P) := B0.out.cell 0; have x1 : World.cell? w7 ⟨w.heap.size, 1, none⟩ = some (.int .i64 C) := B0.out.cell 1; have x2 : World.cell? w7 ⟨w.heap.size, 2, none⟩ = some (.int .i64 G) := B0.out.cell 2; have x3 : World.cell? w7 ⟨w.heap.size, 3, none⟩ = some (.int .i64 O) := B0.out.cell 3; clear k1)
                    | (go_at_call 9; (with_reducible refine (FR.out _).mono ?_); rintro e w8 ⟨rfl, k1⟩; have K0 := Lib.hid (ktr K0.out k1); clear k1))
                  go_ret
                  exact ⟨rfl, K0.out⟩
                · have yu : decide ((1073741824 : Int) < U) = true := decide_eq_true (by omega)
                  go_wp2
                  go_ret
                  exact ⟨rfl, HK.out⟩)

end Go.Proofs.Ytklaojahocjeiaa

-- LawClF
namespace Go.Proofs.Ytklaojahocjeiaa
open Go.RowKit
set_option linter.unusedVariables false

theorem hoC_bd {C U : Int} (hC : 0 ≤ C ∧ C ≤ 1099511627776) (hU : 0 ≤ U ∧ U ≤ 1073741824) : 0 ≤ hoC C U ∧ hoC C U ≤ 150000000000000000 := by
  have h1 : U * C ≤ 1073741824 * 1099511627776 := Int.mul_le_mul hU.2 hC.2 hC.1 (by decide)
  have h0 : 0 ≤ U * C := Int.mul_nonneg hU.1 hC.1
  unfold hoC
  omega
theorem hoNN_bd {G O U : Int} (hG : 0 ≤ G ∧ G ≤ 1000) (hO : 0 ≤ O) (hU : 0 ≤ U ∧ U ≤ 1073741824) : 0 ≤ hoN G O U ∧ hoN G O U ≤ 2000000000000 := by
  have h1 : U * G ≤ 1073741824 * 1000 := Int.mul_le_mul hU.2 hG.2 hG.1 (by decide)
  have h0 : 0 ≤ U * G := Int.mul_nonneg hU.1 hG.1
  unfold hoN
  split
  · omega
  · have h2 := Int.ediv_le_self O h0
    have h3 := Int.ediv_nonneg h0 hO
    omega
theorem flat_few {α β : Type} (f : α → List β) (n : Nat) (h : ∀ x, (f x).length ≤ n) (xs : List α) : (xs.flatMap f).length ≤ n * xs.length := by
  induction xs with
  | nil => simp
  | cons x l ih =>
    have := h x
    rw [List.flatMap_cons, List.length_append, List.length_cons, Nat.mul_succ]
    omega
theorem dueL_in {C : Int} {l : List Int} (hC : 0 ≤ C ∧ C ≤ 1099511627776) (h1 : 0 ≤ l.getD 1 0 ∧ l.getD 1 0 ≤ 30) (h2 : 0 ≤ l.getD 2 0 ∧ l.getD 2 0 ≤ 30) : ∀ p ∈ dueL C l, (0 ≤ p.1 ∧ p.1 ≤ 30) ∧ (0 ≤ p.2.1 ∧ p.2.1 ≤ 30) ∧ 0 ≤ p.2.2 ∧ p.2.2 ≤ 150000000000000000 := by
  intro p hp
  have b := hoC_bd hC (opL_bd l)
  unfold dueL at hp
  split at hp
  · obtain rfl := List.mem_singleton.1 hp
    exact ⟨h1, h2, b⟩
  · cases hp
theorem pstL_in {P G O : Int} {l : List Int} (hP : 1 ≤ P ∧ P ≤ 20) (hG : 0 ≤ G ∧ G ≤ 1000) (hO : 0 ≤ O) (h1 : 0 ≤ l.getD 1 0 ∧ l.getD 1 0 ≤ 30) (h2 : 0 ≤ l.getD 2 0 ∧ l.getD 2 0 ≤ 30) : ∀ p ∈ pstL P G O l, (0 ≤ p.1 ∧ p.1 ≤ 30) ∧ (0 ≤ p.2.1 ∧ p.2.1 ≤ 30) ∧ -2000000000000 ≤ p.2.2 ∧ p.2.2 ≤ 2000000000000 := by
  intro p hp
  have b := hoNN_bd hG hO (opL_bd l)
  unfold pstL at hp
  generalize hoN G O (openL l) = q at *
  split at hp
  · rcases List.mem_cons.1 hp with rfl | hp
    · exact ⟨h1, by simp; omega, by simp; omega, by simp; omega⟩
    · obtain rfl := List.mem_singleton.1 hp
      exact ⟨h2, by simp; omega, by simp; omega, by simp; omega⟩
  · cases hp
theorem cev_v (P C G O : Int) (v : Value) (fs : List (List Int)) (w : World) (hr : ReadsF w v fs) : Calls Try.prog 4 #[.agg #[.int .i64 P, .int .i64 C, .int .i64 G, .int .i64 O], v] w fun e w' => e = .returned (.bool true) ∧ Kpt w w' := by
  by_cases h : cwE P C G O fs = 0
  · obtain ⟨a, cap, rfl, -⟩ := id hr
    obtain ⟨hev, hck⟩ := cwE_0 h
    obtain ⟨hl, hfs⟩ := checks_all hck
    obtain ⟨hP, hC, hG, hO, -⟩ := evE_0 hev
    have ft : ∀ l ∈ fs, (0 ≤ l.getD 1 0 ∧ l.getD 1 0 ≤ 30) ∧ (0 ≤ l.getD 2 0 ∧ l.getD 2 0 ≤ 30) := fun l hm => (fdue_t (fail_0 (hfs l hm)).1).2.2.1
    have gm : ∀ x : Fin fs.length, fs.getD x.1 [] ∈ fs := fun x => by rw [List.getD_eq_getElem?_getD, List.getElem?_eq_getElem x.2]; simp
    have hxl : (hit P fs fs.length).length ≤ fs.length := hit_len P fs fs.length
    have nd : (duesOf C fs (hit P fs fs.length)).length ≤ 60 := by
      have := flat_few (fun x : Fin fs.length => dueL C (fs.getD x.1 [])) 1 (fun x => by show (dueL C (fs.getD x.1 [])).length ≤ 1; unfold dueL; split <;> simp) (hit P fs fs.length)
      unfold duesOf; omega
    have np : (pstsOf P G O fs (hit P fs fs.length)).length ≤ 120 := by
      have := flat_few (fun x : Fin fs.length => pstL P G O (fs.getD x.1 [])) 2 (fun x => by show (pstL P G O (fs.getD x.1 [])).length ≤ 2; unfold pstL; split <;> simp) (hit P fs fs.length)
      unfold pstsOf; omega
    have bd : ∀ p ∈ duesOf C fs (hit P fs fs.length), (0 ≤ p.1 ∧ p.1 ≤ 30) ∧ (0 ≤ p.2.1 ∧ p.2.1 ≤ 30) ∧ 0 ≤ p.2.2 ∧ p.2.2 ≤ 150000000000000000 := fun p hp => by
      obtain ⟨x, -, hp⟩ := List.mem_flatMap.1 hp
      exact dueL_in hC (ft _ (gm x)).1 (ft _ (gm x)).2 p hp
    have bp : ∀ p ∈ pstsOf P G O fs (hit P fs fs.length), (0 ≤ p.1 ∧ p.1 ≤ 30) ∧ (0 ≤ p.2.1 ∧ p.2.1 ≤ 30) ∧ -2000000000000 ≤ p.2.2 ∧ p.2.2 ≤ 2000000000000 := fun p hp => by
      obtain ⟨x, -, hp⟩ := List.mem_flatMap.1 hp
      exact pstL_in hP hG hO.1 (ft _ (gm x)).1 (ft _ (gm x)).2 p hp
    have ch := psts_chk (P := P) (G := G) (O := O) hP (fun l hm => ⟨by have := (ft l hm).1; omega, by have := (ft l hm).2; omega, by have := hoNN_bd hG hO.1 (opL_bd l); omega⟩) (hit P fs fs.length)
    have h0 : ∀ l ∈ fs, 0 ≤ openL l := fun l _ => (opL_bd l).1
    refine cev_ok P C G O _ a cap fs (duesOf C fs (hit P fs fs.length)) (pstsOf P G O fs (hit P fs fs.length)) w hr hl hfs (fun w' k => ?_) ch ?_ ⟨nd, fun p hp => (bd p hp).2.2⟩ ⟨np, fun p hp => (bp p hp).2.2.2⟩ hev ⟨(allS_bd P fs fs.length (Nat.le_refl _)).1, fun hU => ?_⟩
    · refine (claims_ok P C G O a cap fs w' (hr.kpt k) h).mono ?_
      rintro e w'' ⟨dv, pv, rfl, od, op, hk⟩
      have rd := od.reads (fun p hp => by have := bd p hp; omega)
      have rp := op.reads (fun p hp => by have := bp p hp; omega)
      obtain ⟨a1, c1, rfl, -⟩ := id rd
      obtain ⟨a2, c2, rfl, -⟩ := id rp
      exact ⟨a1, c1, a2, c2, rfl, rd, rp, hk⟩
    · by_cases he : pstsOf P G O fs (hit P fs fs.length) = []
      · rw [if_pos he]; exact .inr (.inl ⟨rfl, by rw [he]; rfl⟩)
      · rw [if_neg he]
        split
        · exact .inr (.inr rfl)
        · exact .inl rfl
    · have e1 := allS_hit h0 fs.length (Nat.le_refl _) (P := P)
      have e2 := dues_sum hC.1 h0 (hit P fs fs.length)
      have e3 := psts_sum (P := P) hG.1 hO.1 h0 (hit P fs fs.length)
      have hn : (opnX fs (hit P fs fs.length)).length ≤ fs.length := by unfold opnX; rw [List.length_map]; exact hxl
      have f1 := fl_sum (c := C) (D := 10000) (by decide) (opnX fs (hit P fs fs.length))
      have f2 := hoN_sum (G := G) hO.1 (opnX fs (hit P fs fs.length))
      unfold sumA sumM hoC
      rw [List.take_length, List.take_length, e1, e2, e3]
      omega
  · exact cev_bad P C G O v fs w hr h

end Go.Proofs.Ytklaojahocjeiaa
