/-
  Merged: FailF, FailG, RepA, RepC, RepI.
-/
import Derived.Test.YtagmgpdgiphhbaaFailE
import Derived.Test.YtagmgpdgiphhbaaPrices
import Derived.Test.YtagmgpdgiphhbaaWeek
import Derived.Test.YtagmgpdgiphhbaaMc3
import Derived.Test.YtagmgpdgiphhbaaM7
import Derived.Test.YtagmgpdgiphhbaaCost
import Derived.Test.YtagmgpdgiphhbaaRow
import Derived.Test.YtagmgpdgiphhbaaShelf
-- FailF
namespace Go.Proofs.Ytagmgpdgiphhbaa
open Go.RowKit Go.Maps
set_option linter.unusedVariables false

/-- the place of the first fail of this number, or -1 -/
def idxF (id : Int) : List (List Int) → Nat → Int
  | [], _ => -1
  | l :: fs, k => if l.getD 0 0 = id then (k : Int) else idxF id fs (k + 1)
theorem some_run (w : World) : Calls Try.prog 36 #[] w fun e w' => e = .returned (.agg #[.int .i64 7, .int .i64 1, .int .i64 2, .int .i64 0, .int .i64 3, .int .i64 739935, .int .i64 100, .int .i64 0, .int .i64 0, .int .i64 0]) ∧ Kpt w w' := by
  have R1 := Lib.hid (Blk.made w #[.int .i64 0, .int .i64 0, .int .i64 0, .int .i64 0, .int .i64 0, .int .i64 0, .int .i64 0, .int .i64 0, .int .i64 0, .int .i64 0] 38)
  have K1 : Hid (Kpt w (w.alloc (.cells #[.int .i64 0, .int .i64 0, .int .i64 0, .int .i64 0, .int .i64 0, .int .i64 0, .int .i64 0, .int .i64 0, .int .i64 0, .int .i64 0] 38))) := (Kpt.refl w).alloc _
  go_enter Try.func36, Try.ntmps36
  go_wp2_with (refine wp_storeF rfl (.tmp 0) (.tmp 1) rfl w.heap.size _ _ rfl rfl R1.out rfl rfl (by simp [Value.oneCell']) ?_; intro w9 r9 k9 _; have R9 := Lib.hid r9; have K9 := Lib.hid (k9 _ _ K1.out (Nat.le_refl _)); clear r9 k9)
  exact bodyPost_ret (v := .agg #[.int .i64 7, .int .i64 1, .int .i64 2, .int .i64 0, .int .i64 3, .int .i64 739935, .int .i64 100, .int .i64 0, .int .i64 0, .int .i64 0]) (results_cell_row Try.results36 _ _ w.heap.size _ _ _ _ rfl R9.out Try.underlying38 rfl Try.sizeFail) rfl ⟨rfl, K9.out⟩

end Go.Proofs.Ytagmgpdgiphhbaa

-- FailG
namespace Go.Proofs.Ytagmgpdgiphhbaa
open Go.RowKit Go.Maps
set_option linter.unusedVariables false

theorem readsF_made {w : World} {cs : Array Value} {fs : List (List Int)} (hm : fs.length ≤ maxLen) (hb : ∀ l ∈ fs, FlB l) (h : ∀ k, k < fs.length → ∀ j, j < 10 → cs[k * 10 + j]? = some (.int .i64 ((fs.getD k []).getD j 0))) (cap : Nat) :
    ReadsF (w.alloc (.cells cs 38)) (.slice (some ⟨w.heap.size, 0, none⟩) fs.length cap) fs :=
  ⟨_, cap, rfl, hm, hb, fun k hk => ⟨_, _, rfl, fun j hj => by
    rw [Nat.zero_add, cell_of_row _ _ _ cs _ (0, 0) (heap_alloc_new w _)]
    exact h k hk j hj⟩⟩
theorem b0 : FlB [7, 1, 2, 0, 3, 739935, 100, 0, 0, 0] := by unfold FlB; decide
theorem b1 : FlB [7, 1, 2, 0, 3, 739935, 100, 30, 0, 0] := by unfold FlB; decide
theorem b2 : FlB [7, 1, 2, 0, 3, 739935, 100, 30, 50, 0] := by unfold FlB; decide
theorem fb_4 (w : World) : Calls Try.prog 43 #[.agg #[.int .i64 7, .int .i64 1, .int .i64 2, .int .i64 0, .int .i64 3, .int .i64 739935, .int .i64 100, .int .i64 30, .int .i64 50, .int .i64 0]] w fun e w' => e = .returned (.tuple #[.int .i64 20, .int .i64 0]) ∧ Kpt w w' := by
  have := fopenX_run 7 1 2 0 3 739935 100 30 50 0 w
  rwa [show openV 7 1 2 0 3 739935 100 30 50 0 = 20 by decide, show failE 7 1 2 0 3 739935 100 30 50 0 = 0 by decide] at this
theorem fb_8 (w : World) : Calls Try.prog 50 #[.agg #[.int .i64 0, .int .i64 0, .int .i64 0, .int .i64 0, .int .i64 0, .int .i64 0, .int .i64 0, .int .i64 0, .int .i64 0, .int .i64 0]] w fun e w' => e = .returned (.int .i64 3) ∧ Kpt w w' := by
  have := fcheck_run 0 0 0 0 0 0 0 0 0 0 w
  rwa [show failE 0 0 0 0 0 0 0 0 0 0 = 3 by decide] at this
theorem fb_9 (w : World) (H : Nat) (hH : w.heap.size = H) : Calls Try.prog 21 #[.slice (some ⟨H, 0, none⟩) 2 2] (w.alloc (.cells #[.int .i64 7, .int .i64 1, .int .i64 2, .int .i64 0, .int .i64 3, .int .i64 739935, .int .i64 100, .int .i64 30, .int .i64 0, .int .i64 0, .int .i64 7, .int .i64 1, .int .i64 2, .int .i64 0, .int .i64 3, .int .i64 739935, .int .i64 100, .int .i64 30, .int .i64 50, .int .i64 0] 38)) fun e w' => e = .returned (.int .i64 6) ∧ Kpt (w.alloc (.cells #[.int .i64 7, .int .i64 1, .int .i64 2, .int .i64 0, .int .i64 3, .int .i64 739935, .int .i64 100, .int .i64 30, .int .i64 0, .int .i64 0, .int .i64 7, .int .i64 1, .int .i64 2, .int .i64 0, .int .i64 3, .int .i64 739935, .int .i64 100, .int .i64 30, .int .i64 50, .int .i64 0] 38)) w' := by
  subst hH
  have hr := readsF_made (w := w) (cs := #[.int .i64 7, .int .i64 1, .int .i64 2, .int .i64 0, .int .i64 3, .int .i64 739935, .int .i64 100, .int .i64 30, .int .i64 0, .int .i64 0, .int .i64 7, .int .i64 1, .int .i64 2, .int .i64 0, .int .i64 3, .int .i64 739935, .int .i64 100, .int .i64 30, .int .i64 50, .int .i64 0]) (fs := [[7, 1, 2, 0, 3, 739935, 100, 30, 0, 0], [7, 1, 2, 0, 3, 739935, 100, 30, 50, 0]]) (by unfold maxLen; decide) (by
    intro l hl
    simp only [List.mem_cons, List.not_mem_nil, or_false] at hl
    rcases hl with rfl | rfl
    · exact b1
    · exact b2) (by
    intro k hk j hj
    rcases (show k = 0 ∨ k = 1 by simp at hk; omega) with rfl | rfl
    · rcases (show j = 0 ∨ j = 1 ∨ j = 2 ∨ j = 3 ∨ j = 4 ∨ j = 5 ∨ j = 6 ∨ j = 7 ∨ j = 8 ∨ j = 9 by omega) with rfl | rfl | rfl | rfl | rfl | rfl | rfl | rfl | rfl | rfl <;> rfl
    · rcases (show j = 0 ∨ j = 1 ∨ j = 2 ∨ j = 3 ∨ j = 4 ∨ j = 5 ∨ j = 6 ∨ j = 7 ∨ j = 8 ∨ j = 9 by omega) with rfl | rfl | rfl | rfl | rfl | rfl | rfl | rfl | rfl | rfl <;> rfl) 2
  have := checks_run _ _ _ hr
  rwa [show checksE [[7, 1, 2, 0, 3, 739935, 100, 30, 0, 0], [7, 1, 2, 0, 3, 739935, 100, 30, 50, 0]] = 6 by decide +kernel] at this

end Go.Proofs.Ytagmgpdgiphhbaa

-- RepA
namespace Go.Proofs.Ytagmgpdgiphhbaa
open Go.RowKit
set_option linter.unusedVariables false

/-- the error of edges behind such a one -/
def edgL (b : Int) : List Int → Int
  | [] => 0
  | e :: es => if e < 1 ∨ 3652058 < e then 3 else if e ≤ b then 4 else edgL e es
def edgE (es : List Int) : Int := if 40 < es.length then 2 else edgL 0 es

set_option maxHeartbeats 2000000 in
theorem edges_run (v : Value) (es : List Int) (w : World) (hr : Reads w v es) :
    Calls Try.prog 41 #[v] w fun e w' => e = .returned (.int .i64 (edgE es)) ∧ w = w' := by
  obtain ⟨a, cap, rfl, hm, hc⟩ := hr
  unfold maxLen at hm
  have HC := Lib.hid hc
  obtain ⟨n, hn⟩ : ∃ n, n = es.length := ⟨_, rfl⟩
  by_cases h6 : 40 < es.length
  · have HX : Hid (edgE es = 2) := by unfold Hid edgE; rw [if_pos h6]
    rw [← hn] at HC hm h6 ⊢
    have y1 : decide ((40 : Int) < (n : Int)) = true := decide_eq_true (by omega)
    clear hc hn
    go_enter Try.func41, Try.ntmps41
    go_wp2
    go_ret
    exact ⟨ret_int HX.out.symm, rfl⟩
  · have HX : Hid (edgE es = edgL 0 (es.drop 0)) := by unfold Hid edgE; rw [if_neg h6]; rfl
    have DR := Lib.hid (fun k (h : k < es.length) => drop_atI h)
    have DA : Hid (es.drop n = []) := by unfold Hid; rw [hn, List.drop_length]
    rw [← hn] at HC hm h6 DR ⊢
    have y1 : decide ((40 : Int) < (n : Int)) = false := decide_eq_false (by omega)
    clear hc hn h6
    go_enter Try.func41, Try.ntmps41
    go_wp2
    go_loop [3, 11] (fun bb ii => ∃ (k : Nat) (b : Int), k ≤ n ∧ bb = .int .i64 b ∧ ii = .int .i64 (k : Int) ∧ Hid (edgE es = edgL b (es.drop k))) (fun bb ii => n - (intOf ii).toNat)
    case atStart => exact ⟨0, 0, Nat.zero_le _, rfl, rfl, HX.out⟩
    case round =>
      obtain ⟨k, b, hk, rfl, rfl, HE⟩ := hrel
      by_cases hlt : k < n
      · obtain ⟨g, off, rfl, c0⟩ := HC.out k hlt
        have he := HE.out
        rw [DR.out k hlt] at he
        unfold edgL at he
        clear HE
        generalize es.getD k 0 = p at *
        by_cases h1 : p < 1 ∨ 3652058 < p
        · rw [if_pos h1] at he
          have HE2 := Lib.hid he
          clear he
          by_cases h2 : p < 1
          · have q1 : decide (p < 1) = true := decide_eq_true h2
            clear h1 h2
            go_wp2
            go_ret
            exact ⟨ret_int HE2.out.symm, rfl⟩
          · have q1 : decide (p < 1) = false := decide_eq_false h2
            have q2 : decide ((3652058 : Int) < p) = true := decide_eq_true (by omega)
            clear h1 h2
            go_wp2
            go_ret
            exact ⟨ret_int HE2.out.symm, rfl⟩
        · rw [if_neg h1] at he
          have q1 : decide (p < 1) = false := decide_eq_false (by omega)
          have q2 : decide ((3652058 : Int) < p) = false := decide_eq_false (by omega)
          clear h1
          by_cases h3 : p ≤ b
          · rw [if_pos h3] at he
            have HE2 := Lib.hid he
            have q3 : decide (p ≤ b) = true := decide_eq_true h3
            clear he h3
            go_wp2
            go_ret
            exact ⟨ret_int HE2.out.symm, rfl⟩
          · rw [if_neg h3] at he
            have HE2 := Lib.hid he
            have q3 : decide (p ≤ b) = false := decide_eq_false h3
            clear he h3
            go_wp2
            go_round
            case rel => exact ⟨k + 1, p, by omega, rfl, by go_num, HE2.out⟩
            case measure => simp [intOf]; omega
      · obtain rfl : k = n := by omega
        rw [DA.out] at HE
        go_wp2
        go_ret
        exact ⟨ret_int HE.out.symm, rfl⟩

/-- the error of a day -/
def tdE (q : Int) : Int := if 0 ≤ q ∧ q ≤ 3652058 then 0 else 3
def wkR (q : Int) : Int := if 0 ≤ q ∧ q ≤ 3652058 then q % 7 else 0
theorem wk_any (q : Int) (w : World) : Calls Try.prog 40 #[.int .i64 q] w fun e w' => e = .returned (.tuple #[.int .i64 (wkR q), .int .i64 (tdE q)]) ∧ w = w' := by
  unfold wkR tdE
  by_cases h : 0 ≤ q ∧ q ≤ 3652058
  · rw [if_pos h, if_pos h]; exact wk_ok q h.1 h.2 w
  · rw [if_neg h, if_neg h]; exact wk_no q (by omega) w
/-- the error of what Ages is asked -/
def ageQ (W : Int) (hs : List Int) (fs : List (List Int)) (q : Int) (es : List Int) : Int := orE (calE W hs) (orE (checksE fs) (orE (tdE q) (edgE es)))

set_option maxHeartbeats 2000000 in
theorem checkAges_run (W q : Int) (v fv ev : Value) (hs es : List Int) (fs : List (List Int)) (w : World) (hr : Reads w v hs) (hf : Fits hs) (hF : ReadsF w fv fs) (hE : Reads w ev es) :
    Calls Try.prog 17 #[calV W v, fv, .int .i64 q, ev] w fun e w' => e = .returned (.int .i64 (ageQ W hs fs q es)) ∧ Kpt w w' := by
  have CC := Lib.hid (fun w' (k : Kpt w w') => calCheck_any W v hs w' (hr.kpt k) hf)
  have FC := Lib.hid (fun w' (k : Kpt w w') => checks_run fv fs w' (hF.kpt k))
  have WK := Lib.hid (fun w' => wk_any q w')
  have EC := Lib.hid (fun w' (k : Kpt w w') => edges_run ev es w' (hE.kpt k))
  have K1 : Hid (Kpt w (w.alloc (.cells #[.int .i64 W, v] 24))) := (Kpt.refl w).alloc _
  obtain ⟨a, cap, rfl, -⟩ := hr
  obtain ⟨a2, cap2, rfl, -⟩ := hF
  obtain ⟨a3, cap3, rfl, -⟩ := hE
  have HQ : Hid (ageQ W hs fs q es = orE (calE W hs) (orE (checksE fs) (orE (tdE q) (edgE es)))) := rfl
  unfold calV at *
  generalize ageQ W hs fs q es = Z at *
  generalize calE W hs = z1 at *
  generalize checksE fs = z2 at *
  generalize tdE q = z3 at *
  generalize edgE es = z4 at *
  generalize wkR q = z5 at *
  generalize fs.length = n2 at *
  generalize es.length = n3 at *
  generalize hs.length = n1 at *
  by_cases h1 : z1 = 0
  · have p1 : (z1 != 0) = false := by rw [h1]; rfl
    by_cases h2 : z2 = 0
    · have p2 : (z2 != 0) = false := by rw [h2]; rfl
      by_cases h3 : z3 = 0
      · have p3 : (z3 != 0) = false := by rw [h3]; rfl
        have HZ : Hid (Z = z4) := by unfold Hid; rw [HQ.out, orE_r h1, orE_r h2, orE_r h3]
        clear h1 h2 h3 HQ
        go_enter Try.func17, Try.ntmps17
        go_wp2_with (first
          | (go_at_call 39; (with_reducible refine (CC.out _ K1.out).mono ?_); rintro x w1 ⟨rfl, k1⟩; have K2 := Lib.hid (ktr K1.out k1.kpt); clear k1)
          | (go_at_call 21; (with_reducible refine (FC.out _ K2.out).mono ?_); rintro x w2 ⟨rfl, k2⟩; have K3 := Lib.hid (ktr K2.out k2); clear k2)
          | (go_at_call 40; (with_reducible refine (WK.out _).mono ?_); rintro x w3 ⟨rfl, rfl⟩)
          | (go_at_call 41; (with_reducible refine (EC.out _ K3.out).mono ?_); rintro x w3 ⟨rfl, rfl⟩))
        go_ret
        exact ⟨ret_int HZ.out.symm, K3.out⟩
      · have p3 : (z3 != 0) = true := bne_iff_ne.2 h3
        have HZ : Hid (Z = z3) := by unfold Hid; rw [HQ.out, orE_r h1, orE_r h2, orE_l _ h3]
        clear h1 h2 h3 HQ
        go_enter Try.func17, Try.ntmps17
        go_wp2_with (first
          | (go_at_call 39; (with_reducible refine (CC.out _ K1.out).mono ?_); rintro x w1 ⟨rfl, k1⟩; have K2 := Lib.hid (ktr K1.out k1.kpt); clear k1)
          | (go_at_call 21; (with_reducible refine (FC.out _ K2.out).mono ?_); rintro x w2 ⟨rfl, k2⟩; have K3 := Lib.hid (ktr K2.out k2); clear k2)
          | (go_at_call 40; (with_reducible refine (WK.out _).mono ?_); rintro x w3 ⟨rfl, rfl⟩))
        go_ret
        exact ⟨ret_int HZ.out.symm, K3.out⟩
    · have p2 : (z2 != 0) = true := bne_iff_ne.2 h2
      have HZ : Hid (Z = z2) := by unfold Hid; rw [HQ.out, orE_r h1, orE_l _ h2]
      clear h1 h2 HQ
      go_enter Try.func17, Try.ntmps17
      go_wp2_with (first
        | (go_at_call 39; (with_reducible refine (CC.out _ K1.out).mono ?_); rintro x w1 ⟨rfl, k1⟩; have K2 := Lib.hid (ktr K1.out k1.kpt); clear k1)
        | (go_at_call 21; (with_reducible refine (FC.out _ K2.out).mono ?_); rintro x w2 ⟨rfl, k2⟩; have K3 := Lib.hid (ktr K2.out k2); clear k2))
      go_ret
      exact ⟨ret_int HZ.out.symm, K3.out⟩
  · have p1 : (z1 != 0) = true := bne_iff_ne.2 h1
    have HZ : Hid (Z = z1) := by unfold Hid; rw [HQ.out, orE_l _ h1]
    clear h1 HQ
    go_enter Try.func17, Try.ntmps17
    go_wp2_with (go_at_call 39; (with_reducible refine (CC.out _ K1.out).mono ?_); rintro x w1 ⟨rfl, k1⟩; have K2 := Lib.hid (ktr K1.out k1.kpt); clear k1)
    go_ret
    exact ⟨ret_int HZ.out.symm, K2.out⟩

/-- the error of what Top is asked -/
def mnyE (m : Int) : Int := if m < 0 ∨ 60 < m then 3 else 0
def topE (fs : List (List Int)) (ps : List Int) (m : Int) : Int := orE (checksE fs) (orE (prsE ps) (mnyE m))
set_option maxHeartbeats 2000000 in
theorem checkTop_run (m : Int) (fv pv : Value) (ps : List Int) (fs : List (List Int)) (w : World) (hF : ReadsF w fv fs) (hP : Reads w pv ps) :
    Calls Try.prog 22 #[fv, pv, .int .i64 m] w fun e w' => e = .returned (.int .i64 (topE fs ps m)) ∧ Kpt w w' := by
  have FC := Lib.hid (checks_run fv fs w hF)
  have PC := Lib.hid (fun w' (k : Kpt w w') => prices_run pv ps w' (hP.kpt k))
  have HM : Hid (mnyE m = if m < 0 ∨ 60 < m then 3 else 0) := rfl
  obtain ⟨a2, cap2, rfl, -⟩ := hF
  obtain ⟨a3, cap3, rfl, -⟩ := hP
  have HQ : Hid (topE fs ps m = orE (checksE fs) (orE (prsE ps) (mnyE m))) := rfl
  generalize topE fs ps m = Z at *
  generalize checksE fs = z2 at *
  generalize prsE ps = z3 at *
  generalize mnyE m = z4 at *
  generalize fs.length = n2 at *
  generalize ps.length = n3 at *
  by_cases h2 : z2 = 0
  · have p2 : (z2 != 0) = false := by rw [h2]; rfl
    by_cases h3 : z3 = 0
    · have p3 : (z3 != 0) = false := by rw [h3]; rfl
      have HZ : Hid (Z = z4) := by unfold Hid; rw [HQ.out, orE_r h2, orE_r h3]
      clear h2 h3 HQ
      by_cases h4 : m < 0
      · have q1 : decide (m < 0) = true := decide_eq_true h4
        have HY : Hid (Z = 3) := by unfold Hid; rw [HZ.out, HM.out, if_pos (.inl h4)]
        clear h4 HZ HM
        go_enter Try.func22, Try.ntmps22
        go_wp2_with (first
          | (go_at_call 21; (with_reducible refine FC.out.mono ?_); rintro x w2 ⟨rfl, k2⟩; have K3 := Lib.hid k2; clear k2)
          | (go_at_call 51; (with_reducible refine (PC.out _ K3.out).mono ?_); rintro x w3 ⟨rfl, rfl⟩))
        go_ret
        exact ⟨ret_int HY.out.symm, K3.out⟩
      · have q1 : decide (m < 0) = false := decide_eq_false h4
        by_cases h5 : 60 < m
        · have q2 : decide ((60 : Int) < m) = true := decide_eq_true h5
          have HY : Hid (Z = 3) := by unfold Hid; rw [HZ.out, HM.out, if_pos (.inr h5)]
          clear h4 h5 HZ HM
          go_enter Try.func22, Try.ntmps22
          go_wp2_with (first
            | (go_at_call 21; (with_reducible refine FC.out.mono ?_); rintro x w2 ⟨rfl, k2⟩; have K3 := Lib.hid k2; clear k2)
            | (go_at_call 51; (with_reducible refine (PC.out _ K3.out).mono ?_); rintro x w3 ⟨rfl, rfl⟩))
          go_ret
          exact ⟨ret_int HY.out.symm, K3.out⟩
        · have q2 : decide ((60 : Int) < m) = false := decide_eq_false h5
          have HY : Hid (Z = 0) := by unfold Hid; rw [HZ.out, HM.out, if_neg (by omega)]
          clear h4 h5 HZ HM
          go_enter Try.func22, Try.ntmps22
          go_wp2_with (first
            | (go_at_call 21; (with_reducible refine FC.out.mono ?_); rintro x w2 ⟨rfl, k2⟩; have K3 := Lib.hid k2; clear k2)
            | (go_at_call 51; (with_reducible refine (PC.out _ K3.out).mono ?_); rintro x w3 ⟨rfl, rfl⟩))
          go_ret
          exact ⟨ret_int HY.out.symm, K3.out⟩
    · have p3 : (z3 != 0) = true := bne_iff_ne.2 h3
      have HZ : Hid (Z = z3) := by unfold Hid; rw [HQ.out, orE_r h2, orE_l _ h3]
      clear h2 h3 HQ
      go_enter Try.func22, Try.ntmps22
      go_wp2_with (first
        | (go_at_call 21; (with_reducible refine FC.out.mono ?_); rintro x w2 ⟨rfl, k2⟩; have K3 := Lib.hid k2; clear k2)
        | (go_at_call 51; (with_reducible refine (PC.out _ K3.out).mono ?_); rintro x w3 ⟨rfl, rfl⟩))
      go_ret
      exact ⟨ret_int HZ.out.symm, K3.out⟩
  · have p2 : (z2 != 0) = true := bne_iff_ne.2 h2
    have HZ : Hid (Z = z2) := by unfold Hid; rw [HQ.out, orE_l _ h2]
    clear h2 HQ
    go_enter Try.func22, Try.ntmps22
    go_wp2_with (go_at_call 21; (with_reducible refine FC.out.mono ?_); rintro x w2 ⟨rfl, k2⟩; have K3 := Lib.hid k2; clear k2)
    go_ret
    exact ⟨ret_int HZ.out.symm, K3.out⟩

end Go.Proofs.Ytagmgpdgiphhbaa

-- RepC
namespace Go.Proofs.Ytagmgpdgiphhbaa
open Go.RowKit
set_option linter.unusedVariables false

theorem idsE_fl {ids : List Int} {fs : List (List Int)} (h : idsE ids fs = 0) : ∀ l ∈ fs, failEL l = 0 := by
  induction fs generalizing ids with
  | nil => intro l hl; cases hl
  | cons l fs ih =>
    unfold idsE at h
    by_cases h1 : failEL l = 0
    · rw [if_neg (by simpa using h1)] at h
      split at h
      · cases h
      · intro k hk
        rcases List.mem_cons.1 hk with rfl | hk
        · exact h1
        · exact ih h k hk
    · rw [if_pos h1] at h; exact absurd h h1
theorem checksE_0 {fs : List (List Int)} (h : checksE fs = 0) : fs.length ≤ 60 ∧ ∀ l ∈ fs, failEL l = 0 := by
  refine ⟨checks_60 h, ?_⟩
  unfold checksE at h
  rw [if_neg (by have := checks_60 (fs := fs) (by unfold checksE; exact h); omega)] at h
  exact idsE_fl h
theorem fail_bd {l : List Int} (h : failEL l = 0) : (1 ≤ l.getD 6 0 ∧ l.getD 6 0 ≤ 1073741824) ∧ (0 ≤ l.getD 7 0 ∧ l.getD 7 0 ≤ l.getD 6 0) ∧ (0 ≤ l.getD 8 0 ∧ 0 ≤ l.getD 9 0 ∧ l.getD 7 0 + l.getD 8 0 + l.getD 9 0 ≤ l.getD 6 0) ∧ (1 ≤ l.getD 4 0 ∧ l.getD 4 0 ≤ 20) ∧ (0 ≤ l.getD 1 0 ∧ l.getD 1 0 ≤ 30) ∧ (0 ≤ l.getD 2 0 ∧ l.getD 2 0 ≤ 30) ∧ (0 ≤ l.getD 5 0 ∧ l.getD 5 0 ≤ 3652058) ∧ openL l = l.getD 6 0 - l.getD 7 0 - l.getD 8 0 - l.getD 9 0 := by
  unfold failEL at h
  have h' := h
  obtain ⟨h1, -, h3, h4⟩ := fail_0 h
  obtain ⟨h0, -, h5, h6, h7, h8⟩ := fdue_t h1
  obtain ⟨g1, g2, g3⟩ := ftk_t h3
  refine ⟨h8, by omega, ⟨g2.1, g3.1, by omega⟩, h7, h5.1, h5.2, h0, ?_⟩
  unfold openL openV
  rw [if_pos h']
/-- all together of a column -/
def sumF (c : Nat) (fs : List (List Int)) : Int := (fs.map fun l => l.getD c 0).sum
theorem sumF_s {c k : Nat} {fs : List (List Int)} (h : k < fs.length) : sumF c (fs.take (k + 1)) = sumF c (fs.take k) + (fs.getD k []).getD c 0 := by
  unfold sumF
  have e : fs.getD k [] = fs[k] := by rw [List.getD_eq_getElem?_getD, List.getElem?_eq_getElem h]; rfl
  rw [List.take_succ_eq_append_getElem h, List.map_append, List.sum_append, e]
  simp
theorem sumF_bd {fs : List (List Int)} (h : ∀ l ∈ fs, failEL l = 0) : 0 ≤ sumF 7 fs ∧ sumF 7 fs ≤ sumF 6 fs ∧ (fs.length : Int) ≤ sumF 6 fs ∧ sumF 6 fs ≤ fs.length * 1073741824 := by
  induction fs with
  | nil => decide
  | cons l fs ih =>
    have h1 := ih fun k hk => h k (by simp [hk])
    have h2 := fail_bd (h l (by simp))
    have e6 : sumF 6 (l :: fs) = l.getD 6 0 + sumF 6 fs := by simp [sumF]
    have e7 : sumF 7 (l :: fs) = l.getD 7 0 + sumF 7 fs := by simp [sumF]
    rw [e6, e7, List.length_cons]
    omega
theorem take_fl {fs : List (List Int)} (h : ∀ l ∈ fs, failEL l = 0) (k : Nat) : ∀ l ∈ fs.take k, failEL l = 0 := fun l hl => h l (List.mem_of_mem_take hl)

/-- the error of Rate; what it answers -/
def ratE (fs : List (List Int)) : Int := if checksE fs = 0 then (if fs.length = 0 then 5 else 0) else checksE fs
def ratR (fs : List (List Int)) : Int := if ratE fs = 0 then sumF 7 fs * 10000 / sumF 6 fs else 0
theorem rat_part {d u : Int} (h0 : 0 ≤ d) (h1 : d ≤ u) (h2 : 1 ≤ u) (h3 : u ≤ 64424509440) (w : World) : Calls Try.prog 28 #[.int .i64 d, .int .i64 10000, .int .i64 u] w fun e w' => e = .returned (.tuple #[.int .i64 (d * 10000 / u), .int .i64 (d * 10000 % u), .int .i64 0]) ∧ Grew w w' := by
  have q0 : 0 ≤ d * 10000 / u := Int.ediv_nonneg (by omega) (by omega)
  have q1 : d * 10000 / u ≤ d * 10000 := Int.ediv_le_self _ (by omega)
  exact part_ok _ _ _ (amt_mk (by omega) (by omega)) (rng_mk (by decide) (by decide) h2 (by omega)) (amt_mk (by omega) (by omega)) w

set_option maxHeartbeats 4000000 in
theorem rate_run (v : Value) (fs : List (List Int)) (w : World) (hr : ReadsF w v fs) :
    Calls Try.prog 7 #[v] w fun e w' => e = .returned (.tuple #[.int .i64 (ratR fs), .int .i64 (ratE fs)]) ∧ Kpt w w' := by
  have FC := Lib.hid (checks_run v fs w hr)
  have HR := Lib.hid hr
  obtain ⟨a, cap, rfl, hm, -, hc⟩ := hr
  unfold maxLen at hm
  by_cases hE : checksE fs = 0
  · obtain ⟨h60, hfl⟩ := checksE_0 hE
    by_cases hn : fs.length = 0
    · have e1 : ratE fs = 5 := by unfold ratE; rw [if_pos hE, if_pos hn]
      have e2 : ratR fs = 0 := by unfold ratR; rw [if_neg (by omega)]
      rw [e1, e2]
      rw [hE] at FC
      rw [hn] at FC ⊢
      clear hE e1 e2 hc hfl h60 hm hn
      go_enter Try.func7, Try.ntmps7
      go_wp2_with (go_at_call 21; (with_reducible refine FC.out.mono ?_); rintro x w2 ⟨rfl, k2⟩; have K3 := Lib.hid k2; clear k2)
      go_ret2
      exact ⟨rfl, K3.out⟩
    · have e1 : ratE fs = 0 := by unfold ratE; rw [if_pos hE, if_neg hn]
      have HQ : Hid (ratR fs = sumF 7 fs * 10000 / sumF 6 fs) := by unfold Hid ratR; rw [if_pos e1]
      rw [e1]
      rw [hE] at FC
      have hb := sumF_bd hfl
      have PT := Lib.hid (fun w => rat_part hb.1 hb.2.1 (by omega) (by omega) w)
      have HC := Lib.hid hc
      have HS7 := Lib.hid (fun k (h : k < fs.length) => sumF_s (c := 7) h)
      have HS6 := Lib.hid (fun k (h : k < fs.length) => sumF_s (c := 6) h)
      have HB := Lib.hid (fun k => sumF_bd (take_fl hfl k))
      have HT := Lib.hid (List.take_length (l := fs))
      have x7 : Hid (sumF 7 (fs.take 0) = 0) := rfl
      have x6 : Hid (sumF 6 (fs.take 0) = 0) := rfl
      have HL := Lib.hid (fun k => List.length_take_le k fs)
      have FL := Lib.hid (fun k (h : k < fs.length) => fail_bd (hfl _ (getF_mem h)))
      have y0 : (((fs.length : Nat) : Int) == 0) = false := by rw [beq_eq_false_iff_ne]; omega
      clear hE e1 hc hfl hb
      generalize ratR fs = R at *
      go_enter Try.func7, Try.ntmps7
      go_wp2_with (go_at_call 21; (with_reducible refine FC.out.mono ?_); rintro x w2 ⟨rfl, k2⟩; have K3 := Lib.hid k2; clear k2)
      go_loopw [5, 6, 22] (fun aa bb ii wx => ∃ k : Nat, k ≤ fs.length ∧ aa = .int .i64 (sumF 7 (fs.take k)) ∧ bb = .int .i64 (sumF 6 (fs.take k)) ∧ ii = .int .i64 (k : Int) ∧ Hid (Kpt w wx)) (fun aa bb ii _ => fs.length - (intOf ii).toNat)
      case atStart => exact ⟨0, Nat.zero_le _, by rw [x7.out], by rw [x6.out], rfl, K3.out⟩
      case round =>
        obtain ⟨k, hk, rfl, rfl, rfl, HK⟩ := hrel
        by_cases hlt : k < fs.length
        · obtain ⟨g, off, rfl, hfl⟩ := HC.out k hlt
          have hf := hfl.kpt HK.out
          have c0 : wr.cell? ⟨g, off + k * 10, none⟩ = _ := hf 0 (by omega)
          have c1 : wr.cell? ⟨g, off + k * 10 + 1, none⟩ = _ := hf 1 (by omega)
          have c2 : wr.cell? ⟨g, off + k * 10 + 2, none⟩ = _ := hf 2 (by omega)
          have c3 : wr.cell? ⟨g, off + k * 10 + 3, none⟩ = _ := hf 3 (by omega)
          have c4 : wr.cell? ⟨g, off + k * 10 + 4, none⟩ = _ := hf 4 (by omega)
          have c5 : wr.cell? ⟨g, off + k * 10 + 5, none⟩ = _ := hf 5 (by omega)
          have c6 : wr.cell? ⟨g, off + k * 10 + 6, none⟩ = _ := hf 6 (by omega)
          have c7 : wr.cell? ⟨g, off + k * 10 + 7, none⟩ = _ := hf 7 (by omega)
          have c8 : wr.cell? ⟨g, off + k * 10 + 8, none⟩ = _ := hf 8 (by omega)
          have c9 : wr.cell? ⟨g, off + k * 10 + 9, none⟩ = _ := hf 9 (by omega)
          have s7 := HS7.out k hlt
          have s6 := HS6.out k hlt
          have b := HB.out k
          have hl := HL.out k
          have fb := FL.out k hlt
          clear hf hfl
          generalize (fs.getD k []).getD 0 0 = f0 at *
          generalize (fs.getD k []).getD 1 0 = f1 at *
          generalize (fs.getD k []).getD 2 0 = f2 at *
          generalize (fs.getD k []).getD 3 0 = f3 at *
          generalize (fs.getD k []).getD 4 0 = f4 at *
          generalize (fs.getD k []).getD 5 0 = f5 at *
          generalize (fs.getD k []).getD 6 0 = f6 at *
          generalize (fs.getD k []).getD 7 0 = f7 at *
          generalize (fs.getD k []).getD 8 0 = f8 at *
          generalize (fs.getD k []).getD 9 0 = f9 at *
          have S7 := Lib.hid s7
          have S6 := Lib.hid s6
          have y1 : decide ((k : Int) < (fs.length : Int)) = true := decide_eq_true (by omega)
          generalize sumF 7 (fs.take k) = A at *
          generalize sumF 6 (fs.take k) = B at *
          have m7 : IntKind.i64.wrap (A + f7) = A + f7 := IntWalk.i64_in _ (by omega)
          have m6 : IntKind.i64.wrap (B + f6) = B + f6 := IntWalk.i64_in _ (by omega)
          have ZB : Hid (Blk (wr.alloc (.cells #[.int .i64 0, .int .i64 0, .int .i64 0, .int .i64 0, .int .i64 0, .int .i64 0, .int .i64 0, .int .i64 0, .int .i64 0, .int .i64 0] 38)) wr.heap.size #[.int .i64 0, .int .i64 0, .int .i64 0, .int .i64 0, .int .i64 0, .int .i64 0, .int .i64 0, .int .i64 0, .int .i64 0, .int .i64 0] 38) := Blk.made _ _ _
          have KZ : Hid (Kpt wr (wr.alloc (.cells #[.int .i64 0, .int .i64 0, .int .i64 0, .int .i64 0, .int .i64 0, .int .i64 0, .int .i64 0, .int .i64 0, .int .i64 0, .int .i64 0] 38))) := (Kpt.refl wr).alloc _
          clear s7 s6 b hl fb
          go_wp2_with (refine wp_storeF rfl (.tmp 8) (.tmp 25) rfl wr.heap.size _ _ rfl rfl ZB.out rfl rfl (by simp [Value.oneCell']) ?_; intro w9 r9 k9 o9; have d6 : World.cell? w9 ⟨wr.heap.size, 6, none⟩ = some (.int .i64 f6) := Blk.cell r9 6; have d7 : World.cell? w9 ⟨wr.heap.size, 7, none⟩ = some (.int .i64 f7) := Blk.cell r9 7; have K9 : Hid (Kpt wr w9) := Lib.hid (k9 _ _ KZ.out (Nat.le_refl _)); clear r9 k9 o9)
          go_roundw
          case rel => exact ⟨k + 1, by omega, by rw [S7.out], by rw [S6.out], by go_num, ktr HK.out K9.out⟩
          case measure => simp [intOf]; omega
        · have hkl : k = fs.length := by omega
          have y1 : decide ((k : Int) < (fs.length : Int)) = false := decide_eq_false (by omega)
          have e7 : sumF 7 (fs.take k) = sumF 7 fs := by rw [hkl, HT.out]
          have e6 : sumF 6 (fs.take k) = sumF 6 fs := by rw [hkl, HT.out]
          rw [e7, e6]
          clear e7 e6
          generalize sumF 7 fs = A at *
          generalize sumF 6 fs = B at *
          go_wp2_with (go_at_call 28; (with_reducible refine (PT.out _).mono ?_); rintro x w3 ⟨rfl, g3⟩; have K4 := Lib.hid (ktr HK.out g3.kpt); clear g3)
          go_ret2
          have hq := HQ.out
          subst hq
          exact ⟨rfl, K4.out⟩
  · have e1 : ratE fs = checksE fs := by unfold ratE; rw [if_neg hE]
    have e2 : ratR fs = 0 := by unfold ratR; rw [if_neg (by omega)]
    rw [e1, e2]
    have p2 : (checksE fs != 0) = true := bne_iff_ne.2 hE
    clear hE e1 e2 hc
    generalize checksE fs = E at *
    go_enter Try.func7, Try.ntmps7
    go_wp2_with (go_at_call 21; (with_reducible refine FC.out.mono ?_); rintro x w2 ⟨rfl, k2⟩; have K3 := Lib.hid k2; clear k2)
    go_ret2
    exact ⟨rfl, K3.out⟩

end Go.Proofs.Ytagmgpdgiphhbaa

-- RepI
namespace Go.Proofs.Ytagmgpdgiphhbaa
open Go.RowKit Go.Shelf
set_option linter.unusedVariables false

theorem Blk.own {w w' : World} {g : Nat} {cs : Array Value} {T : TypeId} {row : Option Nat} (h : Blk w g cs T) (k : w.grownBy w' row) (hr : ∀ r, row = some r → ∃ o : Obj, w.heap[r]? = some o ∧ o.isCells = false) : Blk w' g cs T :=
  (k.block g h.lt (fun e => by obtain ⟨o, ho, hc⟩ := hr g e.symm; rw [show w.heap[g]? = _ from h] at ho; cases ho; cases hc)).trans h
theorem Blk.made' {w : World} {cs : Array Value} {T : TypeId} {g : Nat} (h : w.heap.size = g) : Blk (w.alloc (.cells cs T)) g cs T := by subst h; exact Blk.made _ _ _
/-- a block of ints that begins with these -/
def IB (w : World) (g : Nat) (zs : List Int) : Prop := ∃ cur : Array Value, Blk w g cur 3 ∧ zs.length ≤ cur.size ∧ ∀ j, j < zs.length → cur[j]? = some (.int .i64 (zs.getD j 0))
theorem IB.lt {w : World} {g : Nat} {zs : List Int} (h : IB w g zs) : g < w.heap.size := by obtain ⟨cur, h, -⟩ := h; exact h.lt
theorem IB.cell {w : World} {g : Nat} {zs : List Int} (h : IB w g zs) {j : Nat} (hj : j < zs.length) : w.cell? ⟨g, j, none⟩ = some (.int .i64 (zs.getD j 0)) := by
  obtain ⟨cur, h1, h2, h3⟩ := h
  rw [h1.cell j]; exact h3 j hj
theorem IB.kpt {w w' : World} {g : Nat} {zs : List Int} (h : IB w g zs) (k : Kpt w w') : IB w' g zs := by
  obtain ⟨cur, h1, h2⟩ := h; exact ⟨cur, h1.kpt k, h2⟩
theorem IB.alloc {w : World} {g : Nat} {zs : List Int} (h : IB w g zs) (o : Obj) : IB (w.alloc o) g zs := h.kpt ((Kpt.refl w).alloc o)
theorem IB.own {w w' : World} {g : Nat} {zs : List Int} {row : Option Nat} (h : IB w g zs) (k : w.grownBy w' row) (hr : ∀ r, row = some r → ∃ o : Obj, w.heap[r]? = some o ∧ o.isCells = false) : IB w' g zs := by
  obtain ⟨cur, h1, h2⟩ := h; exact ⟨cur, h1.own k hr, h2⟩
theorem IB.away {w : World} {g : Nat} {zs : List Int} (h : IB w g zs) {p : Addr} (hp : g ≠ p.block) (u : Value) : IB (w.setCell p u) g zs := by
  obtain ⟨cur, h1, h2⟩ := h; exact ⟨cur, h1.away hp u, h2⟩
theorem IB.frozen {w : World} {g : Nat} {zs : List Int} (h : IB w g zs) (j : Nat) : w.frozen? ⟨g, j, none⟩ = false := by
  obtain ⟨cur, h1, -⟩ := h; exact Blk.frozen h1 j
theorem IB.put {w : World} {g : Nat} {zs : List Int} (h : IB w g zs) (j : Nat) (z : Int) : IB (w.setCell ⟨g, j, none⟩ (.int .i64 z)) g (zs.set j z) := by
  obtain ⟨cur, h1, h2, h3⟩ := h
  refine ⟨_, Blk.put h1 j _, by simpa using h2, fun i hi => ?_⟩
  rw [List.length_set] at hi
  have := h3 i hi
  rw [Array.getElem?_setIfInBounds, List.getD_eq_getElem?_getD, List.getElem?_set]
  by_cases hj : j = i
  · subst hj
    rw [if_pos rfl, if_pos rfl, if_pos (by omega), if_pos hi]
    rfl
  · rw [if_neg hj, if_neg hj, this, List.getD_eq_getElem?_getD]
theorem IB.reads {w : World} {g : Nat} {zs : List Int} (h : IB w g zs) (hm : zs.length ≤ maxLen) (cap : Nat) : Reads w (.slice (some ⟨g, 0, none⟩) zs.length cap) zs :=
  reads_mk rfl hm fun j hj => by rw [Nat.zero_add]; exact h.cell hj
theorem IB.zeros (w : World) (n : Nat) : IB (w.alloc (.cells (Array.replicate n (Value.int .i64 0)) 3)) w.heap.size (List.replicate n 0) := by
  refine ⟨_, Blk.made _ _ _, by simp, fun j hj => ?_⟩
  rw [List.length_replicate] at hj
  rw [Array.getElem?_replicate, if_pos hj, List.getD_eq_getElem?_getD, List.getElem?_replicate, if_pos hj]
  rfl

theorem search_is (v : Value) (hs : List Int) (n : Int) (w : World) (hr : Reads w v hs) (hl : hs.length ≤ 60) (hp : hs.Pairwise (· ≤ ·)) :
    Calls Try.prog 20 #[v, .int .i64 n] w fun e w' => (∃ b : Bool, e = .returned (.tuple #[.int .i64 ((hs.countP (· < n) : Nat) : Int), .bool b])) ∧ Kpt w w' := by
  rcases hr.cell with ⟨rfl, a, cap, rfl⟩ | ⟨_, b, off, cap, rfl, hc⟩
  · refine (Try.slices_BinarySearch_int_empty a cap n w).mono ?_
    rintro e w' ⟨rfl, rfl⟩
    exact ⟨⟨_, rfl⟩, Kpt.refl _⟩
  · have h := Try.slices_BinarySearch_int b off hs.length cap hs n w (Nat.le_refl _) (by omega) hc (by rw [List.take_length]; exact hp)
    rw [List.take_length] at h
    refine h.mono ?_
    rintro e w' ⟨rfl, q, rfl⟩
    exact ⟨⟨_, rfl⟩, kpt_drewN _ _⟩

/-- what lies in a round of Ages -/
structure AS (n0 M : Nat) (cv : Array Value) (q : Int) (ev mv : Value) (zs : List Int) (W : World) : Prop where
  bc : Blk W n0 cv 24
  bq : Blk W (n0 + 1) #[.int .i64 q] 3
  be : Blk W (n0 + 2) #[ev] 22
  bm : Blk W (M + 1) #[mv] 22
  im : IB W M zs
theorem AS.kpt {n0 M : Nat} {cv : Array Value} {q : Int} {ev mv : Value} {zs : List Int} {W W' : World} (h : AS n0 M cv q ev mv zs W) (k : Kpt W W') : AS n0 M cv q ev mv zs W' :=
  ⟨h.bc.kpt k, h.bq.kpt k, h.be.kpt k, h.bm.kpt k, h.im.kpt k⟩
theorem AS.own {n0 M : Nat} {cv : Array Value} {q : Int} {ev mv : Value} {zs : List Int} {w w' : World} {row : Option Nat} (h : AS n0 M cv q ev mv zs w) (k : w.grownBy w' row) (hr : ∀ r, row = some r → ∃ o : Obj, w.heap[r]? = some o ∧ o.isCells = false) : AS n0 M cv q ev mv zs w' :=
  ⟨h.bc.own k hr, h.bq.own k hr, h.be.own k hr, h.bm.own k hr, h.im.own k hr⟩
theorem AS.put {n0 M : Nat} {cv : Array Value} {q : Int} {ev mv : Value} {zs : List Int} {W : World} (h : AS n0 M cv q ev mv zs W) (hn : n0 + 2 < M) (j : Nat) (z : Int) : AS n0 M cv q ev mv (zs.set j z) (W.setCell ⟨M, j, none⟩ (.int .i64 z)) :=
  ⟨h.bc.away (by show n0 ≠ M; omega) _, h.bq.away (by show n0 + 1 ≠ M; omega) _, h.be.away (by show n0 + 2 ≠ M; omega) _, h.bm.away (by show M + 1 ≠ M; omega) _, h.im.put j z⟩

end Go.Proofs.Ytagmgpdgiphhbaa
