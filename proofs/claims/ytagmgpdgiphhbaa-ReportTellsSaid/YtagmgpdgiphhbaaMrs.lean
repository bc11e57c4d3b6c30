/-
  Merged: LawRQ, LawRQ3, LawRS.
-/
import Derived.Test.YtagmgpdgiphhbaaMrq
-- LawRQ
namespace Go.Proofs.Ytagmgpdgiphhbaa
open Go.RowKit
set_option linter.unusedVariables false

theorem edge_at {es : List Int} (hs : es.Pairwise (· < ·)) (c : Int) {j : Nat} (hj : j < es.length) : j < es.countP (· < c) ↔ es.getD j 0 < c := by
  induction es generalizing j with
  | nil => simp at hj
  | cons e es ih =>
    obtain ⟨h1, h2⟩ := List.pairwise_cons.1 hs
    rw [List.countP_cons]
    by_cases he : e < c
    · simp only [he, decide_true, if_true]
      cases j with
      | zero => rw [List.getD_cons_zero]; constructor <;> intro _ <;> omega
      | succ j =>
        rw [List.getD_cons_succ, ← ih h2 (by simpa using hj)]
        omega
    · have hz : es.countP (· < c) = 0 := by
        rw [List.countP_eq_zero]
        intro x hx
        have := h1 x hx
        simp only [decide_eq_true_eq]
        omega
      have hd : decide (e < c) = false := decide_eq_false he
      rw [hz, hd]
      simp only [Bool.false_eq_true, if_false]
      cases j with
      | zero => rw [List.getD_cons_zero]; constructor <;> intro _ <;> omega
      | succ j =>
        rw [List.getD_cons_succ]
        have hj' : j < es.length := by simpa using hj
        have hm : es.getD j 0 ∈ es := by rw [List.getD_eq_getElem?_getD, List.getElem?_eq_getElem hj']; simp
        have := h1 _ hm
        constructor <;> intro _ <;> omega
theorem edge_last {es : List Int} (hs : es.Pairwise (· < ·)) {j : Nat} (hj : j < es.length) : es.getD j 0 ≤ es.getD (es.length - 1) 0 := by
  rcases Nat.eq_or_lt_of_le (show j ≤ es.length - 1 by omega) with e | e
  · rw [← e]; exact Int.le_refl _
  · have := (List.pairwise_iff_getElem.1 hs) j (es.length - 1) hj (by omega) e
    rw [List.getD_eq_getElem?_getD, List.getElem?_eq_getElem hj, List.getD_eq_getElem?_getD, List.getElem?_eq_getElem (by omega : es.length - 1 < es.length)]
    simp only [Option.getD_some]
    omega
/-- the count that stops one behind the last edge tells the edges that are reached -/
theorem edge_min {es : List Int} (hs : es.Pairwise (· < ·)) (C : Int) {j : Nat} (hj : j < es.length) : j < es.countP (· < C + 1) ↔ es.getD j 0 ≤ min C (es.getD (es.length - 1) 0 + 1) := by
  rw [edge_at hs (C + 1) hj]
  have := edge_last hs hj
  omega
/-- the counts of the first k fails -/
def ageC (W : Int) (hs : List Int) (q : Int) (es : List Int) (fs : List (List Int)) (k : Nat) : List Int := ageT W hs q es fs (opn fs k)
theorem ageC_0 (W : Int) (hs : List Int) (q : Int) (es : List Int) (fs : List (List Int)) : ageC W hs q es fs 0 = List.replicate (es.length + 1) 0 := by
  have : opn fs 0 = [] := by unfold opn; simp
  unfold ageC ageT
  rw [this, tal_nil]
theorem ageC_same {W : Int} {hs : List Int} {q : Int} {es : List Int} {fs : List (List Int)} {k : Nat} (hk : k < fs.length) (h : openL (fs.getD k []) = 0 ∨ q ≤ (fs.getD k []).getD 5 0) : ageC W hs q es fs (k + 1) = ageC W hs q es fs k := by
  unfold ageC
  rw [opn_s hk]
  by_cases e : 0 < openL (fs.getD k [])
  · rw [if_pos e]
    exact tal_0 _ _ _ _ (by
      show ageV q (fs.getD k []) = 0
      unfold ageV
      rw [if_neg (by omega)])
  · rw [if_neg e, List.append_nil]
theorem ageC_more {W : Int} {hs : List Int} {q : Int} {es : List Int} {fs : List (List Int)} {k : Nat} (hk : k < fs.length) (h1 : 0 < openL (fs.getD k [])) (h2 : (fs.getD k []).getD 5 0 < q) :
    ageC W hs q es fs (k + 1) = (ageC W hs q es fs k).set (ageK W hs q es (fs.getD k [])) ((ageC W hs q es fs k).getD (ageK W hs q es (fs.getD k [])) 0 + 1) := by
  unfold ageC
  rw [opn_s hk, if_pos h1]
  have := tal_s (m := es.length + 1) (fun x : Fin fs.length => ageK W hs q es (fs.getD x.1 [])) (fun x => ageV q (fs.getD x.1 [])) (opn fs k) ⟨k, hk⟩ (by
    show ageK W hs q es (fs.getD k []) < es.length + 1
    unfold ageK
    have := List.countP_le_length (p := fun e => decide (e < couR W hs ((fs.getD k []).getD 5 0) q + 1)) (l := es)
    omega)
  have hv : ageV q (fs.getD k []) = 1 := by unfold ageV; rw [if_pos h2]
  unfold ageT
  rw [this]
  show _ = _
  simp only [hv]
theorem ageC_bd (W : Int) (hs : List Int) (q : Int) (es : List Int) {fs : List (List Int)} {k : Nat} (hk : k ≤ fs.length) (j : Nat) : 0 ≤ (ageC W hs q es fs k).getD j 0 ∧ (ageC W hs q es fs k).getD j 0 ≤ k := by
  have := tal_bd (m := es.length + 1) (c := 1) (fun x : Fin fs.length => ageK W hs q es (fs.getD x.1 [])) (fun x => ageV q (fs.getD x.1 [])) (by decide) (fun x => by unfold ageV; split <;> omega) (opn fs k) j
  have h := opn_len fs k
  unfold ageC ageT
  omega

set_option maxRecDepth 100000 in
set_option maxHeartbeats 8000000 in
theorem rq_both (W q m E1 E2 : Int) (v lv ev pv : Value) (n1 n2 n3 : Nat) (w : World) (h1 : ∃ a cap, lv = .slice a n1 cap) (h2 : ∃ a cap, ev = .slice a n2 cap) (h3 : ∃ a cap, pv = .slice a n3 cap) (hE1 : E1 ≠ 0) (hE2 : E2 ≠ 0)
    (AG : ∀ w', Kpt w w' → Calls Try.prog 4 #[.agg #[.int .i64 W, v], lv, .int .i64 q, ev] w' fun e w'' => ∃ a cap, e = .returned (.tuple #[.slice a 0 cap, .int .i64 E1]) ∧ Kpt w' w'')
    (PA : ∀ w', Kpt w w' → Calls Try.prog 5 #[lv] w' fun e w'' => ∃ a cap b cap', e = .returned (.tuple #[.slice a 0 cap, .slice b 0 cap', .int .i64 E2]) ∧ Kpt w' w'')
    (TP : ∀ w', Kpt w w' → Calls Try.prog 6 #[lv, pv, .int .i64 m] w' fun e w'' => e = .returned (.tuple #[.slice none 0 0, .int .i64 E2]) ∧ Kpt w' w'')
    (RT : ∀ w', Kpt w w' → Calls Try.prog 7 #[lv] w' fun e w'' => e = .returned (.tuple #[.int .i64 0, .int .i64 E2]) ∧ Kpt w' w'')
    (RE : ∀ w', Kpt w w' → Calls Try.prog 8 #[.agg #[.int .i64 W, v], lv, .int .i64 q, ev] w' fun e w'' => e = .returned (.int .i64 E1) ∧ Kpt w' w'')
    (FC : ∀ w', Kpt w w' → Calls Try.prog 9 #[lv] w' fun e w'' => e = .returned (.int .i64 E2) ∧ Kpt w' w'') :
    Calls Try.prog 3 #[calV W v, lv, .int .i64 q, ev, pv, .int .i64 m] w fun e w' => e = .returned (.bool true) ∧ Kpt w w' := by
  have AG := Lib.hid AG
  have PA := Lib.hid PA
  have TP := Lib.hid TP
  have RT := Lib.hid RT
  have RE := Lib.hid RE
  have FC := Lib.hid FC
  have SE : Hid (∀ (a b : Option Addr) (c d : Nat) (w' : World), Calls Try.prog 16 #[.slice a 0 c, .slice b 0 d] w' fun e w'' => e = .returned (.bool true) ∧ Kpt w' w'') := fun a b c d w' => sameI_run _ _ [] w' (reads_nil w' a c) (reads_nil w' b d)
  have KC : Hid (Kpt w (w.alloc (.cells #[.int .i64 W, v] 24))) := (Kpt.refl w).alloc _
  have B0 : Hid (Blk (w.alloc (.cells #[.int .i64 W, v] 24)) w.heap.size #[.int .i64 W, v] 24) := Blk.made _ _ _
  have e1 : (E1 == 0) = false := beq_eq_false_iff_ne.2 hE1
  have e2 : (E2 == 0) = false := beq_eq_false_iff_ne.2 hE2
  obtain ⟨a, cap, rfl⟩ := h1
  obtain ⟨a', cap', rfl⟩ := h2
  obtain ⟨a'', cap'', rfl⟩ := h3
  unfold calV
  clear hE1 hE2
  go_enter Try.func3, Try.ntmps3
  go_wp2_with (first
    | (go_at_call 4; (with_reducible refine (AG.out _ KC.out).mono ?_); rintro z w1 ⟨aa, ac, rfl, kk⟩; have KC := Lib.hid (ktr KC.out kk); have B0 := Lib.hid (B0.out.kpt kk); clear kk)
    | (go_at_call 5; (with_reducible refine (PA.out _ KC.out).mono ?_); rintro z w2 ⟨xa, xc, ya, yc, rfl, kk⟩; have KC := Lib.hid (ktr KC.out kk); have B0 := Lib.hid (B0.out.kpt kk); clear kk)
    | (go_at_call 6; (with_reducible refine (TP.out _ KC.out).mono ?_); rintro z w3 ⟨rfl, kk⟩; have KC := Lib.hid (ktr KC.out kk); have B0 := Lib.hid (B0.out.kpt kk); clear kk)
    | (go_at_call 7; (with_reducible refine (RT.out _ KC.out).mono ?_); rintro z w4 ⟨rfl, kk⟩; have KC := Lib.hid (ktr KC.out kk); have B0 := B0.out.kpt kk; have b0 : World.cell? w4 ⟨w.heap.size, 0, none⟩ = some (.int .i64 W) := B0.cell 0; have b1 : World.cell? w4 ⟨w.heap.size, 1, none⟩ = some v := B0.cell 1; clear kk)
    | (go_at_call 8; (with_reducible refine (RE.out _ KC.out).mono ?_); rintro z w5 ⟨rfl, kk⟩; have KC := Lib.hid (ktr KC.out kk); clear kk)
    | (go_at_call 9; (with_reducible refine (FC.out _ KC.out).mono ?_); rintro z w6 ⟨rfl, kk⟩; have KC := Lib.hid (ktr KC.out kk); clear kk)
    | (go_at_call 15; (with_reducible refine (reportBegun _).mono ?_); rintro z w7 ⟨rfl, kk⟩; have KC := Lib.hid (ktr KC.out kk); clear kk)
    | (go_at_call 16; (with_reducible refine (SE.out _ _ _ _ _).mono ?_); rintro z w8 ⟨rfl, kk⟩; have KC := Lib.hid (ktr KC.out kk); clear kk))
  go_ret
  exact ⟨rfl, KC.out⟩

end Go.Proofs.Ytagmgpdgiphhbaa

-- LawRQ3
namespace Go.Proofs.Ytagmgpdgiphhbaa
open Go.RowKit
set_option linter.unusedVariables false

theorem ReadsF.sl {w : World} {a : Option Addr} {n cap : Nat} {fs : List (List Int)} (h : ReadsF w (.slice a n cap) fs) : ∀ k, k < fs.length → ∃ g off, a = some ⟨g, off, none⟩ ∧ FlAt w g (off + k * 10) (fs.getD k []) := by
  obtain ⟨a', cap', e, -, -, hc⟩ := h
  simp only [Value.slice.injEq] at e
  obtain ⟨rfl, _, _⟩ := e
  exact hc
theorem take_s {xs : List Int} {k : Nat} (h : k < xs.length) : xs.take (k + 1) = xs.take k ++ [xs.getD k 0] := by
  have e : xs.getD k 0 = xs[k] := by rw [List.getD_eq_getElem?_getD, List.getElem?_eq_getElem h]; rfl
  rw [List.take_succ_eq_append_getElem h, e]
/-- prices that are right, and so many that they are wrong -/
def badB (e m : Int) : Bool := decide (e = 0 ∧ (m < 0 ∨ 60 < m))
theorem bad_t {e m : Int} (h : e = 0) (k : m < 0 ∨ 60 < m) : badB e m = true := decide_eq_true ⟨h, k⟩
theorem bad_f {e m : Int} (h : ¬ (e = 0 ∧ (m < 0 ∨ 60 < m))) : badB e m = false := decide_eq_false h
/-- what Top answers, whatever it is handed -/
def tlO (ps : List Int) (fs : List (List Int)) (m : Int) : List Int := if topE fs ps m = 0 then topN (qsO ps fs) m else []
theorem topX_any (m : Int) (fv pv : Value) (ps : List Int) (fs : List (List Int)) (w : World) (hF : ReadsF w fv fs) (hP : Reads w pv ps) :
    Calls Try.prog 6 #[fv, pv, .int .i64 m] w fun e w' => ∃ a cap, e = .returned (.tuple #[.slice a (tlO ps fs m).length cap, .int .i64 (topE fs ps m)]) ∧ Reads w' (.slice a (tlO ps fs m).length cap) (tlO ps fs m) ∧ Kpt w w' := by
  by_cases h : topE fs ps m = 0
  · have e0 : tlO ps fs m = topN (qsO ps fs) m := if_pos h
    rw [h, e0]
    refine (top_at fv pv ps fs m w hF hP h).mono ?_
    rintro e w' ⟨a, cap, rfl, -, hr, hk⟩
    exact ⟨a, cap, rfl, hr, hk⟩
  · have e0 : tlO ps fs m = [] := if_neg h
    rw [e0]
    refine (top_bad m fv pv ps fs w hF hP h).mono ?_
    rintro e w' ⟨rfl, hk⟩
    exact ⟨none, 0, rfl, reads_nil w' none 0, hk⟩
theorem cou_is {W q : Int} {hs es : List Int} {fs : List (List Int)} (h : ageQ W hs fs q es = 0) {k : Nat} (hk : k < fs.length) (hd : (fs.getD k []).getD 5 0 < q) : couR W hs ((fs.getD k []).getD 5 0) q = ((cnt (bizB W hs) ((fs.getD k []).getD 5 0) q : Nat) : Int) := by
  obtain ⟨h1, h2, h3, h4⟩ := ageQ_0 h
  have fb := fail_bd ((checksE_0 h2).2 _ (getF_mem hk))
  have hz : daysE W hs [(fs.getD k []).getD 5 0, q] = 0 := by
    unfold daysE
    rw [if_pos h1]
    have b1 : dayB ((fs.getD k []).getD 5 0) = true := decide_eq_true (by omega)
    have b2 : dayB q = true := decide_eq_true (by omega)
    unfold dysE
    rw [if_pos (by rw [List.all_cons, List.all_cons, List.all_nil, b1, b2]; rfl)]
  unfold couR
  rw [if_pos hz, if_neg (by omega)]
theorem last_bd {es : List Int} (h : edgE es = 0) : 0 ≤ es.getD (es.length - 1) 0 ∧ es.getD (es.length - 1) 0 ≤ 3652058 := by
  obtain ⟨-, -, hb⟩ := edgE_0 h
  by_cases e : es = []
  · subst e; decide
  · have hl : es.length - 1 < es.length := by have := List.length_pos_iff.2 e; omega
    have := hb (es.getD (es.length - 1) 0) (by rw [List.getD_eq_getElem?_getD, List.getElem?_eq_getElem hl]; simp)
    omega
/-- how many edges are reached, told by the count that stops -/
theorem key_is {W q : Int} {hs es : List Int} {fs : List (List Int)} (h : ageQ W hs fs q es = 0) {k : Nat} (hk : k < fs.length) (hd : (fs.getD k []).getD 5 0 < q) {j : Nat} (hj : j < es.length) :
    j < ageK W hs q es (fs.getD k []) ↔ es.getD j 0 ≤ min ((cnt (bizB W hs) ((fs.getD k []).getD 5 0) q : Nat) : Int) (es.getD (es.length - 1) 0 + 1) := by
  unfold ageK
  rw [cou_is h hk hd]
  exact edge_min (edgE_0 (ageQ_0 h).2.2.2).2.1 _ hj
theorem key_le (W q : Int) (hs es l : List Int) : ageK W hs q es l ≤ es.length := by
  unfold ageK
  exact List.countP_le_length


set_option maxRecDepth 100000 in
set_option maxHeartbeats 16000000 in
theorem rq_all (W q m : Int) (v lv ev pv : Value) (hs es ps : List Int) (fs : List (List Int)) (w : World) (hr : Reads w v hs) (hf : Fits hs) (hF : ReadsF w lv fs) (hE : Reads w ev es) (hP : Reads w pv ps) :
    Calls Try.prog 3 #[calV W v, lv, .int .i64 q, ev, pv, .int .i64 m] w fun e w' => e = .returned (.bool true) ∧ Kpt w w' := by
  have AG := Lib.hid (fun w' (k : Kpt w w') => ages_any W q v lv ev hs es fs w' (hr.kpt k) hf (hF.kpt k) (hE.kpt k))
  have PA := Lib.hid (fun w' (k : Kpt w w') => parties_any lv fs w' (hF.kpt k))
  have TP := Lib.hid (fun w' (k : Kpt w w') => topX_any m lv pv ps fs w' (hF.kpt k) (hP.kpt k))
  have RT := Lib.hid (fun w' (k : Kpt w w') => rate_run lv fs w' (hF.kpt k))
  have RE := Lib.hid (fun w' (k : Kpt w w') => rre_run W q v lv ev hs es fs w' (hr.kpt k) hf (hF.kpt k) (hE.kpt k))
  have FC := Lib.hid (fun w' (k : Kpt w w') => rfcs_run lv fs w' (hF.kpt k))
  have AN := Lib.hid (fun (d L : Int) w' (k : Kpt w w') => acn_run W d q L v hs w' (hr.kpt k))
  have P1 := Lib.hid (fun (p : Nat) w' (k : Kpt w w') => rpy_1 p lv fs w' (hF.kpt k))
  have P2 := Lib.hid (fun (p : Nat) w' (k : Kpt w w') => rpy_2 p lv fs w' (hF.kpt k))
  have PC := Lib.hid (fun w' (k : Kpt w w') => rprs_run pv ps w' (hP.kpt k))
  have HFF := Lib.hid hF
  have HEE := Lib.hid hE
  have HPP := Lib.hid hP
  have KC : Hid (Kpt w (w.alloc (.cells #[.int .i64 W, v] 24))) := (Kpt.refl w).alloc _
  have B0 : Hid (Blk (w.alloc (.cells #[.int .i64 W, v] 24)) w.heap.size #[.int .i64 W, v] 24) := Blk.made _ _ _
  obtain ⟨a1, cap1, rfl, hm1, -⟩ := id hF
  obtain ⟨a2, cap2, rfl, hm2, hc2⟩ := id hE
  obtain ⟨a3, cap3, rfl, hm3, -⟩ := id hP
  have HCE := Lib.hid hc2
  unfold maxLen at hm1 hm2 hm3
  unfold calV at *
  clear hr hF hE hP hc2
  go_enter Try.func3, Try.ntmps3
  go_upto_if 75 with (first
    | (go_at_call 4; (with_reducible refine (AG.out _ KC.out).mono ?_); rintro z w1 ⟨aa, ac, rfl, ra, kk⟩; replace KC := Lib.hid (ktr KC.out kk); have RA := Lib.hid ra; replace B0 := Lib.hid (B0.out.kpt kk); clear kk ra)
    | (go_at_call 5; (with_reducible refine (PA.out _ KC.out).mono ?_); rintro z w2 ⟨xa, xc, ya, yc, rfl, rx, ry, kk⟩; replace KC := Lib.hid (ktr KC.out kk); have RX := Lib.hid rx; have RY := Lib.hid ry; replace B0 := Lib.hid (B0.out.kpt kk); replace RA := Lib.hid (RA.out.kpt kk); clear kk rx ry)
    | (go_at_call 6; (with_reducible refine (TP.out _ KC.out).mono ?_); rintro z w3 ⟨ta, tc, rfl, rt, kk⟩; replace KC := Lib.hid (ktr KC.out kk); have RTL := Lib.hid rt; replace B0 := Lib.hid (B0.out.kpt kk); replace RA := Lib.hid (RA.out.kpt kk); replace RX := Lib.hid (RX.out.kpt kk); replace RY := Lib.hid (RY.out.kpt kk); clear kk rt)
    | (go_at_call 7; (with_reducible refine (RT.out _ KC.out).mono ?_); rintro z w4 ⟨rfl, kk⟩; replace KC := Lib.hid (ktr KC.out kk); replace B0 := Lib.hid (B0.out.kpt kk); replace RA := Lib.hid (RA.out.kpt kk); replace RX := Lib.hid (RX.out.kpt kk); replace RY := Lib.hid (RY.out.kpt kk); replace RTL := Lib.hid (RTL.out.kpt kk); have b0 : World.cell? w4 ⟨w.heap.size, 0, none⟩ = some (.int .i64 W) := B0.out.cell 0; have b1 : World.cell? w4 ⟨w.heap.size, 1, none⟩ = some v := B0.out.cell 1; clear kk)
    | (go_at_call 8; (with_reducible refine (RE.out _ KC.out).mono ?_); rintro z w5 ⟨rfl, kk⟩; replace KC := Lib.hid (ktr KC.out kk); replace B0 := Lib.hid (B0.out.kpt kk); replace RA := Lib.hid (RA.out.kpt kk); replace RX := Lib.hid (RX.out.kpt kk); replace RY := Lib.hid (RY.out.kpt kk); replace RTL := Lib.hid (RTL.out.kpt kk); clear kk)
    | (go_at_call 9; (with_reducible refine (FC.out _ KC.out).mono ?_); rintro z w6 ⟨rfl, kk⟩; replace KC := Lib.hid (ktr KC.out kk); replace B0 := Lib.hid (B0.out.kpt kk); replace RA := Lib.hid (RA.out.kpt kk); replace RX := Lib.hid (RX.out.kpt kk); replace RY := Lib.hid (RY.out.kpt kk); replace RTL := Lib.hid (RTL.out.kpt kk); clear kk))
  clear b0 b1 AG PA TP RT RE FC
  go_cut [26] from 75 to 138 (fun v26 wx => Hid (Reads wx v26 (ageO W hs q es fs)) ∧ Hid (Kpt w6 wx))
  case first =>
    clear RA RX RY RTL P1 P2 PC HPP HEE hm3
    by_cases hE1 : ageQ W hs fs q es = 0
    · have e1 : (ageQ W hs fs q es == 0) = true := beq_iff_eq.2 hE1
      obtain ⟨hc1, hc2, hc3, hc4⟩ := ageQ_0 hE1
      obtain ⟨h60, hfl⟩ := checksE_0 hc2
      have h40 := (edgE_0 hc4).1
      have LB := Lib.hid (last_bd hc4)
      have HFL := Lib.hid hfl
      have KI := Lib.hid (fun k (hk : k < fs.length) (hd : (fs.getD k []).getD 5 0 < q) j (hj : j < es.length) => key_is hE1 hk hd hj)
      have KL := Lib.hid (fun k => key_le W q hs es (fs.getD k []))
      have A0 := Lib.hid (ageC_0 W hs q es fs)
      have ASM := Lib.hid (fun k (hk : k < fs.length) h => ageC_same (W := W) (hs := hs) (q := q) (es := es) hk h)
      have AM := Lib.hid (fun k (hk : k < fs.length) h1 h2 => ageC_more (W := W) (hs := hs) (q := q) (es := es) hk h1 h2)
      have AB := Lib.hid (fun k (hk : k ≤ fs.length) j => ageC_bd W hs q es hk j)
      have AE : Hid (ageO W hs q es fs = ageC W hs q es fs fs.length) := by unfold Hid ageO ageC; rw [if_pos hE1]
      have AL : Hid (∀ k, (ageC W hs q es fs k).length = es.length + 1) := fun k => tal_len _ _ _ _
      have AN2 := Lib.hid (fun d (h0 : 0 ≤ d) (h1 : d ≤ q) w' (k : Kpt w w') => AN.out d (es.getD (es.length - 1) 0) w' k hc1 h0 h1 hc3.2 LB.out.1 LB.out.2)
      have MK : ∀ w, (Instr.makeSlice 22 (.int .i64 ((es.length : Int) + 1)) (.int .i64 ((es.length : Int) + 1))).run Try.prog w = .ok (.slice (some ⟨w.heap.size, 0, none⟩) (es.length + 1) (es.length + 1)) (w.alloc (.cells (Array.replicate (es.length + 1) (Value.int .i64 0)) 3)) := fun w => by
        have := run_zeros w (es.length + 1) (by omega)
        simpa using this
      have m1 : IntKind.i64.wrap ((es.length : Int) + 1) = (es.length : Int) + 1 := IntWalk.i64_in _ (by omega)
      have mixed : Try.prog.follows .mixedOrders = true := by kernel_rfl
      have HC := Lib.hid HFF.out.sl
      clear hE1 hc1 hc2 hc4 hfl AN
      generalize ageQ W hs fs q es = E1 at *
      rw [e1]
      clear e1
      go_upto_if 82 with fail
      go_cut [31] from 83 to 88 (fun v31 wx => v31 = .int .i64 (es.getD (es.length - 1) 0) ∧ Hid (IB wx w6.heap.size (ageC W hs q es fs 0)) ∧ Hid (Kpt w6 wx))
      case first =>
        have IB0 : Hid (IB (w6.alloc (.cells (Array.replicate (es.length + 1) (Value.int .i64 0)) 3)) w6.heap.size (ageC W hs q es fs 0)) := by unfold Hid; rw [A0.out]; exact IB.zeros w6 _
        have KM : Hid (Kpt w6 (w6.alloc (.cells (Array.replicate (es.length + 1) (Value.int .i64 0)) 3))) := (Kpt.refl w6).alloc _
        by_cases h0 : 0 < es.length
        · have y1 : decide ((0 : Int) < (es.length : Int)) = true := decide_eq_true (by omega)
          obtain ⟨ge, oe, rfl, ce⟩ := HCE.out (es.length - 1) (by omega)
          have ce := (ktr KC.out KM.out).cell ce
          have m2 : IntKind.i64.wrap ((es.length : Int) - 1) = (es.length : Int) - 1 := IntWalk.i64_in _ (by omega)
          have m3 : ((es.length : Int) - 1).toNat = es.length - 1 := by omega
          have m4 : (0 : Int) ≤ (es.length : Int) - 1 := by omega
          have m5 : (es.length : Int) - 1 < (es.length : Int) := by omega
          go_wp2
          go_meet
          case rel => exact ⟨rfl, IB0.out, KM.out⟩
        · have y1 : decide ((0 : Int) < (es.length : Int)) = false := decide_eq_false (by omega)
          have z0 : Hid (es.getD (es.length - 1) 0 = 0) := by
            have : es = [] := List.eq_nil_of_length_eq_zero (by omega)
            subst this; rfl
          go_wp2
          go_meet
          case rel => exact ⟨by rw [z0.out], IB0.out, KM.out⟩
      case rest =>
        obtain ⟨rfl, HI0, HK0⟩ := hcut
        have WC := HK0
        have LL : ∃ L, es.getD (es.length - 1) 0 = L := ⟨_, rfl⟩
        obtain ⟨L, hL⟩ := LL
        have LH := Lib.hid hL
        rw [hL] at KI AN2 ⊢
        clear hL LB MK
        go_wp2
        go_loopw [32] (fun ii wr => ∃ k : Nat, k ≤ fs.length ∧ ii = .int .i64 (k : Int) ∧ Hid (IB wr w6.heap.size (ageC W hs q es fs k)) ∧ Hid (Kpt w6 wr)) (fun ii _ => fs.length - (intOf ii).toNat)
        case atStart => exact ⟨0, Nat.zero_le _, rfl, HI0.out, HK0.out⟩
        case round =>
          obtain ⟨k, hk, rfl, HI, HK⟩ := hrel
          have KW := Lib.hid (ktr KC.out HK.out)
          by_cases hlt : k < fs.length
          · obtain ⟨g, off, rfl, hfa⟩ := HC.out k hlt
            obtain ⟨c0, c1, c2, c3, c4, c5, c6, c7, c8, c9⟩ := fl10 hfa KW.out
            have fb := fail_bd (HFL.out _ (getF_mem hlt))
            have FO := Lib.hid (fun w' => rfo_run ((fs.getD k []).getD 0 0) ((fs.getD k []).getD 1 0) ((fs.getD k []).getD 2 0) ((fs.getD k []).getD 3 0) ((fs.getD k []).getD 4 0) ((fs.getD k []).getD 5 0) ((fs.getD k []).getD 6 0) ((fs.getD k []).getD 7 0) ((fs.getD k []).getD 8 0) ((fs.getD k []).getD 9 0) w' fb.1 (by omega) (by omega) (by omega))
            rw [← fb.2.2.2.2.2.2.2] at FO
            have hU := openL_bd (fs.getD k [])
            have hday := fb.2.2.2.2.2.2.1
            have y1 : decide ((k : Int) < (fs.length : Int)) = true := decide_eq_true (by omega)
            have i0 : (0 : Int) ≤ (k : Int) := by omega
            have i1 : (k : Int) < (fs.length : Int) := by omega
            have m0 : IntKind.i64.wrap ((k : Int) + 1) = (k : Int) + 1 := IntWalk.i64_in _ (by omega)
            clear fb hfa
            by_cases h1 : openL (fs.getD k []) = 0
            · have S := Lib.hid (ASM.out k hlt (.inl h1))
              have q1 : (openL (fs.getD k []) == 0) = true := beq_iff_eq.2 h1
              clear h1 hU hday
              generalize (fs.getD k []).getD 0 0 = z0 at *
              generalize (fs.getD k []).getD 1 0 = z1 at *
              generalize (fs.getD k []).getD 2 0 = z2 at *
              generalize (fs.getD k []).getD 3 0 = z3 at *
              generalize (fs.getD k []).getD 4 0 = z4 at *
              generalize (fs.getD k []).getD 5 0 = z5 at *
              generalize (fs.getD k []).getD 6 0 = z6 at *
              generalize (fs.getD k []).getD 7 0 = z7 at *
              generalize (fs.getD k []).getD 8 0 = z8 at *
              generalize (fs.getD k []).getD 9 0 = z9 at *
              generalize openL (fs.getD k []) = U at *
              go_wp2_with (go_at_call 10; (with_reducible refine (FO.out _).mono ?_); rintro z w7 ⟨rfl, kk⟩; replace HI := Lib.hid (HI.out.kpt kk); replace HK := Lib.hid (ktr HK.out kk); clear kk)
              go_roundw
              case rel => exact ⟨k + 1, by omega, by go_num, by unfold Hid; rw [S.out]; exact HI.out, HK.out⟩
              case measure => simp [intOf]; omega
            · have q1 : (openL (fs.getD k []) == 0) = false := beq_eq_false_iff_ne.2 h1
              by_cases hd : (fs.getD k []).getD 5 0 < q
              · have HU : Hid (0 < openL (fs.getD k [])) := by unfold Hid; omega
                have ki := KI.out k hlt hd
                have kl := KL.out k
                have AM' : Hid (ageC W hs q es fs (k + 1) = (ageC W hs q es fs k).set (ageK W hs q es (fs.getD k [])) ((ageC W hs q es fs k).getD (ageK W hs q es (fs.getD k [])) 0 + 1)) := AM.out k hlt HU.out hd
                have AN3 := Lib.hid (AN2.out ((fs.getD k []).getD 5 0) hday.1 (by omega))
                have q2 : decide (q ≤ (fs.getD k []).getD 5 0) = false := decide_eq_false (by omega)
                clear h1
                generalize ageK W hs q es (fs.getD k []) = K at *
                generalize (fs.getD k []).getD 0 0 = z0 at *
                generalize (fs.getD k []).getD 1 0 = z1 at *
                generalize (fs.getD k []).getD 2 0 = z2 at *
                generalize (fs.getD k []).getD 3 0 = z3 at *
                generalize (fs.getD k []).getD 4 0 = z4 at *
                generalize (fs.getD k []).getD 5 0 = z5 at *
                generalize (fs.getD k []).getD 6 0 = z6 at *
                generalize (fs.getD k []).getD 7 0 = z7 at *
                generalize (fs.getD k []).getD 8 0 = z8 at *
                generalize (fs.getD k []).getD 9 0 = z9 at *
                generalize openL (fs.getD k []) = U at *
                go_upto_region 18 with (go_at_call 10; (with_reducible refine (FO.out _).mono ?_); rintro z w7 ⟨rfl, kk⟩; have HI7 := Lib.hid (HI.out.kpt kk); have HK7 := Lib.hid (ktr HK.out kk); have KW7 := Lib.hid (ktr KW.out kk); have c5 : World.cell? w7 ⟨g, off + k * 10 + 5, none⟩ = some (.int .i64 z5) := kk.cell c5; clear kk)
                have h5 := cell_k (q := w7) (a := ⟨g, off + k * 10 + 5, none⟩) (v := .int .i64 z5) c5
                have b0 := cell_k (q := w7) (a := ⟨w.heap.size, 0, none⟩) (v := .int .i64 W) ((B0.out.kpt HK7.out).cell 0)
                have b1 := cell_k (q := w7) (a := ⟨w.heap.size, 1, none⟩) (v := v) ((B0.out.kpt HK7.out).cell 1)
                have AN4 := Lib.hid (fun p : KptTo w7 => AN3.out p.w (ktr KW7.out p.h))
                clear c0 c1 c2 c3 c4 c5 c6 c7 c8 c9 AN3
                generalize min ((cnt (bizB W hs) z5 q : Nat) : Int) (L + 1) = N at *
                refine quiet_k (q := w7) mixed (by kernel_rfl) ?_
                repeat (go_big_quiet_step ((go_at_call 11; with_reducible refine calls_k (AN4.out _))))
                refine wpQuiet_nil ?_
                intro w8 hw1
                obtain ⟨⟨wz, kz⟩, hw2⟩ := hw1
                have hw3 : w8 = wz := hw2
                clear hw2
                subst hw3
                have HIz := Lib.hid (HI7.out.kpt kz)
                have HKz := Lib.hid (ktr HK7.out kz)
                have KWz := Lib.hid (ktr KW7.out kz)
                clear kz h5 b0 b1
                go_wp2
                go_loop [34] (fun ii => ∃ j : Nat, j ≤ K ∧ ii = .int .i64 (j : Int)) (fun ii => es.length - (intOf ii).toNat)
                case atStart => exact ⟨0, Nat.zero_le _, rfl⟩
                case round =>
                  obtain ⟨j, hj, rfl⟩ := hrel
                  by_cases hje : j < es.length
                  · obtain ⟨ge, oe, rfl, ce⟩ := HCE.out j hje
                    have ce := KWz.out.cell ce
                    have kj := ki j hje
                    have y3 : decide ((j : Int) < (es.length : Int)) = true := decide_eq_true (by omega)
                    have j0 : (0 : Int) ≤ (j : Int) := by omega
                    have j1 : (j : Int) < (es.length : Int) := by omega
                    have mj : IntKind.i64.wrap ((j : Int) + 1) = (j : Int) + 1 := IntWalk.i64_in _ (by omega)
                    clear ki
                    by_cases hx : es.getD j 0 ≤ N
                    · have y4 : decide (es.getD j 0 ≤ N) = true := decide_eq_true hx
                      have hj2 := kj.2 hx
                      clear kj hx
                      generalize es.getD j 0 = ej at *
                      go_wp2
                      go_round
                      case rel => exact ⟨j + 1, by omega, by go_num⟩
                      case measure => simp [intOf]; omega
                    · have y4 : decide (es.getD j 0 ≤ N) = false := decide_eq_false hx
                      have hj2 : K ≤ j := by
                        rcases Nat.lt_or_ge j K with h | h
                        · exact absurd (kj.1 h) hx
                        · exact h
                      clear kj hx
                      generalize es.getD j 0 = ej at *
                      obtain rfl : j = K := by omega
                      have c0 := HIz.out.cell (j := j) (by rw [AL.out]; omega)
                      have fz := HIz.out.frozen j
                      have ab := AB.out k hk j
                      have am := AM'.out
                      have kl : j < es.length + 1 := by omega
                      have HX : Hid (∀ z, (ageC W hs q es fs k).getD j 0 = z → IB (w8.setCell ⟨w6.heap.size, j, none⟩ (.int .i64 (z + 1))) w6.heap.size (ageC W hs q es fs (k + 1))) := fun z hz => by rw [am, hz]; exact HIz.out.put j (z + 1)
                      have HX2 := Lib.hid (HX.out _ rfl)
                      have HK9 : Hid (∀ z, Kpt w6 (w8.setCell ⟨w6.heap.size, j, none⟩ z)) := fun z => Below.setCell HKz.out (Nat.le_refl _) z
                      clear am HX HU AM'
                      generalize (ageC W hs q es fs k).getD j 0 = x at *
                      have mx : IntKind.i64.wrap (x + 1) = x + 1 := IntWalk.i64_in _ (by omega)
                      have j0 : (0 : Int) ≤ (j : Int) := by omega
                      have j1 : (j : Int) < (es.length : Int) + 1 := by omega
                      go_wp2
                      go_roundw
                      case rel => exact ⟨k + 1, by omega, by go_num, HX2.out, HK9.out _⟩
                      case measure => simp [intOf]; omega
                  · have y3 : decide ((j : Int) < (es.length : Int)) = false := decide_eq_false (by omega)
                    clear ki
                    obtain rfl : j = K := by omega
                    have c0 := HIz.out.cell (j := j) (by rw [AL.out]; omega)
                    have fz := HIz.out.frozen j
                    have ab := AB.out k hk j
                    have am := AM'.out
                    have kl : j < es.length + 1 := by omega
                    have HX : Hid (∀ z, (ageC W hs q es fs k).getD j 0 = z → IB (w8.setCell ⟨w6.heap.size, j, none⟩ (.int .i64 (z + 1))) w6.heap.size (ageC W hs q es fs (k + 1))) := fun z hz => by rw [am, hz]; exact HIz.out.put j (z + 1)
                    have HX2 := Lib.hid (HX.out _ rfl)
                    have HK9 : Hid (∀ z, Kpt w6 (w8.setCell ⟨w6.heap.size, j, none⟩ z)) := fun z => Below.setCell HKz.out (Nat.le_refl _) z
                    clear am HX HU AM'
                    generalize (ageC W hs q es fs k).getD j 0 = x at *
                    have mx : IntKind.i64.wrap (x + 1) = x + 1 := IntWalk.i64_in _ (by omega)
                    have j0 : (0 : Int) ≤ (j : Int) := by omega
                    have j1 : (j : Int) < (es.length : Int) + 1 := by omega
                    go_wp2
                    go_roundw
                    case rel => exact ⟨k + 1, by omega, by go_num, HX2.out, HK9.out _⟩
                    case measure => simp [intOf]; omega
              · have S := Lib.hid (ASM.out k hlt (.inr (by omega)))
                have q2 : decide (q ≤ (fs.getD k []).getD 5 0) = true := decide_eq_true (by omega)
                clear h1 hU hday hd
                generalize (fs.getD k []).getD 0 0 = z0 at *
                generalize (fs.getD k []).getD 1 0 = z1 at *
                generalize (fs.getD k []).getD 2 0 = z2 at *
                generalize (fs.getD k []).getD 3 0 = z3 at *
                generalize (fs.getD k []).getD 4 0 = z4 at *
                generalize (fs.getD k []).getD 5 0 = z5 at *
                generalize (fs.getD k []).getD 6 0 = z6 at *
                generalize (fs.getD k []).getD 7 0 = z7 at *
                generalize (fs.getD k []).getD 8 0 = z8 at *
                generalize (fs.getD k []).getD 9 0 = z9 at *
                generalize openL (fs.getD k []) = U at *
                go_wp2_with (go_at_call 10; (with_reducible refine (FO.out _).mono ?_); rintro z w7 ⟨rfl, kk⟩; have c5 : World.cell? w7 ⟨g, off + k * 10 + 5, none⟩ = some (.int .i64 z5) := kk.cell c5; replace HI := Lib.hid (HI.out.kpt kk); replace HK := Lib.hid (ktr HK.out kk); clear kk)
                go_roundw
                case rel => exact ⟨k + 1, by omega, by go_num, by unfold Hid; rw [S.out]; exact HI.out, HK.out⟩
                case measure => simp [intOf]; omega
          · have y1 : decide ((k : Int) < (fs.length : Int)) = false := decide_eq_false (by omega)
            have R9 : Hid (Reads wr (.slice (some ⟨w6.heap.size, 0, none⟩) (es.length + 1) (es.length + 1)) (ageO W hs q es fs)) := by
              unfold Hid
              have e : k = fs.length := by omega
              have h := HI.out
              rw [e, ← AE.out] at h
              have hl := AL.out fs.length
              rw [← AE.out] at hl
              have := h.reads (by unfold maxLen; omega) (es.length + 1)
              rw [hl] at this
              exact this
            go_wp2
            go_meet
            case rel => exact ⟨R9.out, HK.out⟩
    · have e1 : (ageQ W hs fs q es == 0) = false := beq_eq_false_iff_ne.2 hE1
      have e0 : Hid (ageO W hs q es fs = []) := if_neg hE1
      clear hE1
      generalize ageQ W hs fs q es = E1 at *
      go_wp2
      go_meet
      case rel => exact ⟨by unfold Hid; rw [e0.out]; exact reads_nil _ _ _, Kpt.refl _⟩
  case rest =>
    obtain ⟨RA2, HK⟩ := hcut
    replace KC := Lib.hid (ktr KC.out HK.out)
    replace RA := Lib.hid (RA.out.kpt HK.out); replace RX := Lib.hid (RX.out.kpt HK.out); replace RY := Lib.hid (RY.out.kpt HK.out); replace RTL := Lib.hid (RTL.out.kpt HK.out)
    clear HK
    obtain ⟨a26, c26, rfl, -⟩ := id RA2.out
    go_upto_if 140 with fail
    go_cut [24, 25, 27, 28, 29, 30] from 140 to 201 (fun v24 v25 v27 v28 v29 v30 wx => v24 = .int .i64 (topE fs ps m) ∧ v25 = .int .i64 (ratE fs) ∧ Hid (Reads wx v27 (ptyO 1 fs)) ∧ Hid (Reads wx v28 (ptyO 2 fs)) ∧ Hid (Reads wx v29 (tlO ps fs m)) ∧ v30 = .int .i64 (ratR fs) ∧ Hid (Kpt wc wx))
    case first =>
      clear RA RX RY RTL RA2 AN B0 HEE HCE
      by_cases hE2 : checksE fs = 0
      · have e2 : (checksE fs == 0) = true := beq_iff_eq.2 hE2
        obtain ⟨h60, hfl⟩ := checksE_0 hE2
        have HFL := Lib.hid hfl
        have XL := Lib.hid (pty_len (c := 1) hE2)
        have YL := Lib.hid (pty_len (c := 2) hE2)
        have XT := Lib.hid (fun k (h : k < (ptyO 1 fs).length) => take_s h)
        have YT := Lib.hid (fun k (h : k < (ptyO 2 fs).length) => take_s h)
        have X31 : Hid ((ptyO 1 fs).take 31 = ptyO 1 fs) := by unfold Hid; rw [List.take_of_length_le (Nat.le_of_eq XL.out)]
        have Y31 : Hid ((ptyO 2 fs).take 31 = ptyO 2 fs) := by unfold Hid; rw [List.take_of_length_le (Nat.le_of_eq YL.out)]
        have R1 := Lib.hid (fun (p : Nat) (hp : p < 31) w' (k : Kpt w w') => by have h := P1.out p w' k hfl h60; rw [← ptyG_is hp hE2] at h; exact h)
        have R2 := Lib.hid (fun (p : Nat) (hp : p < 31) w' (k : Kpt w w') => by have h := P2.out p w' k hfl h60; rw [← ptyG_is hp hE2] at h; exact h)
        have TE : Hid (topE fs ps m = orE (prsE ps) (mnyE m)) := by unfold Hid topE orE; rw [if_pos hE2]
        have EE : Hid (ratE fs = if fs.length = 0 then 5 else 0) := by unfold Hid ratE; rw [if_pos hE2]
        have RR : Hid (ratR fs = if ratE fs = 0 then sumF 7 fs * 10000 / sumF 6 fs else 0) := rfl
        have TO : Hid (tlO ps fs m = if topE fs ps m = 0 then topN (qsO ps fs) m else []) := rfl
        have QS := Lib.hid (qs_ok (ps := ps) hE2)
        have S7 := Lib.hid (fun k (h : k < fs.length) => sumF_s (c := 7) h)
        have S6 := Lib.hid (fun k (h : k < fs.length) => sumF_s (c := 6) h)
        have SB := Lib.hid (fun k => sumF_bd (take_fl hfl k))
        have HT := Lib.hid (List.take_length (l := fs))
        have x7 : Hid (sumF 7 (fs.take 0) = 0) := rfl
        have x6 : Hid (sumF 6 (fs.take 0) = 0) := rfl
        have HLL := Lib.hid (fun k => List.length_take_le k fs)
        have BD := Lib.hid (fun k (h : k < fs.length) => fail_bd (hfl _ (getF_mem h)))
        have CE0 : Hid (checksE fs = 0) := hE2
        have HC := Lib.hid HFF.out.sl
        clear hE2 hfl P1 P2
        generalize checksE fs = E2 at *
        rw [e2]
        clear e2
        go_wp2
        go_loopw [27, 28, 35] (fun fv tv pp wr => ∃ k : Nat, k ≤ 31 ∧ pp = .int .i64 (k : Int) ∧ Hid (Owns wr wc.heap.size fv ((ptyO 1 fs).take k)) ∧ Hid (Owns wr wc.heap.size tv ((ptyO 2 fs).take k)) ∧ Hid (Apart fv tv ∧ Apart tv fv) ∧ Hid (Kpt wc wr)) (fun fv tv pp _ => 31 - (intOf pp).toNat)
        case atStart => exact ⟨0, by omega, rfl, ⟨rfl, .inl ⟨rfl, rfl⟩⟩, ⟨rfl, .inl ⟨rfl, rfl⟩⟩, ⟨.inl rfl, .inl rfl⟩, Kpt.refl _⟩
        case round =>
          obtain ⟨k, hk, rfl, HO1, HO2, HA, HK⟩ := hrel
          obtain ⟨b1, d1, rfl, -⟩ := HO1.out.reads
          obtain ⟨b2, d2, rfl, -⟩ := HO2.out.reads
          have l1 : ((ptyO 1 fs).take k).length = k := by rw [List.length_take, XL.out]; omega
          have l2 : ((ptyO 2 fs).take k).length = k := by rw [List.length_take, YL.out]; omega
          rw [l1] at HO1
          rw [l2] at HO2
          rw [l1, l2] at HA ⊢
          clear l1 l2
          by_cases hlt : k < 31
          · have y1 : decide ((k : Int) ≤ 30) = true := decide_eq_true (by omega)
            have m0 : IntKind.i64.wrap ((k : Int) + 1) = (k : Int) + 1 := IntWalk.i64_in _ (by omega)
            have KX : Hid (Kpt w wr) := ktr KC.out HK.out
            have Q1 := Lib.hid (fun w' (h : Kpt w w') => R1.out k hlt w' h)
            have Q2 := Lib.hid (fun w' (h : Kpt w w') => R2.out k hlt w' h)
            have X1 := Lib.hid (XT.out k (by rw [XL.out]; exact hlt))
            have Y1 := Lib.hid (YT.out k (by rw [YL.out]; exact hlt))
            have L1 : Hid (((ptyO 1 fs).take k).length + 1 ≤ 1000000) := by unfold Hid; rw [List.length_take]; omega
            have L2 : Hid (((ptyO 2 fs).take k).length + 1 ≤ 1000000) := by unfold Hid; rw [List.length_take]; omega
            clear R1 R2 XT YT X31 Y31
            generalize (ptyO 1 fs).take k = z1 at *
            generalize (ptyO 2 fs).take k = z2 at *
            generalize (ptyO 1 fs).getD k 0 = x at *
            generalize (ptyO 2 fs).getD k 0 = y at *
            go_wp2_with (first
              | (go_at_call 12; (with_reducible refine (Q1.out _ KX.out).mono ?_); rintro z w7 ⟨rfl, kk⟩; replace KX := Lib.hid (ktr KX.out kk); replace HK := Lib.hid (ktr HK.out kk); replace HO1 := Lib.hid (HO1.out.below kk (Nat.le_refl _)); replace HO2 := Lib.hid (HO2.out.below kk (Nat.le_refl _)); clear kk)
              | (go_at_call 12; (with_reducible refine (Q2.out _ KX.out).mono ?_); rintro z w8 ⟨rfl, kk⟩; replace KX := Lib.hid (ktr KX.out kk); replace HK := Lib.hid (ktr HK.out kk); replace HO1 := Lib.hid (HO1.out.below kk (Nat.le_refl _)); replace HO2 := Lib.hid (HO2.out.below kk (Nat.le_refl _)); clear kk)
              | (at_builtin; refine wp_append2 rfl (.tmp 145) (.tmp 149) rfl wc.heap.size _ _ x _ rfl HO1.out rfl L1.out HK.out.size _ _ HO2.out HA.out.2 ?_; intro v' w9 o1 o2 o3 o4 o5; obtain ⟨b3, d3, rfl, -⟩ := o1.reads; have HO1 := Lib.hid o1; replace HK := Lib.hid (HK.out.trans o2); have KX := Lib.hid (ktr KC.out HK.out); have HO2 := Lib.hid o3; have HA := Lib.hid (And.intro o5 o4); clear o1 o2 o3 o4 o5)
              | (at_builtin; refine wp_append2 rfl (.tmp 151) (.tmp 155) rfl wc.heap.size _ _ y _ rfl HO2.out rfl L2.out HK.out.size _ _ HO1.out HA.out.1 ?_; intro v' w9 o1 o2 o3 o4 o5; obtain ⟨b4, d4, rfl, -⟩ := o1.reads; have HO2 := Lib.hid o1; replace HK := Lib.hid (HK.out.trans o2); have KX := Lib.hid (ktr KC.out HK.out); have HO1 := Lib.hid o3; have HA := Lib.hid (And.intro o4 o5); clear o1 o2 o3 o4 o5))
            go_roundw
            case rel => exact ⟨k + 1, by omega, by go_num, by unfold Hid; rw [X1.out]; have h := HO1.out; rw [List.length_append] at h; exact h, by unfold Hid; rw [Y1.out]; have h := HO2.out; rw [List.length_append] at h; exact h, by have h := HA.out; rw [List.length_append, List.length_append] at h; exact h, HK.out⟩
            case measure => simp [intOf]; omega
          · obtain rfl : k = 31 := by omega
            have y1 : decide (((31 : Nat) : Int) ≤ 30) = false := by decide
            rw [X31.out] at HO1
            rw [Y31.out] at HO2
            have KX : Hid (Kpt w wr) := ktr KC.out HK.out
            obtain ⟨_, _, e', RX2⟩ := HO1.out.reads
            clear e'
            obtain ⟨_, _, e', RY2⟩ := HO2.out.reads
            clear e'
            have RX2 := Lib.hid RX2
            have RY2 := Lib.hid RY2
            clear HO1 HO2 HA X31 Y31 XT YT R1 R2 XL YL
            have PCX := Lib.hid (PC.out wr KX.out)
            go_upto_region 29 with (go_at_call 13; (with_reducible refine PCX.out.mono ?_); rintro z w7 ⟨rfl, rfl⟩)
            obtain ⟨bq, hbq⟩ : ∃ B, badB (prsE ps) m = B := ⟨_, rfl⟩
            have Hbq := Lib.hid hbq
            clear hbq
            go_cut [168] from 159 to 168 (fun vb wx => vb = .bool bq ∧ wx = wr)
            case first =>
              by_cases h5 : prsE ps = 0
              · have q5 : (prsE ps == 0) = true := beq_iff_eq.2 h5
                by_cases hm0 : m < 0
                · have q6 : decide (m < 0) = true := decide_eq_true hm0
                  obtain rfl : bq = true := by rw [← Hbq.out]; exact bad_t h5 (.inl hm0)
                  clear h5
                  go_wp2
                  go_meet
                  case rel => exact ⟨rfl, rfl⟩
                · have q6 : decide (m < 0) = false := decide_eq_false hm0
                  by_cases hm6 : 60 < m
                  · have q7 : decide (60 < m) = true := decide_eq_true hm6
                    obtain rfl : bq = true := by rw [← Hbq.out]; exact bad_t h5 (.inr hm6)
                    clear h5
                    go_wp2
                    go_meet
                    case rel => exact ⟨by first | rfl | rw [q7], rfl⟩
                  · have q7 : decide (60 < m) = false := decide_eq_false hm6
                    obtain rfl : bq = false := by rw [← Hbq.out]; exact bad_f (by omega)
                    clear h5
                    go_wp2
                    go_meet
                    case rel => exact ⟨by first | rfl | rw [q7], rfl⟩
              · have q5 : (prsE ps == 0) = false := beq_eq_false_iff_ne.2 h5
                obtain rfl : bq = false := by rw [← Hbq.out]; exact bad_f (fun e => h5 e.1)
                clear h5
                go_wp2
                go_meet
                case rel => exact ⟨rfl, rfl⟩
            case rest =>
              obtain ⟨rfl, hw⟩ := hcut
              subst wc
              go_upto_if 168 with fail
              go_cut [24, 29] from 157 to 174 (fun v24 v29 wx => v24 = .int .i64 (topE fs ps m) ∧ Hid (Reads wx v29 (tlO ps fs m)) ∧ Hid (Kpt wr wx))
              case first =>
                by_cases h5 : prsE ps = 0
                · have q5 : (prsE ps == 0) = true := beq_iff_eq.2 h5
                  by_cases hm0 : m < 0 ∨ 60 < m
                  · obtain rfl : bq = true := by rw [← Hbq.out]; exact bad_t h5 hm0
                    have te : Hid (topE fs ps m = 3) := by unfold Hid; rw [TE.out]; unfold orE mnyE; rw [if_pos h5, if_pos hm0]
                    have tl : Hid (tlO ps fs m = []) := by unfold Hid; rw [TO.out, te.out]; rfl
                    clear h5 hm0 q5
                    go_wp2
                    go_meet
                    case rel => exact ⟨by rw [te.out], by unfold Hid; rw [tl.out]; exact reads_nil _ _ _, Kpt.refl _⟩
                  · obtain rfl : bq = false := by rw [← Hbq.out]; exact bad_f (fun e => hm0 e.2)
                    have te : Hid (topE fs ps m = 0) := by unfold Hid; rw [TE.out]; unfold orE mnyE; rw [if_pos h5, if_neg hm0]
                    have tl : Hid (tlO ps fs m = topN (qsO ps fs) m) := by unfold Hid; rw [TO.out, te.out, if_pos rfl]
                    obtain ⟨h20, hpr⟩ := prsE_0 h5
                    have HF2 := HFF.out.kpt KX.out
                    have RTP := Lib.hid (rtp_run m _ a3 _ ps.length cap3 ps fs (qsO ps fs) wr HF2 (HPP.out.kpt KX.out) (by omega) (by omega) h20 hpr h60 HFL.out QS.out)
                    rw [h5]
                    clear h5 hm0 HF2 h20 hpr q5
                    go_wp2_with (go_at_call 14; (with_reducible refine RTP.out.mono ?_); rintro z w7 ⟨v9, rfl, rr, kk⟩; obtain ⟨a9, c9, rfl, -⟩ := id rr; have RRT := Lib.hid rr; have KT := Lib.hid kk; clear rr kk)
                    go_meet
                    case rel => exact ⟨by rw [te.out], by unfold Hid; rw [tl.out]; exact RRT.out, KT.out⟩
                · have q5 : (prsE ps == 0) = false := beq_eq_false_iff_ne.2 h5
                  obtain rfl : bq = false := by rw [← Hbq.out]; exact bad_f (fun e => h5 e.1)
                  have te : Hid (topE fs ps m = prsE ps) := by unfold Hid; rw [TE.out]; unfold orE; rw [if_neg h5]
                  have tl : Hid (tlO ps fs m = []) := by unfold Hid; rw [TO.out, te.out, if_neg h5]
                  clear h5
                  go_wp2
                  go_meet
                  case rel => exact ⟨by rw [te.out], by unfold Hid; rw [tl.out]; exact reads_nil _ _ _, Kpt.refl _⟩
              case rest =>
                obtain ⟨rfl, RT2, HK2⟩ := hcut
                have RX3 := Lib.hid (RX2.out.kpt HK2.out)
                have RY3 := Lib.hid (RY2.out.kpt HK2.out)
                have KY := Lib.hid (ktr KX.out HK2.out)
                have KZ := Lib.hid (ktr HK.out HK2.out)
                clear HK2 HK KX RX2 RY2
                go_wp2
                go_loop [36, 37, 38] (fun aa bb ii => ∃ k : Nat, k ≤ fs.length ∧ aa = .int .i64 (sumF 7 (fs.take k)) ∧ bb = .int .i64 (sumF 6 (fs.take k)) ∧ ii = .int .i64 (k : Int)) (fun aa bb ii => fs.length - (intOf ii).toNat)
                case atStart => exact ⟨0, Nat.zero_le _, by rw [x7.out], by rw [x6.out], rfl⟩
                case round =>
                  obtain ⟨k, hk, rfl, rfl, rfl⟩ := hrel
                  by_cases hlt : k < fs.length
                  · obtain ⟨g, off, rfl, hfa⟩ := HC.out k hlt
                    obtain ⟨-, -, -, -, -, -, c6, c7, -, -⟩ := fl10 hfa KY.out
                    have s7 := S7.out k hlt
                    have s6 := S6.out k hlt
                    have b := SB.out k
                    have hl := HLL.out k
                    have fb := BD.out k hlt
                    generalize (fs.getD k []).getD 6 0 = f6 at *
                    generalize (fs.getD k []).getD 7 0 = f7 at *
                    have S7' := Lib.hid s7
                    have S6' := Lib.hid s6
                    have y2 : decide ((k : Int) < (fs.length : Int)) = true := decide_eq_true (by omega)
                    have i0 : (0 : Int) ≤ (k : Int) := by omega
                    have i1 : (k : Int) < (fs.length : Int) := by omega
                    have m0 : IntKind.i64.wrap ((k : Int) + 1) = (k : Int) + 1 := IntWalk.i64_in _ (by omega)
                    generalize sumF 7 (fs.take k) = A at *
                    generalize sumF 6 (fs.take k) = B at *
                    have m7 : IntKind.i64.wrap (A + f7) = A + f7 := IntWalk.i64_in _ (by omega)
                    have m6 : IntKind.i64.wrap (B + f6) = B + f6 := IntWalk.i64_in _ (by omega)
                    clear s7 s6 b hl fb hfa
                    go_wp2
                    go_round
                    case rel => exact ⟨k + 1, by omega, by rw [S7'.out], by rw [S6'.out], by go_num⟩
                    case measure => simp [intOf]; omega
                  · have y2 : decide ((k : Int) < (fs.length : Int)) = false := decide_eq_false (by omega)
                    have hkl : k = fs.length := by omega
                    have e7 : sumF 7 (fs.take k) = sumF 7 fs := by rw [hkl, HT.out]
                    have e6 : sumF 6 (fs.take k) = sumF 6 fs := by rw [hkl, HT.out]
                    have b := SB.out k
                    rw [e7, e6] at *
                    have b2 := b.2.2.1
                    rw [hkl, HT.out] at b2
                    have b3 := b.2.2.2
                    rw [hkl, HT.out] at b3
                    by_cases h0 : fs.length = 0
                    · have y3 : decide ((0 : Int) < (fs.length : Int)) = false := decide_eq_false (by omega)
                      have y4 : decide (0 < fs.length) = false := decide_eq_false (by omega)
                      have ee : Hid (ratE fs = 5) := by unfold Hid; rw [EE.out, if_pos h0]
                      have rr : Hid (ratR fs = 0) := by unfold Hid; rw [RR.out, ee.out]; rfl
                      clear h0 hkl e7 e6 b
                      generalize sumF 7 fs = A at *
                      generalize sumF 6 fs = B at *
                      go_wp2
                      go_meet
                      case rel => exact ⟨rfl, by rw [ee.out], RX3.out, RY3.out, RT2.out, by rw [rr.out], KZ.out⟩
                    · have y3 : decide ((0 : Int) < (fs.length : Int)) = true := decide_eq_true (by omega)
                      have y4 : decide (0 < fs.length) = true := decide_eq_true (by omega)
                      have ee : Hid (ratE fs = 0) := by unfold Hid; rw [EE.out, if_neg h0]
                      have rr : Hid (ratR fs = sumF 7 fs * 10000 / sumF 6 fs) := by unfold Hid; rw [RR.out, if_pos ee.out]
                      have b0 := b.1
                      have b1 := b.2.1
                      clear hkl e7 e6 b
                      generalize sumF 7 fs = A at *
                      generalize sumF 6 fs = B at *
                      have B1 : 1 ≤ B := by omega
                      have B2 : B ≤ 64424509440 := by omega
                      have A2 : A ≤ 64424509440 := by omega
                      have m8 : IntKind.i64.wrap (A * 10000) = A * 10000 := IntWalk.i64_in _ (by omega)
                      have A3 : 0 ≤ A * 10000 := by omega
                      have q0 : 0 ≤ A * 10000 / B := Int.ediv_nonneg (by omega) (by omega)
                      have q1 : A * 10000 / B ≤ A * 10000 := Int.ediv_le_self _ (by omega)
                      have m9 : IntKind.i64.wrap (A * 10000 / B) = A * 10000 / B := IntWalk.i64_in _ (by omega)
                      clear h0
                      go_wp2
                      go_meet
                      case rel => exact ⟨rfl, by rw [ee.out], RX3.out, RY3.out, RT2.out, by rw [rr.out], KZ.out⟩
      · have e2 : (checksE fs == 0) = false := beq_eq_false_iff_ne.2 hE2
        have te : Hid (topE fs ps m = checksE fs) := by unfold Hid topE orE; rw [if_neg hE2]
        have tl : Hid (tlO ps fs m = []) := by unfold Hid tlO; rw [te.out, if_neg hE2]
        have ee : Hid (ratE fs = checksE fs) := by unfold Hid ratE; rw [if_neg hE2]
        have rr : Hid (ratR fs = 0) := by unfold Hid ratR; rw [ee.out, if_neg hE2]
        have x1 : Hid (ptyO 1 fs = []) := if_neg hE2
        have x2 : Hid (ptyO 2 fs = []) := if_neg hE2
        clear hE2
        generalize checksE fs = E2 at *
        go_wp2
        go_meet
        case rel => exact ⟨by rw [te.out], by rw [ee.out], by unfold Hid; rw [x1.out]; exact reads_nil _ _ _, by unfold Hid; rw [x2.out]; exact reads_nil _ _ _, by unfold Hid; rw [tl.out]; exact reads_nil _ _ _, by rw [rr.out], Kpt.refl _⟩
    case rest =>
      obtain ⟨rfl, rfl, RX2, RY2, RT2, rfl, HK⟩ := hcut
      replace KC := Lib.hid (ktr KC.out HK.out)
      replace RA := Lib.hid (RA.out.kpt HK.out); replace RX := Lib.hid (RX.out.kpt HK.out); replace RY := Lib.hid (RY.out.kpt HK.out); replace RTL := Lib.hid (RTL.out.kpt HK.out); replace RA2 := Lib.hid (RA2.out.kpt HK.out)
      clear HK
      obtain ⟨a27, c27, rfl, -⟩ := id RX2.out
      obtain ⟨a28, c28, rfl, -⟩ := id RY2.out
      obtain ⟨a29, c29, rfl, -⟩ := id RT2.out
      clear HFF HEE HPP HCE AN P1 P2 PC B0
      generalize (ageO W hs q es fs) = la at *
      generalize (ptyO 1 fs) = lx at *
      generalize (ptyO 2 fs) = ly at *
      generalize (tlO ps fs m) = lt at *
      generalize ageQ W hs fs q es = E1 at *
      generalize checksE fs = E2 at *
      generalize topE fs ps m = E3 at *
      generalize ratE fs = E4 at *
      generalize ratR fs = RR at *
      go_wp2_with (first
        | (go_at_call 15; (with_reducible refine (reportBegun _).mono ?_); rintro z w7 ⟨rfl, kk⟩; replace KC := Lib.hid (ktr KC.out kk); replace RA := Lib.hid (RA.out.kpt kk); replace RX := Lib.hid (RX.out.kpt kk); replace RY := Lib.hid (RY.out.kpt kk); replace RTL := Lib.hid (RTL.out.kpt kk); replace RA2 := Lib.hid (RA2.out.kpt kk); replace RX2 := Lib.hid (RX2.out.kpt kk); replace RY2 := Lib.hid (RY2.out.kpt kk); replace RT2 := Lib.hid (RT2.out.kpt kk); clear kk)
        | (go_at_call 16; (with_reducible refine (sameI_run _ _ _ _ RA.out RA2.out).mono ?_); rintro z w8 ⟨rfl, kk⟩; replace KC := Lib.hid (ktr KC.out kk); replace RA := Lib.hid (RA.out.kpt kk); replace RX := Lib.hid (RX.out.kpt kk); replace RY := Lib.hid (RY.out.kpt kk); replace RTL := Lib.hid (RTL.out.kpt kk); replace RA2 := Lib.hid (RA2.out.kpt kk); replace RX2 := Lib.hid (RX2.out.kpt kk); replace RY2 := Lib.hid (RY2.out.kpt kk); replace RT2 := Lib.hid (RT2.out.kpt kk); clear kk)
        | (go_at_call 16; (with_reducible refine (sameI_run _ _ _ _ RX.out RX2.out).mono ?_); rintro z w8 ⟨rfl, kk⟩; replace KC := Lib.hid (ktr KC.out kk); replace RA := Lib.hid (RA.out.kpt kk); replace RX := Lib.hid (RX.out.kpt kk); replace RY := Lib.hid (RY.out.kpt kk); replace RTL := Lib.hid (RTL.out.kpt kk); replace RA2 := Lib.hid (RA2.out.kpt kk); replace RX2 := Lib.hid (RX2.out.kpt kk); replace RY2 := Lib.hid (RY2.out.kpt kk); replace RT2 := Lib.hid (RT2.out.kpt kk); clear kk)
        | (go_at_call 16; (with_reducible refine (sameI_run _ _ _ _ RY.out RY2.out).mono ?_); rintro z w8 ⟨rfl, kk⟩; replace KC := Lib.hid (ktr KC.out kk); replace RA := Lib.hid (RA.out.kpt kk); replace RX := Lib.hid (RX.out.kpt kk); replace RY := Lib.hid (RY.out.kpt kk); replace RTL := Lib.hid (RTL.out.kpt kk); replace RA2 := Lib.hid (RA2.out.kpt kk); replace RX2 := Lib.hid (RX2.out.kpt kk); replace RY2 := Lib.hid (RY2.out.kpt kk); replace RT2 := Lib.hid (RT2.out.kpt kk); clear kk)
        | (go_at_call 16; (with_reducible refine (sameI_run _ _ _ _ RTL.out RT2.out).mono ?_); rintro z w8 ⟨rfl, kk⟩; replace KC := Lib.hid (ktr KC.out kk); replace RA := Lib.hid (RA.out.kpt kk); replace RX := Lib.hid (RX.out.kpt kk); replace RY := Lib.hid (RY.out.kpt kk); replace RTL := Lib.hid (RTL.out.kpt kk); replace RA2 := Lib.hid (RA2.out.kpt kk); replace RX2 := Lib.hid (RX2.out.kpt kk); replace RY2 := Lib.hid (RY2.out.kpt kk); replace RT2 := Lib.hid (RT2.out.kpt kk); clear kk))
      go_ret
      exact ⟨rfl, KC.out⟩

end Go.Proofs.Ytagmgpdgiphhbaa

-- LawRS
namespace Go.Proofs.Ytagmgpdgiphhbaa
open Go.RowKit
set_option linter.unusedVariables false

theorem rq_plain (W : Int) (lv : Value) (q : Int) (ev pv : Value) (m : Int) (v : Value) (hs : List Int) (fs : List (List Int)) (es ps : List Int) (w : World) (hr : Reads w v hs) (hf : Fits hs) (hF : ReadsF w lv fs) (hE : Reads w ev es) (hP : Reads w pv ps) :
    Calls Try.prog 3 #[calV W v, lv, .int .i64 q, ev, pv, .int .i64 m] w fun e w' => e = .returned (.bool true) ∧ Kpt w w' :=
  rq_all W q m v lv ev pv hs es ps fs w hr hf hF hE hP

end Go.Proofs.Ytagmgpdgiphhbaa
