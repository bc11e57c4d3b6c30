/-
  Merged: PenA, PenM, PenC, PenF.
-/
import Derived.Test.YtgccipmeiceonaaMp22
import Derived.Test.YtgccipmeiceonaaMp17
import Derived.Test.YtgccipmeiceonaaMp5
import Derived.Test.YtgccipmeiceonaaMp14
import Derived.Test.YtgccipmeiceonaaMp2
-- PenA
namespace Go.Proofs.Ytgccipmeiceonaa
open Go.RowKit
set_option linter.unusedVariables false

def tmEL (l : List Int) : Int := termE (l.getD 0 0) (l.getD 1 0) (l.getD 2 0) (l.getD 3 0)
def tmsE : List (List Int) → Int
  | [] => 0
  | l :: ts => if tmEL l = 0 then tmsE ts else tmEL l
/-- the error of the terms of all classes -/
def clsE (ts : List (List Int)) : Int := if ts.length = 6 then tmsE ts else 1
theorem tms_0 {ts : List (List Int)} (h : tmsE ts = 0) : ∀ l ∈ ts, tmEL l = 0 := by
  induction ts with
  | nil => intro l hl; cases hl
  | cons t ts ih =>
    unfold tmsE at h
    split at h
    · next h1 =>
      intro l hl
      rcases List.mem_cons.1 hl with rfl | hl
      · exact h1
      · exact ih h l hl
    · next h1 => exact absurd h h1
theorem tms_bd (ts : List (List Int)) : tmsE ts = 0 ∨ tmsE ts = 3 := by
  induction ts with
  | nil => exact .inl rfl
  | cons t ts ih =>
    unfold tmsE
    split
    · exact ih
    · next h => exact (term_bd _ _ _ _).imp (fun e => absurd e h) id
set_option maxHeartbeats 2000000 in
theorem cls_run (v : Value) (ts : List (List Int)) (w : World) (hr : ReadsT w v ts) :
    Calls Try.prog 54 #[v] w fun e w' => e = .returned (.int .i64 (clsE ts)) ∧ Kpt w w' := by
  obtain ⟨a, cap, rfl, hm, hc⟩ := hr
  unfold maxLen at hm
  have HC := Lib.hid hc
  obtain ⟨n, hn⟩ : ∃ n, n = ts.length := ⟨_, rfl⟩
  by_cases h6 : ts.length = 6
  · have HX : Hid (clsE ts = tmsE (ts.drop 0)) := by unfold Hid clsE; rw [if_pos h6]; rfl
    have DR := Lib.hid (fun k (h : k < ts.length) => drop_at h)
    have DA : Hid (ts.drop n = []) := by unfold Hid; rw [hn, List.drop_length]
    rw [← hn] at HC hm h6 DR ⊢
    have y1 : ((n : Int) != 6) = false := by rw [h6]; rfl
    clear hc hn h6
    go_enter Try.func54, Try.ntmps54
    go_wp2
    go_loopw [11] (fun ii wr => ∃ k : Nat, k ≤ n ∧ ii = .int .i64 (k : Int) ∧ Hid (clsE ts = tmsE (ts.drop k)) ∧ Hid (Kpt w wr)) (fun ii _ => n - (intOf ii).toNat)
    case atStart => exact ⟨0, Nat.zero_le _, rfl, HX.out, Kpt.refl _⟩
    case round =>
      obtain ⟨k, hk, rfl, HE, HK⟩ := hrel
      by_cases hlt : k < n
      · obtain ⟨g, off, rfl, hfl⟩ := HC.out k hlt
        have he := HE.out
        rw [DR.out k hlt] at he
        unfold tmsE tmEL at he
        have c0 : wr.cell? ⟨g, off + k * 4, none⟩ = _ := HK.out.cell (hfl 0 (by omega))
        have c1 : wr.cell? ⟨g, off + k * 4 + 1, none⟩ = _ := HK.out.cell (hfl 1 (by omega))
        have c2 : wr.cell? ⟨g, off + k * 4 + 2, none⟩ = _ := HK.out.cell (hfl 2 (by omega))
        have c3 : wr.cell? ⟨g, off + k * 4 + 3, none⟩ = _ := HK.out.cell (hfl 3 (by omega))
        clear hfl HE
        generalize (ts.getD k []).getD 0 0 = te at *
        generalize (ts.getD k []).getD 1 0 = tb at *
        generalize (ts.getD k []).getD 2 0 = td at *
        generalize (ts.getD k []).getD 3 0 = tr at *
        have TR := Lib.hid (fun w' => term_run te tb td tr w')
        by_cases hE : termE te tb td tr = 0
        · rw [if_pos hE] at he
          rw [hE] at TR
          have HE2 := Lib.hid he
          clear he hE
          go_wp2_with (go_at_call 103; (with_reducible refine (TR.out _).mono ?_); rintro x w2 ⟨rfl, k2⟩; have K2 : Hid (Kpt w w2) := ktr (HK.out.alloc _) k2; clear k2)
          go_roundw
          case rel => exact ⟨k + 1, by omega, by go_num, HE2.out, K2.out⟩
          case measure => simp [intOf]; omega
        · rw [if_neg hE] at he
          have z0 : (termE te tb td tr != 0) = true := bne_iff_ne.2 hE
          have HE2 := Lib.hid he
          clear he hE
          generalize termE te tb td tr = E at *
          go_wp2_with (go_at_call 103; (with_reducible refine (TR.out _).mono ?_); rintro x w2 ⟨rfl, k2⟩; have K2 : Hid (Kpt w w2) := ktr (HK.out.alloc _) k2; clear k2)
          go_ret
          exact ⟨ret_int HE2.out.symm, K2.out⟩
      · obtain rfl : k = n := by omega
        rw [DA.out] at HE
        go_wp2
        go_ret
        exact ⟨ret_int HE.out.symm, HK.out⟩
  · have HX : Hid (clsE ts = 1) := by unfold Hid clsE; rw [if_neg h6]
    rw [← hn] at HC hm h6 ⊢
    have y1 : ((n : Int) != 6) = true := bne_iff_ne.2 (by omega)
    clear hc hn
    go_enter Try.func54, Try.ntmps54
    go_wp2
    go_ret
    exact ⟨ret_int HX.out.symm, Kpt.refl _⟩

/-- the error of a day to be asked about -/
def tdyE (W : Int) (hs : List Int) (q : Int) : Int := if daysE W hs [q] = 0 then (if isR W hs q = true then 0 else 4) else daysE W hs [q]
set_option maxHeartbeats 2000000 in
theorem today_run (W q : Int) (v : Value) (hs : List Int) (w : World) (hr : Reads w v hs) (hf : Fits hs) :
    Calls Try.prog 59 #[calV W v, .int .i64 q] w fun e w' => e = .returned (.int .i64 (tdyE W hs q)) ∧ Kpt w w' := by
  have IS := Lib.hid (fun w' (k : Kpt w w') => is_any W q v hs w' (hr.kpt k) hf)
  have K1 : Hid (Kpt w (w.alloc (.cells #[.int .i64 W, v] 24))) := (Kpt.refl w).alloc _
  obtain ⟨a, cap, rfl, -⟩ := hr
  unfold calV at *
  unfold tdyE
  by_cases h : daysE W hs [q] = 0
  · rw [if_pos h]
    rw [h] at IS
    clear h
    cases hb : isR W hs q with
    | true =>
      rw [hb] at IS
      rw [if_pos rfl]
      go_enter Try.func59, Try.ntmps59
      go_wp2_with (go_at_call 105; (with_reducible refine (IS.out _ K1.out).mono ?_); rintro x w1 ⟨rfl, k1⟩; have K2 := Lib.hid (ktr K1.out k1); clear k1)
      go_ret
      exact ⟨rfl, K2.out⟩
    | false =>
      rw [hb] at IS
      rw [if_neg (by decide)]
      go_enter Try.func59, Try.ntmps59
      go_wp2_with (go_at_call 105; (with_reducible refine (IS.out _ K1.out).mono ?_); rintro x w1 ⟨rfl, k1⟩; have K2 := Lib.hid (ktr K1.out k1); clear k1)
      go_ret
      exact ⟨rfl, K2.out⟩
  · rw [if_neg h]
    have z0 : (daysE W hs [q] != 0) = true := bne_iff_ne.2 h
    clear h
    generalize daysE W hs [q] = E at *
    go_enter Try.func59, Try.ntmps59
    go_wp2_with (go_at_call 105; (with_reducible refine (IS.out _ K1.out).mono ?_); rintro x w1 ⟨rfl, k1⟩; have K2 := Lib.hid (ktr K1.out k1); clear k1)
    go_ret
    exact ⟨rfl, K2.out⟩

end Go.Proofs.Ytgccipmeiceonaa

-- PenM
namespace Go.Proofs.Ytgccipmeiceonaa
open Go.RowKit
set_option linter.unusedVariables false

/-- the error of a fail at its terms; the stage it is in; what is open of it -/
def lkL (W : Int) (hs tl l : List Int) (q : Int) : Int := lkE W hs (tl.getD 0 0) (tl.getD 1 0) (tl.getD 2 0) (tl.getD 3 0) (l.getD 0 0) (l.getD 1 0) (l.getD 2 0) (l.getD 3 0) (l.getD 4 0) (l.getD 5 0) (l.getD 6 0) (l.getD 7 0) (l.getD 8 0) (l.getD 9 0) q
def stL (W : Int) (hs tl l : List Int) (q : Int) : Int := stgR W hs (tl.getD 0 0) (tl.getD 1 0) (tl.getD 2 0) (tl.getD 3 0) (l.getD 0 0) (l.getD 1 0) (l.getD 2 0) (l.getD 3 0) (l.getD 4 0) (l.getD 5 0) (l.getD 6 0) (l.getD 7 0) (l.getD 8 0) (l.getD 9 0) q
def opL (l : List Int) : Int := openV (l.getD 0 0) (l.getD 1 0) (l.getD 2 0) (l.getD 3 0) (l.getD 4 0) (l.getD 5 0) (l.getD 6 0) (l.getD 7 0) (l.getD 8 0) (l.getD 9 0)
/-- what a fail costs at these terms and that price -/
def csL (W : Int) (hs tl l : List Int) (p q : Int) : Int := if stL W hs tl l q = 0 ∨ stL W hs tl l q = 5 then 0 else dlyQ (opL l) p (tl.getD 3 0)
def csV (W : Int) (hs tl l : List Int) (p q : Int) : Int := if lkL W hs tl l q = 0 then csL W hs tl l p q else 0
theorem lkL_fl {W : Int} {hs tl l : List Int} {q : Int} (h : lkL W hs tl l q = 0) : failEL l = 0 := (lk_0 h).2.1
theorem fail_bd {i f t c p d u x b y : Int} (h : failE i f t c p d u x b y = 0) : (1 ≤ u ∧ u ≤ 1073741824) ∧ (0 ≤ x ∧ 0 ≤ b ∧ 0 ≤ y ∧ x + b + y ≤ u) ∧ (0 ≤ c ∧ c ≤ 5) ∧ (1 ≤ p ∧ p ≤ 20) ∧ (0 ≤ f ∧ f ≤ 30) ∧ (0 ≤ t ∧ t ≤ 30) := by
  obtain ⟨h1, -, h3, h4⟩ := fail_0 h
  obtain ⟨-, -, h5, h6, h7, h8⟩ := fdue_t h1
  obtain ⟨g1, g2, g3⟩ := ftk_t h3
  refine ⟨h8, ⟨g1.1, g2.1, g3.1, by omega⟩, h6, h7, h5⟩
theorem op_bd {l : List Int} (h : failEL l = 0) : 0 ≤ opL l ∧ opL l ≤ 1073741824 := by
  have h' := fail_bd h
  unfold failEL at h
  unfold opL openV
  rw [if_pos h]
  omega
/-- the terms of a fail's class, the price of its paper -/
def tlOf (ts : List (List Int)) (l : List Int) : List Int := ts.getD (l.getD 3 0).toNat []
def prOf (ps : List Int) (l : List Int) : Int := ps.getD (l.getD 4 0 - 1).toNat 0
def pdE (W : Int) (hs : List Int) (ts : List (List Int)) (q : Int) : List (List Int) → Int
  | [] => 0
  | l :: fs => orE (lkL W hs (tlOf ts l) l q) (pdE W hs ts q fs)
def dueL (W : Int) (hs : List Int) (ts : List (List Int)) (ps : List Int) (q : Int) : List (List Int) → List (Int × Int × Int)
  | [] => []
  | l :: fs => if 0 < csL W hs (tlOf ts l) l (prOf ps l) q then (l.getD 1 0, l.getD 2 0, csL W hs (tlOf ts l) l (prOf ps l) q) :: dueL W hs ts ps q fs else dueL W hs ts ps q fs
theorem pdE_app {W : Int} {hs : List Int} {ts : List (List Int)} {q : Int} (a b : List (List Int)) : pdE W hs ts q (a ++ b) = orE (pdE W hs ts q a) (pdE W hs ts q b) := by
  induction a with
  | nil => exact (orE_r rfl).symm
  | cons l a ih =>
    rw [List.cons_append, pdE, pdE, ih]
    unfold orE
    split <;> rfl
theorem dueL_app {W : Int} {hs : List Int} {ts : List (List Int)} {ps : List Int} {q : Int} (a b : List (List Int)) : dueL W hs ts ps q (a ++ b) = dueL W hs ts ps q a ++ dueL W hs ts ps q b := by
  induction a with
  | nil => rfl
  | cons l a ih =>
    rw [List.cons_append, dueL, dueL, ih]
    split <;> rfl
/-- the error ahead of the fails themselves -/
def preE (W : Int) (hs : List Int) (ts fs : List (List Int)) (ps : List Int) (q : Int) : Int := orE (calE W hs) (orE (clsE ts) (orE (checksE fs) (orE (prsE ps) (tdyE W hs q))))
def dayE (W : Int) (hs : List Int) (ts fs : List (List Int)) (ps : List Int) (q : Int) : Int := orE (preE W hs ts fs ps q) (pdE W hs ts q fs)
def dayD (W : Int) (hs : List Int) (ts fs : List (List Int)) (ps : List Int) (q : Int) : List (Int × Int × Int) := if dayE W hs ts fs ps q = 0 then dueL W hs ts ps q fs else []
theorem dueL_len {W : Int} {hs : List Int} {ts : List (List Int)} {ps : List Int} {q : Int} (fs : List (List Int)) : (dueL W hs ts ps q fs).length ≤ fs.length := by
  induction fs with
  | nil => exact Nat.le_refl _
  | cons l fs ih =>
    rw [dueL]
    split
    · simpa using ih
    · simp only [List.length_cons]; omega

end Go.Proofs.Ytgccipmeiceonaa

-- PenC
namespace Go.Proofs.Ytgccipmeiceonaa
open Go.RowKit
set_option linter.unusedVariables false

set_option maxRecDepth 100000 in
set_option maxHeartbeats 4000000 in
theorem cost_bad (W te tb td tr i f t c p d u x b y z q : Int) (v : Value) (hs : List Int) (w : World) (hr : Reads w v hs) (hf : Fits hs) (E : Int) (h : (lkE W hs te tb td tr i f t c p d u x b y q) = E) (h0 : E ≠ 0) :
    Calls Try.prog 60 #[calV W v, .agg #[.int .i64 te, .int .i64 tb, .int .i64 td, .int .i64 tr], .agg #[.int .i64 i, .int .i64 f, .int .i64 t, .int .i64 c, .int .i64 p, .int .i64 d, .int .i64 u, .int .i64 x, .int .i64 b, .int .i64 y], .int .i64 z, .int .i64 q] w fun e w' => e = .returned (.tuple #[.int .i64 0, .int .i64 E]) ∧ Kpt w w' := by
  have SG := Lib.hid (fun w' (k : Kpt w w') => stage_any W te tb td tr i f t c p d u x b y q v hs w' (hr.kpt k) hf)
  rw [h] at SG
  have z0 : (E != 0) = true := bne_iff_ne.2 h0
  have K0 : Hid (Kpt w (((w.alloc (.cells #[.int .i64 W, v] 24)).alloc (.cells #[.int .i64 te, .int .i64 tb, .int .i64 td, .int .i64 tr] 78)).alloc (.cells #[.int .i64 i, .int .i64 f, .int .i64 t, .int .i64 c, .int .i64 p, .int .i64 d, .int .i64 u, .int .i64 x, .int .i64 b, .int .i64 y] 38))) := (((Kpt.refl w).alloc _).alloc _).alloc _
  obtain ⟨a, cap, rfl, -⟩ := hr
  unfold calV at *
  clear h h0
  generalize (stgR W hs te tb td tr i f t c p d u x b y q) = S at *
  go_enter Try.func60, Try.ntmps60
  go_wp2_with (first
    | (go_at_call 106; (with_reducible refine (SG.out _ K0.out).mono ?_); rintro e w1 ⟨rfl, k1⟩; have K1 := Lib.hid (ktr K0.out k1); clear k1))
  go_ret2
  exact ⟨rfl, K1.out⟩

set_option maxRecDepth 100000 in
set_option maxHeartbeats 4000000 in
theorem cost_nil (W te tb td tr i f t c p d u x b y z q : Int) (v : Value) (hs : List Int) (w : World) (hr : Reads w v hs) (hf : Fits hs) (h : (lkE W hs te tb td tr i f t c p d u x b y q) = 0) (hs0 : (stgR W hs te tb td tr i f t c p d u x b y q) = 0) :
    Calls Try.prog 60 #[calV W v, .agg #[.int .i64 te, .int .i64 tb, .int .i64 td, .int .i64 tr], .agg #[.int .i64 i, .int .i64 f, .int .i64 t, .int .i64 c, .int .i64 p, .int .i64 d, .int .i64 u, .int .i64 x, .int .i64 b, .int .i64 y], .int .i64 z, .int .i64 q] w fun e w' => e = .returned (.tuple #[.int .i64 0, .int .i64 0]) ∧ Kpt w w' := by
  have SG := Lib.hid (fun w' (k : Kpt w w') => stage_any W te tb td tr i f t c p d u x b y q v hs w' (hr.kpt k) hf)
  rw [h, hs0] at SG
  have K0 : Hid (Kpt w (((w.alloc (.cells #[.int .i64 W, v] 24)).alloc (.cells #[.int .i64 te, .int .i64 tb, .int .i64 td, .int .i64 tr] 78)).alloc (.cells #[.int .i64 i, .int .i64 f, .int .i64 t, .int .i64 c, .int .i64 p, .int .i64 d, .int .i64 u, .int .i64 x, .int .i64 b, .int .i64 y] 38))) := (((Kpt.refl w).alloc _).alloc _).alloc _
  obtain ⟨a, cap, rfl, -⟩ := hr
  unfold calV at *
  clear h hs0
  go_enter Try.func60, Try.ntmps60
  go_wp2_with (first
    | (go_at_call 106; (with_reducible refine (SG.out _ K0.out).mono ?_); rintro e w1 ⟨rfl, k1⟩; have K1 := Lib.hid (ktr K0.out k1); clear k1))
  go_ret2
  exact ⟨rfl, K1.out⟩

set_option maxRecDepth 100000 in
set_option maxHeartbeats 4000000 in
theorem cost_done (W te tb td tr i f t c p d u x b y z q : Int) (v : Value) (hs : List Int) (w : World) (hr : Reads w v hs) (hf : Fits hs) (h : (lkE W hs te tb td tr i f t c p d u x b y q) = 0) (hs0 : (stgR W hs te tb td tr i f t c p d u x b y q) = 5) :
    Calls Try.prog 60 #[calV W v, .agg #[.int .i64 te, .int .i64 tb, .int .i64 td, .int .i64 tr], .agg #[.int .i64 i, .int .i64 f, .int .i64 t, .int .i64 c, .int .i64 p, .int .i64 d, .int .i64 u, .int .i64 x, .int .i64 b, .int .i64 y], .int .i64 z, .int .i64 q] w fun e w' => e = .returned (.tuple #[.int .i64 0, .int .i64 0]) ∧ Kpt w w' := by
  have SG := Lib.hid (fun w' (k : Kpt w w') => stage_any W te tb td tr i f t c p d u x b y q v hs w' (hr.kpt k) hf)
  rw [h, hs0] at SG
  have K0 : Hid (Kpt w (((w.alloc (.cells #[.int .i64 W, v] 24)).alloc (.cells #[.int .i64 te, .int .i64 tb, .int .i64 td, .int .i64 tr] 78)).alloc (.cells #[.int .i64 i, .int .i64 f, .int .i64 t, .int .i64 c, .int .i64 p, .int .i64 d, .int .i64 u, .int .i64 x, .int .i64 b, .int .i64 y] 38))) := (((Kpt.refl w).alloc _).alloc _).alloc _
  obtain ⟨a, cap, rfl, -⟩ := hr
  unfold calV at *
  clear h hs0
  go_enter Try.func60, Try.ntmps60
  go_wp2_with (first
    | (go_at_call 106; (with_reducible refine (SG.out _ K0.out).mono ?_); rintro e w1 ⟨rfl, k1⟩; have K1 := Lib.hid (ktr K0.out k1); clear k1))
  go_ret2
  exact ⟨rfl, K1.out⟩

set_option maxRecDepth 100000 in
set_option maxHeartbeats 4000000 in
theorem cost_ok (W te tb td tr i f t c p d u x b y z q : Int) (v : Value) (hs : List Int) (w : World) (hr : Reads w v hs) (hf : Fits hs) (h : (lkE W hs te tb td tr i f t c p d u x b y q) = 0) (h0 : (stgR W hs te tb td tr i f t c p d u x b y q) ≠ 0) (h5 : (stgR W hs te tb td tr i f t c p d u x b y q) ≠ 5) (hp : prcB z = true) :
    Calls Try.prog 60 #[calV W v, .agg #[.int .i64 te, .int .i64 tb, .int .i64 td, .int .i64 tr], .agg #[.int .i64 i, .int .i64 f, .int .i64 t, .int .i64 c, .int .i64 p, .int .i64 d, .int .i64 u, .int .i64 x, .int .i64 b, .int .i64 y], .int .i64 z, .int .i64 q] w fun e w' => e = .returned (.tuple #[.int .i64 (dlyQ (openV i f t c p d u x b y) z tr), .int .i64 0]) ∧ Kpt w w' := by
  have SG := Lib.hid (fun w' (k : Kpt w w') => stage_any W te tb td tr i f t c p d u x b y q v hs w' (hr.kpt k) hf)
  rw [h] at SG
  have h2 := (lk_0 h).2.1
  have bd := fail_bd h2
  have bc := ct_0 (lk_0 h).1
  have hop : (openV i f t c p d u x b y) = u - x - b - y := by unfold openV; rw [if_pos h2]
  have hde : dlyE (openV i f t c p d u x b y) z tr = 0 := by
    unfold dlyE
    rw [if_pos (dly_mk (by omega) bc.2.2.2.2 (prc_t hp))]
  clear hop
  have OX := Lib.hid (fun w' => fopenX_run i f t c p d u x b y w')
  rw [h2] at OX
  have DY := Lib.hid (fun w' => daily_any (openV i f t c p d u x b y) z tr w')
  rw [hde] at DY
  have K0 : Hid (Kpt w (((w.alloc (.cells #[.int .i64 W, v] 24)).alloc (.cells #[.int .i64 te, .int .i64 tb, .int .i64 td, .int .i64 tr] 78)).alloc (.cells #[.int .i64 i, .int .i64 f, .int .i64 t, .int .i64 c, .int .i64 p, .int .i64 d, .int .i64 u, .int .i64 x, .int .i64 b, .int .i64 y] 38))) := (((Kpt.refl w).alloc _).alloc _).alloc _
  have BT : Hid (Blk (((w.alloc (.cells #[.int .i64 W, v] 24)).alloc (.cells #[.int .i64 te, .int .i64 tb, .int .i64 td, .int .i64 tr] 78)).alloc (.cells #[.int .i64 i, .int .i64 f, .int .i64 t, .int .i64 c, .int .i64 p, .int .i64 d, .int .i64 u, .int .i64 x, .int .i64 b, .int .i64 y] 38)) (w.heap.size + 1) #[.int .i64 te, .int .i64 tb, .int .i64 td, .int .i64 tr] 78) := by
    have := (Blk.made (w.alloc (.cells #[.int .i64 W, v] 24)) #[.int .i64 te, .int .i64 tb, .int .i64 td, .int .i64 tr] 78).alloc (.cells #[.int .i64 i, .int .i64 f, .int .i64 t, .int .i64 c, .int .i64 p, .int .i64 d, .int .i64 u, .int .i64 x, .int .i64 b, .int .i64 y] 38)
    simp only [World.size_alloc] at this
    exact this
  have BF : Hid (Blk (((w.alloc (.cells #[.int .i64 W, v] 24)).alloc (.cells #[.int .i64 te, .int .i64 tb, .int .i64 td, .int .i64 tr] 78)).alloc (.cells #[.int .i64 i, .int .i64 f, .int .i64 t, .int .i64 c, .int .i64 p, .int .i64 d, .int .i64 u, .int .i64 x, .int .i64 b, .int .i64 y] 38)) (w.heap.size + 2) #[.int .i64 i, .int .i64 f, .int .i64 t, .int .i64 c, .int .i64 p, .int .i64 d, .int .i64 u, .int .i64 x, .int .i64 b, .int .i64 y] 38) := by
    have := Blk.made ((w.alloc (.cells #[.int .i64 W, v] 24)).alloc (.cells #[.int .i64 te, .int .i64 tb, .int .i64 td, .int .i64 tr] 78)) #[.int .i64 i, .int .i64 f, .int .i64 t, .int .i64 c, .int .i64 p, .int .i64 d, .int .i64 u, .int .i64 x, .int .i64 b, .int .i64 y] 38
    simp only [World.size_alloc] at this
    exact this
  obtain ⟨a, cap, rfl, -⟩ := hr
  unfold calV at *
  clear h hde h2 hp bd bc
  generalize (stgR W hs te tb td tr i f t c p d u x b y q) = S at *
  have y0 : (S == 0) = false := by simpa using h0
  have y5 : (S == 5) = false := by simpa using h5
  have x0 : decide (S = 0) = false := by simpa using h0
  have x5 : decide (S = 5) = false := by simpa using h5
  have n0 : (S != 0) = true := by simpa using h0
  have n5 : (S != 5) = true := by simpa using h5
  clear h0 h5
  generalize dlyQ (openV i f t c p d u x b y) z tr = D at *
  generalize (openV i f t c p d u x b y) = o at *
  go_enter Try.func60, Try.ntmps60
  go_wp2_with (first
    | (go_at_call 106; (with_reducible refine (SG.out _ K0.out).mono ?_); rintro e w1 ⟨rfl, k1⟩; have K1 := Lib.hid (ktr K0.out k1); have BT := Lib.hid (BT.out.kpt k1); have BF := Lib.hid (BF.out.kpt k1); clear k1)
    | (go_at_call 107; (with_reducible refine (OX.out _).mono ?_); rintro e w2 ⟨rfl, k1⟩; have K2 := Lib.hid (ktr K1.out k1); have BT := Lib.hid (BT.out.kpt k1); have a0 : World.cell? w2 ⟨w.heap.size + 1, 3, none⟩ = some (.int .i64 tr) := BT.out.cell 3; clear k1)
    | (go_at_call 7; (with_reducible refine (DY.out _).mono ?_); rintro e w4 ⟨rfl, k1⟩; have K4 := Lib.hid (ktr K2.out k1); clear k1)
    | (refine wp_loadF rfl (.tmp 7) rfl (w.heap.size + 2) _ rfl BF.out rfl ?_))
  go_ret2
  exact ⟨rfl, K4.out⟩

/-- what a fail costs, whatever it is -/
theorem cost_all (W te tb td tr i f t c p d u x b y z q : Int) (v : Value) (hs : List Int) (w : World) (hr : Reads w v hs) (hf : Fits hs) (hp : prcB z = true) :
    Calls Try.prog 60 #[calV W v, .agg #[.int .i64 te, .int .i64 tb, .int .i64 td, .int .i64 tr], .agg #[.int .i64 i, .int .i64 f, .int .i64 t, .int .i64 c, .int .i64 p, .int .i64 d, .int .i64 u, .int .i64 x, .int .i64 b, .int .i64 y], .int .i64 z, .int .i64 q] w fun e w' => e = .returned (.tuple #[.int .i64 (if (lkE W hs te tb td tr i f t c p d u x b y q) = 0 then (if (stgR W hs te tb td tr i f t c p d u x b y q) = 0 ∨ (stgR W hs te tb td tr i f t c p d u x b y q) = 5 then 0 else dlyQ (openV i f t c p d u x b y) z tr) else 0), .int .i64 (lkE W hs te tb td tr i f t c p d u x b y q)]) ∧ Kpt w w' := by
  by_cases h : (lkE W hs te tb td tr i f t c p d u x b y q) = 0
  · rw [if_pos h, h]
    by_cases h0 : (stgR W hs te tb td tr i f t c p d u x b y q) = 0
    · rw [if_pos (Or.inl h0)]; exact cost_nil W te tb td tr i f t c p d u x b y z q v hs w hr hf h h0
    · by_cases h5 : (stgR W hs te tb td tr i f t c p d u x b y q) = 5
      · rw [if_pos (Or.inr h5)]; exact cost_done W te tb td tr i f t c p d u x b y z q v hs w hr hf h h5
      · rw [if_neg (by omega)]; exact cost_ok W te tb td tr i f t c p d u x b y z q v hs w hr hf h h0 h5 hp
  · rw [if_neg h]; exact cost_bad W te tb td tr i f t c p d u x b y z q v hs w hr hf _ rfl h

end Go.Proofs.Ytgccipmeiceonaa

-- PenF
namespace Go.Proofs.Ytgccipmeiceonaa
open Go.RowKit
set_option linter.unusedVariables false

theorem clo1 (W : Int) (v : Value) (hs : List Int) (B : Nat) (w : World) (hb : Blk w B #[.int .i64 W, v] 24) (hr : Reads w v hs) (hf : Fits hs) :
    Calls Try.prog 51 #[.pointer (some ⟨B, 0, none⟩)] w fun e w' => e = .returned (.int .i64 (calE W hs)) ∧ Kpt w w' := by
  have CC := Lib.hid (fun w' (k : Kpt w w') => calCheck_any W v hs w' (hr.kpt k) hf)
  have a0 : w.cell? ⟨B, 0, none⟩ = some (.int .i64 W) := hb.cell 0
  have a1 : w.cell? ⟨B, 1, none⟩ = some v := hb.cell 1
  obtain ⟨a, cap, rfl, -⟩ := hr
  unfold calV at *
  clear hb
  go_enter Try.func51, Try.ntmps51
  go_wp2_with (go_at_call 52; (with_reducible refine (CC.out _ (Kpt.refl _)).mono ?_); rintro x w1 ⟨rfl, k1⟩)
  go_ret
  exact ⟨rfl, k1.kpt⟩
theorem clo2 (v : Value) (ts : List (List Int)) (B : Nat) (w : World) (hb : Blk w B #[v] 25) (hr : ReadsT w v ts) :
    Calls Try.prog 53 #[.pointer (some ⟨B, 0, none⟩)] w fun e w' => e = .returned (.int .i64 (clsE ts)) ∧ Kpt w w' := by
  have CC := Lib.hid (cls_run v ts w hr)
  have a0 : w.cell? ⟨B, 0, none⟩ = some v := hb.cell 0
  obtain ⟨a, cap, rfl, -⟩ := hr
  clear hb
  go_enter Try.func53, Try.ntmps53
  go_wp2_with (go_at_call 54; (with_reducible refine CC.out.mono ?_); rintro x w1 ⟨rfl, k1⟩)
  go_ret
  exact ⟨rfl, k1⟩
theorem clo3 (v : Value) (fs : List (List Int)) (B : Nat) (w : World) (hb : Blk w B #[v] 26) (hr : ReadsF w v fs) :
    Calls Try.prog 55 #[.pointer (some ⟨B, 0, none⟩)] w fun e w' => e = .returned (.int .i64 (checksE fs)) ∧ Kpt w w' := by
  have CC := Lib.hid (checks_run v fs w hr)
  have a0 : w.cell? ⟨B, 0, none⟩ = some v := hb.cell 0
  obtain ⟨a, cap, rfl, -⟩ := hr
  clear hb
  go_enter Try.func55, Try.ntmps55
  go_wp2_with (go_at_call 56; (with_reducible refine CC.out.mono ?_); rintro x w1 ⟨rfl, k1⟩)
  go_ret
  exact ⟨rfl, k1⟩
theorem clo4 (v : Value) (ps : List Int) (B : Nat) (w : World) (hb : Blk w B #[v] 22) (hr : Reads w v ps) :
    Calls Try.prog 57 #[.pointer (some ⟨B, 0, none⟩)] w fun e w' => e = .returned (.int .i64 (prsE ps)) ∧ Kpt w w' := by
  have CC := Lib.hid (prices_run v ps w hr)
  have a0 : w.cell? ⟨B, 0, none⟩ = some v := hb.cell 0
  obtain ⟨a, cap, rfl, -⟩ := hr
  clear hb
  go_enter Try.func57, Try.ntmps57
  go_wp2_with (go_at_call 12; (with_reducible refine CC.out.mono ?_); rintro x w1 ⟨rfl, k1⟩)
  go_ret
  exact ⟨rfl, k1 ▸ Kpt.refl _⟩
theorem clo5 (W q : Int) (v : Value) (hs : List Int) (B D : Nat) (w : World) (hb : Blk w B #[.int .i64 W, v] 24) (hd : Blk w D #[.int .i64 q] 3) (hr : Reads w v hs) (hf : Fits hs) :
    Calls Try.prog 58 #[.pointer (some ⟨B, 0, none⟩), .pointer (some ⟨D, 0, none⟩)] w fun e w' => e = .returned (.int .i64 (tdyE W hs q)) ∧ Kpt w w' := by
  have CC := Lib.hid (fun w' (k : Kpt w w') => today_run W q v hs w' (hr.kpt k) hf)
  have a0 : w.cell? ⟨B, 0, none⟩ = some (.int .i64 W) := hb.cell 0
  have a1 : w.cell? ⟨B, 1, none⟩ = some v := hb.cell 1
  have a2 : w.cell? ⟨D, 0, none⟩ = some (.int .i64 q) := hd.cell 0
  obtain ⟨a, cap, rfl, -⟩ := hr
  unfold calV at *
  clear hb hd
  go_enter Try.func58, Try.ntmps58
  go_wp2_with (go_at_call 59; (with_reducible refine (CC.out _ (Kpt.refl _)).mono ?_); rintro x w1 ⟨rfl, k1⟩)
  go_ret
  exact ⟨rfl, k1⟩

/-- the first error of those from the k-th on -/
def tl5 (E1 E2 E3 E4 E5 : Int) : Nat → Int
  | 0 => orE E1 (orE E2 (orE E3 (orE E4 E5)))
  | 1 => orE E2 (orE E3 (orE E4 E5))
  | 2 => orE E3 (orE E4 E5)
  | 3 => orE E4 E5
  | 4 => E5
  | _ => 0
set_option maxHeartbeats 4000000 in
theorem first_run (g cap B1 B2 B3 B4 B5 : Nat) (E1 E2 E3 E4 E5 : Int) (w : World)
    (c0 : w.cell? ⟨g, 0, none⟩ = some (.func (.func 51) #[] #[.pointer (some ⟨B1, 0, none⟩)]))
    (c1 : w.cell? ⟨g, 1, none⟩ = some (.func (.func 53) #[] #[.pointer (some ⟨B2, 0, none⟩)]))
    (c2 : w.cell? ⟨g, 2, none⟩ = some (.func (.func 55) #[] #[.pointer (some ⟨B3, 0, none⟩)]))
    (c3 : w.cell? ⟨g, 3, none⟩ = some (.func (.func 57) #[] #[.pointer (some ⟨B4, 0, none⟩)]))
    (c4 : w.cell? ⟨g, 4, none⟩ = some (.func (.func 58) #[] #[.pointer (some ⟨B1, 0, none⟩), .pointer (some ⟨B5, 0, none⟩)]))
    (H0 : ∀ w', Kpt w w' → Calls Try.prog 51 #[.pointer (some ⟨B1, 0, none⟩)] w' fun e w'' => e = .returned (.int .i64 E1) ∧ Kpt w' w'')
    (H1 : ∀ w', Kpt w w' → Calls Try.prog 53 #[.pointer (some ⟨B2, 0, none⟩)] w' fun e w'' => e = .returned (.int .i64 E2) ∧ Kpt w' w'')
    (H2 : ∀ w', Kpt w w' → Calls Try.prog 55 #[.pointer (some ⟨B3, 0, none⟩)] w' fun e w'' => e = .returned (.int .i64 E3) ∧ Kpt w' w'')
    (H3 : ∀ w', Kpt w w' → Calls Try.prog 57 #[.pointer (some ⟨B4, 0, none⟩)] w' fun e w'' => e = .returned (.int .i64 E4) ∧ Kpt w' w'')
    (H4 : ∀ w', Kpt w w' → Calls Try.prog 58 #[.pointer (some ⟨B1, 0, none⟩), .pointer (some ⟨B5, 0, none⟩)] w' fun e w'' => e = .returned (.int .i64 E5) ∧ Kpt w' w'')
    : Calls Try.prog 50 #[.slice (some ⟨g, 0, none⟩) 5 cap] w fun e w' => e = .returned (.int .i64 (orE E1 (orE E2 (orE E3 (orE E4 E5))))) ∧ Kpt w w' := by
  have C0 := Lib.hid c0
  have F0 := Lib.hid H0
  clear c0 H0
  have C1 := Lib.hid c1
  have F1 := Lib.hid H1
  clear c1 H1
  have C2 := Lib.hid c2
  have F2 := Lib.hid H2
  clear c2 H2
  have C3 := Lib.hid c3
  have F3 := Lib.hid H3
  clear c3 H3
  have C4 := Lib.hid c4
  have F4 := Lib.hid H4
  clear c4 H4
  have HX : Hid (orE E1 (orE E2 (orE E3 (orE E4 E5))) = tl5 E1 E2 E3 E4 E5 0) := rfl
  generalize orE E1 (orE E2 (orE E3 (orE E4 E5))) = X at HX ⊢
  go_enter Try.func50, Try.ntmps50
  go_wp2
  go_loopw [8] (fun ii wr => ∃ z : Int, ii = .int .i64 z ∧ ((z = 0 ∧ Hid (X = tl5 E1 E2 E3 E4 E5 0)) ∨ (z = 1 ∧ Hid (X = tl5 E1 E2 E3 E4 E5 1)) ∨ (z = 2 ∧ Hid (X = tl5 E1 E2 E3 E4 E5 2)) ∨ (z = 3 ∧ Hid (X = tl5 E1 E2 E3 E4 E5 3)) ∨ (z = 4 ∧ Hid (X = tl5 E1 E2 E3 E4 E5 4)) ∨ (z = 5 ∧ Hid (X = tl5 E1 E2 E3 E4 E5 5))) ∧ Hid (Kpt w wr)) (fun ii _ => 5 - (intOf ii).toNat)
  case atStart => exact ⟨0, rfl, .inl ⟨rfl, HX⟩, Kpt.refl _⟩
  case round =>
    obtain ⟨z, rfl, HD, HK⟩ := hrel
    rcases HD with ⟨rfl, HE⟩ | ⟨rfl, HE⟩ | ⟨rfl, HE⟩ | ⟨rfl, HE⟩ | ⟨rfl, HE⟩ | ⟨rfl, HE⟩
    · have cc : wr.cell? ⟨g, 0, none⟩ = _ := HK.out.cell C0.out
      have FC := Lib.hid (fun w' (k : Kpt wr w') => F0.out w' (ktr HK.out k))
      by_cases hE : E1 = 0
      · have HE2 : Hid (X = tl5 E1 E2 E3 E4 E5 1) := HE.out.trans (orE_r hE)
        rw [hE] at FC
        clear hE HE
        go_wp2_with (go_at_call 51; (with_reducible refine (FC.out _ (Kpt.refl _)).mono ?_); rintro x w2 ⟨rfl, k2⟩; have K2 : Hid (Kpt w w2) := ktr HK.out k2; clear k2)
        go_roundw
        case rel => exact ⟨1, by go_num, .inr (.inl ⟨rfl, HE2⟩), K2.out⟩
        case measure => simp [intOf]
      · have HE2 : Hid (X = E1) := HE.out.trans (orE_l _ hE)
        have z0 : (E1 != 0) = true := bne_iff_ne.2 hE
        clear hE HE
        go_wp2_with (go_at_call 51; (with_reducible refine (FC.out _ (Kpt.refl _)).mono ?_); rintro x w2 ⟨rfl, k2⟩; have K2 : Hid (Kpt w w2) := ktr HK.out k2; clear k2)
        go_ret
        exact ⟨ret_int HE2.out.symm, K2.out⟩
    · have cc : wr.cell? ⟨g, 1, none⟩ = _ := HK.out.cell C1.out
      have FC := Lib.hid (fun w' (k : Kpt wr w') => F1.out w' (ktr HK.out k))
      by_cases hE : E2 = 0
      · have HE2 : Hid (X = tl5 E1 E2 E3 E4 E5 2) := HE.out.trans (orE_r hE)
        rw [hE] at FC
        clear hE HE
        go_wp2_with (go_at_call 53; (with_reducible refine (FC.out _ (Kpt.refl _)).mono ?_); rintro x w2 ⟨rfl, k2⟩; have K2 : Hid (Kpt w w2) := ktr HK.out k2; clear k2)
        go_roundw
        case rel => exact ⟨2, by go_num, .inr (.inr (.inl ⟨rfl, HE2⟩)), K2.out⟩
        case measure => simp [intOf]
      · have HE2 : Hid (X = E2) := HE.out.trans (orE_l _ hE)
        have z0 : (E2 != 0) = true := bne_iff_ne.2 hE
        clear hE HE
        go_wp2_with (go_at_call 53; (with_reducible refine (FC.out _ (Kpt.refl _)).mono ?_); rintro x w2 ⟨rfl, k2⟩; have K2 : Hid (Kpt w w2) := ktr HK.out k2; clear k2)
        go_ret
        exact ⟨ret_int HE2.out.symm, K2.out⟩
    · have cc : wr.cell? ⟨g, 2, none⟩ = _ := HK.out.cell C2.out
      have FC := Lib.hid (fun w' (k : Kpt wr w') => F2.out w' (ktr HK.out k))
      by_cases hE : E3 = 0
      · have HE2 : Hid (X = tl5 E1 E2 E3 E4 E5 3) := HE.out.trans (orE_r hE)
        rw [hE] at FC
        clear hE HE
        go_wp2_with (go_at_call 55; (with_reducible refine (FC.out _ (Kpt.refl _)).mono ?_); rintro x w2 ⟨rfl, k2⟩; have K2 : Hid (Kpt w w2) := ktr HK.out k2; clear k2)
        go_roundw
        case rel => exact ⟨3, by go_num, .inr (.inr (.inr (.inl ⟨rfl, HE2⟩))), K2.out⟩
        case measure => simp [intOf]
      · have HE2 : Hid (X = E3) := HE.out.trans (orE_l _ hE)
        have z0 : (E3 != 0) = true := bne_iff_ne.2 hE
        clear hE HE
        go_wp2_with (go_at_call 55; (with_reducible refine (FC.out _ (Kpt.refl _)).mono ?_); rintro x w2 ⟨rfl, k2⟩; have K2 : Hid (Kpt w w2) := ktr HK.out k2; clear k2)
        go_ret
        exact ⟨ret_int HE2.out.symm, K2.out⟩
    · have cc : wr.cell? ⟨g, 3, none⟩ = _ := HK.out.cell C3.out
      have FC := Lib.hid (fun w' (k : Kpt wr w') => F3.out w' (ktr HK.out k))
      by_cases hE : E4 = 0
      · have HE2 : Hid (X = tl5 E1 E2 E3 E4 E5 4) := HE.out.trans (orE_r hE)
        rw [hE] at FC
        clear hE HE
        go_wp2_with (go_at_call 57; (with_reducible refine (FC.out _ (Kpt.refl _)).mono ?_); rintro x w2 ⟨rfl, k2⟩; have K2 : Hid (Kpt w w2) := ktr HK.out k2; clear k2)
        go_roundw
        case rel => exact ⟨4, by go_num, .inr (.inr (.inr (.inr (.inl ⟨rfl, HE2⟩)))), K2.out⟩
        case measure => simp [intOf]
      · have HE2 : Hid (X = E4) := HE.out.trans (orE_l _ hE)
        have z0 : (E4 != 0) = true := bne_iff_ne.2 hE
        clear hE HE
        go_wp2_with (go_at_call 57; (with_reducible refine (FC.out _ (Kpt.refl _)).mono ?_); rintro x w2 ⟨rfl, k2⟩; have K2 : Hid (Kpt w w2) := ktr HK.out k2; clear k2)
        go_ret
        exact ⟨ret_int HE2.out.symm, K2.out⟩
    · have cc : wr.cell? ⟨g, 4, none⟩ = _ := HK.out.cell C4.out
      have FC := Lib.hid (fun w' (k : Kpt wr w') => F4.out w' (ktr HK.out k))
      by_cases hE : E5 = 0
      · have HE2 : Hid (X = tl5 E1 E2 E3 E4 E5 5) := HE.out.trans hE
        rw [hE] at FC
        clear hE HE
        go_wp2_with (go_at_call 58; (with_reducible refine (FC.out _ (Kpt.refl _)).mono ?_); rintro x w2 ⟨rfl, k2⟩; have K2 : Hid (Kpt w w2) := ktr HK.out k2; clear k2)
        go_roundw
        case rel => exact ⟨5, by go_num, .inr (.inr (.inr (.inr (.inr (⟨rfl, HE2⟩))))), K2.out⟩
        case measure => simp [intOf]
      · have HE2 : Hid (X = E5) := HE.out
        have z0 : (E5 != 0) = true := bne_iff_ne.2 hE
        clear hE HE
        go_wp2_with (go_at_call 58; (with_reducible refine (FC.out _ (Kpt.refl _)).mono ?_); rintro x w2 ⟨rfl, k2⟩; have K2 : Hid (Kpt w w2) := ktr HK.out k2; clear k2)
        go_ret
        exact ⟨ret_int HE2.out.symm, K2.out⟩
    · go_wp2
      go_ret
      exact ⟨ret_int HE.out.symm, HK.out⟩

end Go.Proofs.Ytgccipmeiceonaa
