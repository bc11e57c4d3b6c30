/-
  Merged: PenA, PenM.
-/
import Derived.Test.YtgccipmeiceonaaMm35
import Derived.Test.YtgccipmeiceonaaMm25
import Derived.Test.YtgccipmeiceonaaMm31
import Derived.Test.YtgccipmeiceonaaMm17
import Derived.Test.YtgccipmeiceonaaMm0
-- PenA
namespace Go.Proofs.Ytgccipmeiceonaa
open Go.RowKit
set_option linter.unusedVariables false

def tmEL (l : List Int) : Int := termE (l.getD 0 0) (l.getD 1 0) (l.getD 2 0) (l.getD 3 0)
def tmsE : List (List Int) → Int
  | [] => 0
  | l :: ts => if tmEL l = 0 then tmsE ts else tmEL l
/-- the error of the terms of all classes -/
def clsE (ts : List (List Int)) : Int := if ts.length = 6 then tmsE ts else 1
theorem tms_0 {ts : List (List Int)} (h : tmsE ts = 0) : ∀ l ∈ ts, tmEL l = 0 := by
  induction ts with
  | nil => intro l hl; cases hl
  | cons t ts ih =>
    unfold tmsE at h
    split at h
    · next h1 =>
      intro l hl
      rcases List.mem_cons.1 hl with rfl | hl
      · exact h1
      · exact ih h l hl
    · next h1 => exact absurd h h1
theorem tms_bd (ts : List (List Int)) : tmsE ts = 0 ∨ tmsE ts = 3 := by
  induction ts with
  | nil => exact .inl rfl
  | cons t ts ih =>
    unfold tmsE
    split
    · exact ih
    · next h => exact (term_bd _ _ _ _).imp (fun e => absurd e h) id
set_option maxHeartbeats 2000000 in
theorem cls_run (v : Value) (ts : List (List Int)) (w : World) (hr : ReadsT w v ts) :
    Calls Try.prog 54 #[v] w fun e w' => e = .returned (.int .i64 (clsE ts)) ∧ Kpt w w' := by
  obtain ⟨a, cap, rfl, hm, hc⟩ := hr
  unfold maxLen at hm
  have HC := Lib.hid hc
  obtain ⟨n, hn⟩ : ∃ n, n = ts.length := ⟨_, rfl⟩
  by_cases h6 : ts.length = 6
  · have HX : Hid (clsE ts = tmsE (ts.drop 0)) := by unfold Hid clsE; rw [if_pos h6]; rfl
    have DR := Lib.hid (fun k (h : k < ts.length) => drop_at h)
    have DA : Hid (ts.drop n = []) := by unfold Hid; rw [hn, List.drop_length]
    rw [← hn] at HC hm h6 DR ⊢
    have y1 : ((n : Int) != 6) = false := by rw [h6]; rfl
    clear hc hn h6
    go_enter Try.func54, Try.ntmps54
    go_wp2
    go_loopw [11] (fun ii wr => ∃ k : Nat, k ≤ n ∧ ii = .int .i64 (k : Int) ∧ Hid (clsE ts = tmsE (ts.drop k)) ∧ Hid (Kpt w wr)) (fun ii _ => n - (intOf ii).toNat)
    case atStart => exact ⟨0, Nat.zero_le _, rfl, HX.out, Kpt.refl _⟩
    case round =>
      obtain ⟨k, hk, rfl, HE, HK⟩ := hrel
      by_cases hlt : k < n
      · obtain ⟨g, off, rfl, hfl⟩ := HC.out k hlt
        have he := HE.out
        rw [DR.out k hlt] at he
        unfold tmsE tmEL at he
        have c0 : wr.cell? ⟨g, off + k * 4, none⟩ = _ := HK.out.cell (hfl 0 (by omega))
        have c1 : wr.cell? ⟨g, off + k * 4 + 1, none⟩ = _ := HK.out.cell (hfl 1 (by omega))
        have c2 : wr.cell? ⟨g, off + k * 4 + 2, none⟩ = _ := HK.out.cell (hfl 2 (by omega))
        have c3 : wr.cell? ⟨g, off + k * 4 + 3, none⟩ = _ := HK.out.cell (hfl 3 (by omega))
        clear hfl HE
        generalize (ts.getD k []).getD 0 0 = te at *
        generalize (ts.getD k []).getD 1 0 = tb at *
        generalize (ts.getD k []).getD 2 0 = td at *
        generalize (ts.getD k []).getD 3 0 = tr at *
        have TR := Lib.hid (fun w' => term_run te tb td tr w')
        by_cases hE : termE te tb td tr = 0
        · rw [if_pos hE] at he
          rw [hE] at TR
          have HE2 := Lib.hid he
          clear he hE
          go_wp2_with (go_at_call 103; (with_reducible refine (TR.out _).mono ?_); rintro x w2 ⟨rfl, k2⟩; have K2 : Hid (Kpt w w2) := ktr (HK.out.alloc _) k2; clear k2)
          go_roundw
          case rel => exact ⟨k + 1, by omega, by go_num, HE2.out, K2.out⟩
          case measure => simp [intOf]; omega
        · rw [if_neg hE] at he
          have z0 : (termE te tb td tr != 0) = true := bne_iff_ne.2 hE
          have HE2 := Lib.hid he
          clear he hE
          generalize termE te tb td tr = E at *
          go_wp2_with (go_at_call 103; (with_reducible refine (TR.out _).mono ?_); rintro x w2 ⟨rfl, k2⟩; have K2 : Hid (Kpt w w2) := ktr (HK.out.alloc _) k2; clear k2)
          go_ret
          exact ⟨ret_int HE2.out.symm, K2.out⟩
      · obtain rfl : k = n := by omega
        rw [DA.out] at HE
        go_wp2
        go_ret
        exact ⟨ret_int HE.out.symm, HK.out⟩
  · have HX : Hid (clsE ts = 1) := by unfold Hid clsE; rw [if_neg h6]
    rw [← hn] at HC hm h6 ⊢
    have y1 : ((n : Int) != 6) = true := bne_iff_ne.2 (by omega)
    clear hc hn
    go_enter Try.func54, Try.ntmps54
    go_wp2
    go_ret
    exact ⟨ret_int HX.out.symm, Kpt.refl _⟩

/-- the error of a day to be asked about -/
def tdyE (W : Int) (hs : List Int) (q : Int) : Int := if daysE W hs [q] = 0 then (if isR W hs q = true then 0 else 4) else daysE W hs [q]
set_option maxHeartbeats 2000000 in
theorem today_run (W q : Int) (v : Value) (hs : List Int) (w : World) (hr : Reads w v hs) (hf : Fits hs) :
    Calls Try.prog 59 #[calV W v, .int .i64 q] w fun e w' => e = .returned (.int .i64 (tdyE W hs q)) ∧ Kpt w w' := by
  have IS := Lib.hid (fun w' (k : Kpt w w') => is_any W q v hs w' (hr.kpt k) hf)
  have K1 : Hid (Kpt w (w.alloc (.cells #[.int .i64 W, v] 24))) := (Kpt.refl w).alloc _
  obtain ⟨a, cap, rfl, -⟩ := hr
  unfold calV at *
  unfold tdyE
  by_cases h : daysE W hs [q] = 0
  · rw [if_pos h]
    rw [h] at IS
    clear h
    cases hb : isR W hs q with
    | true =>
      rw [hb] at IS
      rw [if_pos rfl]
      go_enter Try.func59, Try.ntmps59
      go_wp2_with (go_at_call 105; (with_reducible refine (IS.out _ K1.out).mono ?_); rintro x w1 ⟨rfl, k1⟩; have K2 := Lib.hid (ktr K1.out k1); clear k1)
      go_ret
      exact ⟨rfl, K2.out⟩
    | false =>
      rw [hb] at IS
      rw [if_neg (by decide)]
      go_enter Try.func59, Try.ntmps59
      go_wp2_with (go_at_call 105; (with_reducible refine (IS.out _ K1.out).mono ?_); rintro x w1 ⟨rfl, k1⟩; have K2 := Lib.hid (ktr K1.out k1); clear k1)
      go_ret
      exact ⟨rfl, K2.out⟩
  · rw [if_neg h]
    have z0 : (daysE W hs [q] != 0) = true := bne_iff_ne.2 h
    clear h
    generalize daysE W hs [q] = E at *
    go_enter Try.func59, Try.ntmps59
    go_wp2_with (go_at_call 105; (with_reducible refine (IS.out _ K1.out).mono ?_); rintro x w1 ⟨rfl, k1⟩; have K2 := Lib.hid (ktr K1.out k1); clear k1)
    go_ret
    exact ⟨rfl, K2.out⟩

end Go.Proofs.Ytgccipmeiceonaa

-- PenM
namespace Go.Proofs.Ytgccipmeiceonaa
open Go.RowKit
set_option linter.unusedVariables false

/-- the error of a fail at its terms; the stage it is in; what is open of it -/
def lkL (W : Int) (hs tl l : List Int) (q : Int) : Int := lkE W hs (tl.getD 0 0) (tl.getD 1 0) (tl.getD 2 0) (tl.getD 3 0) (l.getD 0 0) (l.getD 1 0) (l.getD 2 0) (l.getD 3 0) (l.getD 4 0) (l.getD 5 0) (l.getD 6 0) (l.getD 7 0) (l.getD 8 0) (l.getD 9 0) q
def stL (W : Int) (hs tl l : List Int) (q : Int) : Int := stgR W hs (tl.getD 0 0) (tl.getD 1 0) (tl.getD 2 0) (tl.getD 3 0) (l.getD 0 0) (l.getD 1 0) (l.getD 2 0) (l.getD 3 0) (l.getD 4 0) (l.getD 5 0) (l.getD 6 0) (l.getD 7 0) (l.getD 8 0) (l.getD 9 0) q
def opL (l : List Int) : Int := openV (l.getD 0 0) (l.getD 1 0) (l.getD 2 0) (l.getD 3 0) (l.getD 4 0) (l.getD 5 0) (l.getD 6 0) (l.getD 7 0) (l.getD 8 0) (l.getD 9 0)
/-- what a fail costs at these terms and that price -/
def csL (W : Int) (hs tl l : List Int) (p q : Int) : Int := if stL W hs tl l q = 0 ∨ stL W hs tl l q = 5 then 0 else dlyQ (opL l) p (tl.getD 3 0)
def csV (W : Int) (hs tl l : List Int) (p q : Int) : Int := if lkL W hs tl l q = 0 then csL W hs tl l p q else 0
theorem lkL_fl {W : Int} {hs tl l : List Int} {q : Int} (h : lkL W hs tl l q = 0) : failEL l = 0 := (lk_0 h).2.1
theorem fail_bd {i f t c p d u x b y : Int} (h : failE i f t c p d u x b y = 0) : (1 ≤ u ∧ u ≤ 1073741824) ∧ (0 ≤ x ∧ 0 ≤ b ∧ 0 ≤ y ∧ x + b + y ≤ u) ∧ (0 ≤ c ∧ c ≤ 5) ∧ (1 ≤ p ∧ p ≤ 20) ∧ (0 ≤ f ∧ f ≤ 30) ∧ (0 ≤ t ∧ t ≤ 30) := by
  obtain ⟨h1, -, h3, h4⟩ := fail_0 h
  obtain ⟨-, -, h5, h6, h7, h8⟩ := fdue_t h1
  obtain ⟨g1, g2, g3⟩ := ftk_t h3
  refine ⟨h8, ⟨g1.1, g2.1, g3.1, by omega⟩, h6, h7, h5⟩
theorem op_bd {l : List Int} (h : failEL l = 0) : 0 ≤ opL l ∧ opL l ≤ 1073741824 := by
  have h' := fail_bd h
  unfold failEL at h
  unfold opL openV
  rw [if_pos h]
  omega
/-- the terms of a fail's class, the price of its paper -/
def tlOf (ts : List (List Int)) (l : List Int) : List Int := ts.getD (l.getD 3 0).toNat []
def prOf (ps : List Int) (l : List Int) : Int := ps.getD (l.getD 4 0 - 1).toNat 0
def pdE (W : Int) (hs : List Int) (ts : List (List Int)) (q : Int) : List (List Int) → Int
  | [] => 0
  | l :: fs => orE (lkL W hs (tlOf ts l) l q) (pdE W hs ts q fs)
def dueL (W : Int) (hs : List Int) (ts : List (List Int)) (ps : List Int) (q : Int) : List (List Int) → List (Int × Int × Int)
  | [] => []
  | l :: fs => if 0 < csL W hs (tlOf ts l) l (prOf ps l) q then (l.getD 1 0, l.getD 2 0, csL W hs (tlOf ts l) l (prOf ps l) q) :: dueL W hs ts ps q fs else dueL W hs ts ps q fs
theorem pdE_app {W : Int} {hs : List Int} {ts : List (List Int)} {q : Int} (a b : List (List Int)) : pdE W hs ts q (a ++ b) = orE (pdE W hs ts q a) (pdE W hs ts q b) := by
  induction a with
  | nil => exact (orE_r rfl).symm
  | cons l a ih =>
    rw [List.cons_append, pdE, pdE, ih]
    unfold orE
    split <;> rfl
theorem dueL_app {W : Int} {hs : List Int} {ts : List (List Int)} {ps : List Int} {q : Int} (a b : List (List Int)) : dueL W hs ts ps q (a ++ b) = dueL W hs ts ps q a ++ dueL W hs ts ps q b := by
  induction a with
  | nil => rfl
  | cons l a ih =>
    rw [List.cons_append, dueL, dueL, ih]
    split <;> rfl
/-- the error ahead of the fails themselves -/
def preE (W : Int) (hs : List Int) (ts fs : List (List Int)) (ps : List Int) (q : Int) : Int := orE (calE W hs) (orE (clsE ts) (orE (checksE fs) (orE (prsE ps) (tdyE W hs q))))
def dayE (W : Int) (hs : List Int) (ts fs : List (List Int)) (ps : List Int) (q : Int) : Int := orE (preE W hs ts fs ps q) (pdE W hs ts q fs)
def dayD (W : Int) (hs : List Int) (ts fs : List (List Int)) (ps : List Int) (q : Int) : List (Int × Int × Int) := if dayE W hs ts fs ps q = 0 then dueL W hs ts ps q fs else []
theorem dueL_len {W : Int} {hs : List Int} {ts : List (List Int)} {ps : List Int} {q : Int} (fs : List (List Int)) : (dueL W hs ts ps q fs).length ≤ fs.length := by
  induction fs with
  | nil => exact Nat.le_refl _
  | cons l fs ih =>
    rw [dueL]
    split
    · simpa using ih
    · simp only [List.length_cons]; omega

end Go.Proofs.Ytgccipmeiceonaa
