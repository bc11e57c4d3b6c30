/-
  Merged: CycP, CycQ.
-/
import Derived.Test.YthaahebggboliaaGreatMcl
import Derived.Test.YthaahebggboliaaGreatMte
-- CycP
namespace Go.Proofs.YthaahebggboliaaGreat
open Go.RowKit Go.Sort Go.Lib
set_option linter.unusedVariables false

def fbA : List Int := [7, 1, 2, 0, 3, 739935, 3000, 0, 0, 0]
def fbB : List Int := [7, 1, 2, 0, 3, 739935, 3000, 1000, 0, 0]
def fbC : List Int := [7, 1, 2, 0, 3, 739935, 3000, 1000, 0, 2000]
def tenZ : List Int := List.replicate 20 100000
def bkA : List (Int × Int × Int) := [(1, 3, -1000), (2, 3, 1000)]
def bkB : List (Int × Int × Int) := [(1, 0, -2), (1, 3, -1000), (2, 0, 2), (2, 3, 1000)]
def bkC : List (Int × Int × Int) := [(1, 0, -4), (1, 3, -1000), (2, 0, 4), (2, 3, 1000)]
def bkD : List (Int × Int × Int) := [(1, 0, -20004), (1, 3, -1000), (2, 0, 20004), (2, 3, 1000)]
set_option maxRecDepth 100000
set_option maxHeartbeats 4000000
theorem cb_1 : adE 739935 [] [] fbA = 0 := by decide +kernel
theorem cb_2 : dvE 739935 7 1000 [fbA] [] = 0 ∧ dvF 739935 7 1000 [fbA] [] = [fbB] ∧ dvB 739935 7 1000 [fbA] [] = bkA := by decide +kernel
theorem cb_3 : wldE 739937 [fbB] bkA = 0 ∧ wldE 739956 [fbB] bkB = 0 ∧ wldE 739957 [fbC] bkD = 0 ∧ dvE 739935 8 1 [fbA] [] = 5 ∧ wldE 0 [] [] = 0 := by decide +kernel
theorem cb_lk (q : Int) (h : dayB q = true) : lkL 96 wkH [4, 7, 2, 100] fbB q = 0 := by
  show lkE 96 wkH 4 7 2 100 7 1 2 0 3 739935 3000 1000 0 0 q = 0
  unfold lkE
  rw [if_pos ab_ct, if_pos (by decide), if_pos h]; exact ab_w
theorem cb_st (q s : Int) (h : dayB q = true) (hs : stgV 2000 739935 739942 739951 739953 q = s) : stL 96 wkH [4, 7, 2, 100] fbB q = s := by
  show stgR 96 wkH 4 7 2 100 7 1 2 0 3 739935 3000 1000 0 0 q = s
  unfold stgR
  rw [if_pos (show lkE 96 wkH 4 7 2 100 7 1 2 0 3 739935 3000 1000 0 0 q = 0 from cb_lk q h), ab_d1, ab_d2, ab_d3]; exact hs
theorem cb_cs (q s : Int) (h : dayB q = true) (hs : stgV 2000 739935 739942 739951 739953 q = s) (h0 : ¬ (s = 0 ∨ s = 5)) : csL 96 wkH [4, 7, 2, 100] fbB 100000 q = 2 := by
  unfold csL
  rw [cb_st q s h hs, if_neg h0]
  decide +kernel
theorem cb_due (q s : Int) (h : dayB q = true) (hs : stgV 2000 739935 739942 739951 739953 q = s) (h0 : ¬ (s = 0 ∨ s = 5)) : dueL 96 wkH clsT tenZ q [fbB] = [(1, 2, 2)] := by
  show (if 0 < csL 96 wkH [4, 7, 2, 100] fbB 100000 q then ((1 : Int), (2 : Int), csL 96 wkH [4, 7, 2, 100] fbB 100000 q) :: [] else []) = _
  rw [cb_cs q s h hs h0]; rfl
theorem cb_pre1 : preE 96 wkH clsT [fbB] tenZ 739937 = 0 ∧ preE 96 wkH clsT [fbB] tenZ 739956 = 0 := by decide +kernel
theorem cb_rul : rulE 96 wkH clsT 0 = 0 ∧ rulE 0 [] [] 0 = 1 := by decide +kernel
theorem cb_pd (q : Int) (h : dayB q = true) : pdE 96 wkH clsT q [fbB] = 0 := by
  show orE (lkL 96 wkH [4, 7, 2, 100] fbB q) 0 = 0
  rw [cb_lk q h]; rfl
theorem cb_day (q s : Int) (h : dayB q = true) (hs : stgV 2000 739935 739942 739951 739953 q = s) (h0 : ¬ (s = 0 ∨ s = 5)) (hp : preE 96 wkH clsT [fbB] tenZ q = 0) : dayE 96 wkH clsT [fbB] tenZ q = 0 ∧ dayD 96 wkH clsT [fbB] tenZ q = [(1, 2, 2)] := by
  have e : dayE 96 wkH clsT [fbB] tenZ q = 0 := by unfold dayE; rw [hp, cb_pd q h]; rfl
  exact ⟨e, by unfold dayD; rw [if_pos e]; exact cb_due q s h hs h0⟩
theorem cb_sum : sumE [(1, 2, 2)] = 0 ∧ sumD [(1, 2, 2)] = [(1, 0, -2), (2, 0, 2)] := by decide +kernel
theorem cb_po1 : cpoE bkA [(1, 0, -2), (2, 0, 2)] = 0 ∧ cpoB bkA [(1, 0, -2), (2, 0, 2)] = bkB ∧ cpoP bkA [(1, 0, -2), (2, 0, 2)] = [(1, 0, -2), (2, 0, 2)] := by decide +kernel
theorem cb_po2 : cpoE bkB [(1, 0, -2), (2, 0, 2)] = 0 ∧ cpoB bkB [(1, 0, -2), (2, 0, 2)] = bkC ∧ cpoP bkB [(1, 0, -2), (2, 0, 2)] = [(1, 0, -2), (2, 0, 2)] := by decide +kernel
theorem cb_po3 : cpoE bkC [(1, 0, -20000), (2, 0, 20000)] = 0 ∧ cpoB bkC [(1, 0, -20000), (2, 0, 20000)] = bkD ∧ cpoP bkC [(1, 0, -20000), (2, 0, 20000)] = [(1, 0, -20000), (2, 0, 20000)] := by decide +kernel
theorem cb_cm : cmL tenZ 0 fbB = [(1, 0, -20000), (2, 0, 20000)] ∧ payF fbB = fbC := by decide +kernel
theorem cb_ste1 : steR 96 wkH 739937 1 = 739938 ∧ steE 96 wkH 739937 1 = 0 := ste_up ab_cal (by decide) (by decide) (by decide) (by decide) (by decide) (by decide +kernel) (by decide +kernel)
theorem cb_ste2 : steR 96 wkH 739956 1 = 739957 ∧ steE 96 wkH 739956 1 = 0 := ste_up ab_cal (by decide) (by decide) (by decide) (by decide) (by decide) (by decide +kernel) (by decide +kernel)
theorem cb_td : opnF [fbC] = [] ∧ donF [fbC] = [fbC] := by decide +kernel
end Go.Proofs.YthaahebggboliaaGreat

-- CycQ
namespace Go.Proofs.YthaahebggboliaaGreat
open Go.RowKit Go.Sort Go.Lib
set_option linter.unusedVariables false
set_option maxRecDepth 100000
set_option maxHeartbeats 4000000
theorem cmP_one {W : Int} {hs : List Int} {ts : List (List Int)} {ps : List Int} {X q : Int} {l : List Int} : cmP W hs ts ps X q [l] = cmH W hs ts ps X q l := by simp [cmP]
theorem cb_pn (q s : Int) (b : List (Int × Int × Int)) (h : dayB q = true) (hs : stgV 2000 739935 739942 739951 739953 q = s) (h0 : ¬ (s = 0 ∨ s = 5)) (hp : preE 96 wkH clsT [fbB] tenZ q = 0) (hb : cpoE b [(1, 0, -2), (2, 0, 2)] = 0) :
    pnE 96 wkH clsT [fbB] tenZ q b = 0 ∧ pnL 96 wkH clsT [fbB] tenZ q = [(1, 0, -2), (2, 0, 2)] ∧ pnB 96 wkH clsT [fbB] tenZ q b = cpoB b [(1, 0, -2), (2, 0, 2)] := by
  obtain ⟨e1, e2⟩ := cb_day q s h hs h0 hp
  have e3 : pnL 96 wkH clsT [fbB] tenZ q = [(1, 0, -2), (2, 0, 2)] := by
    unfold pnL
    rw [e2, if_pos cb_sum.1, cb_sum.2]
  refine ⟨?_, e3, by unfold pnB; rw [e3]⟩
  unfold pnE
  rw [if_pos e1, e2, cb_sum.1, if_neg (by decide), if_pos rfl, cb_sum.2]
  exact hb
theorem cb_n1 : ntE 96 wkH clsT 0 [fbB] tenZ 739937 bkA = 0 ∧ ntT 96 wkH clsT 0 [fbB] tenZ 739937 bkA = 739938 ∧ ntF 96 wkH clsT 0 [fbB] tenZ 739937 bkA = [fbB] ∧ ntB 96 wkH clsT 0 [fbB] tenZ 739937 bkA = bkB ∧ ntP 96 wkH clsT 0 [fbB] tenZ 739937 bkA = [(1, 0, -2), (2, 0, 2)] := by
  obtain ⟨p1, p2, p3⟩ := cb_pn 739937 1 bkA (by decide) (by decide) (by decide) cb_pre1.1 cb_po1.1
  rw [cb_po1.2.1] at p3
  have hl : lkL 96 wkH (tlOf clsT fbB) fbB 739937 = 0 := cb_lk 739937 (by decide)
  have h4 : ¬ stL 96 wkH (tlOf clsT fbB) fbB 739937 = 4 := by
    rw [show stL 96 wkH (tlOf clsT fbB) fbB 739937 = 1 from cb_st 739937 1 (by decide) (by decide)]; decide
  have c1 : cmE 96 wkH clsT tenZ 0 739937 [fbB] bkB = 0 := by
    unfold cmE; rw [if_pos hl, if_neg h4]; rfl
  have c2 : cmB 96 wkH clsT tenZ 0 739937 [fbB] bkB = bkB := by
    unfold cmB; rw [if_neg h4]; rfl
  have c3 : cmF 96 wkH clsT 739937 [fbB] = [fbB] := by
    show [cmG 96 wkH clsT 739937 fbB] = _
    unfold cmG; rw [if_neg h4]
  have c4 : cmP 96 wkH clsT tenZ 0 739937 [fbB] = [] := by
    rw [cmP_one]; unfold cmH; rw [if_neg h4]
  have e : ntE 96 wkH clsT 0 [fbB] tenZ 739937 bkA = 0 := by
    unfold ntE
    rw [orE, if_pos cb_rul.1, orE, if_pos cb_3.1]
    unfold nigE
    rw [if_pos p1, p3, if_pos c1]
    exact cb_ste1.2
  refine ⟨e, by unfold ntT; rw [if_pos e]; exact cb_ste1.1, by unfold ntF; rw [if_pos e]; exact c3, by unfold ntB nigB; rw [if_pos e, p3]; exact c2, ?_⟩
  unfold ntP nigP
  rw [if_pos e, p2, c4, cb_po1.2.2]; rfl
theorem cb_n2 : ntE 96 wkH clsT 0 [fbB] tenZ 739956 bkB = 0 ∧ ntT 96 wkH clsT 0 [fbB] tenZ 739956 bkB = 739957 ∧ ntF 96 wkH clsT 0 [fbB] tenZ 739956 bkB = [fbC] ∧ ntB 96 wkH clsT 0 [fbB] tenZ 739956 bkB = bkD ∧ ntP 96 wkH clsT 0 [fbB] tenZ 739956 bkB = [(1, 0, -2), (2, 0, 2), (1, 0, -20000), (2, 0, 20000)] := by
  obtain ⟨p1, p2, p3⟩ := cb_pn 739956 4 bkB (by decide) (by decide) (by decide) cb_pre1.2 cb_po2.1
  rw [cb_po2.2.1] at p3
  have hl : lkL 96 wkH (tlOf clsT fbB) fbB 739956 = 0 := cb_lk 739956 (by decide)
  have h4 : stL 96 wkH (tlOf clsT fbB) fbB 739956 = 4 := cb_st 739956 4 (by decide) (by decide)
  have c1 : cmE 96 wkH clsT tenZ 0 739956 [fbB] bkC = 0 := by
    unfold cmE; rw [if_pos hl, if_pos h4, cb_cm.1, if_pos cb_po3.1]; rfl
  have c2 : cmB 96 wkH clsT tenZ 0 739956 [fbB] bkC = bkD := by
    unfold cmB; rw [if_pos h4, cb_cm.1, cb_po3.2.1]; rfl
  have c3 : cmF 96 wkH clsT 739956 [fbB] = [fbC] := by
    show [cmG 96 wkH clsT 739956 fbB] = _
    unfold cmG; rw [if_pos h4, cb_cm.2]
  have c4 : cmP 96 wkH clsT tenZ 0 739956 [fbB] = [(1, 0, -20000), (2, 0, 20000)] := by
    rw [cmP_one]; unfold cmH; rw [if_pos h4, cb_cm.1]
  have e : ntE 96 wkH clsT 0 [fbB] tenZ 739956 bkB = 0 := by
    unfold ntE
    rw [orE, if_pos cb_rul.1, orE, if_pos cb_3.2.1]
    unfold nigE
    rw [if_pos p1, p3, if_pos c1]
    exact cb_ste2.2
  refine ⟨e, by unfold ntT; rw [if_pos e]; exact cb_ste2.1, by unfold ntF; rw [if_pos e]; exact c3, by unfold ntB nigB; rw [if_pos e, p3]; exact c2, ?_⟩
  unfold ntP nigP
  rw [if_pos e, p2, c4, cb_po2.2.2]; rfl
end Go.Proofs.YthaahebggboliaaGreat
