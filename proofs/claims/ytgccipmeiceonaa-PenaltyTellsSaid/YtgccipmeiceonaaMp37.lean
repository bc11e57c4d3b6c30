/-
  Merged: PenG, PenN.
-/
import Derived.Test.YtgccipmeiceonaaMp27
import Derived.Test.YtgccipmeiceonaaMp35
import Derived.Test.YtgccipmeiceonaaMp2
import Derived.Test.YtgccipmeiceonaaMp36
-- PenG
namespace Go.Proofs.Ytgccipmeiceonaa
open Go.RowKit
set_option linter.unusedVariables false

theorem idsE_fl {ids : List Int} {fs : List (List Int)} (h : idsE ids fs = 0) : ∀ l ∈ fs, failEL l = 0 := by
  induction fs generalizing ids with
  | nil => intro l hl; cases hl
  | cons l fs ih =>
    unfold idsE at h
    by_cases h1 : failEL l = 0
    · rw [if_neg (by simpa using h1)] at h
      split at h
      · cases h
      · intro k hk
        rcases List.mem_cons.1 hk with rfl | hk
        · exact h1
        · exact ih h k hk
    · rw [if_pos h1] at h; exact absurd h h1
theorem checksE_0 {fs : List (List Int)} (h : checksE fs = 0) : fs.length ≤ 60 ∧ ∀ l ∈ fs, failEL l = 0 := by
  unfold checksE at h
  split at h
  · cases h
  · exact ⟨by omega, idsE_fl h⟩
theorem fl_cls {l : List Int} (h : failEL l = 0) : (0 ≤ l.getD 3 0 ∧ l.getD 3 0 ≤ 5) ∧ 1 ≤ l.getD 4 0 ∧ l.getD 4 0 ≤ 20 := by
  unfold failEL at h
  have := fail_bd h
  omega
theorem clsE_0 {ts : List (List Int)} (h : clsE ts = 0) : ts.length = 6 := by
  unfold clsE at h; split at h
  · assumption
  · cases h
theorem prsE_0 {ps : List Int} (h : prsE ps = 0) : ps.length = 20 ∧ ∀ p ∈ ps, prcB p = true := by
  unfold prsE at h; split at h
  · exact ⟨by assumption, prs_0 h⟩
  · cases h
theorem day_B {W : Int} {hs : List Int} {ts fs : List (List Int)} {ps : List Int} {q : Int} (h : preE W hs ts fs ps q = 0) : dayE W hs ts fs ps q = pdE W hs ts q fs ∧ dayD W hs ts fs ps q = if pdE W hs ts q fs = 0 then dueL W hs ts ps q fs else [] := by
  have e : dayE W hs ts fs ps q = pdE W hs ts q fs := orE_r h
  refine ⟨e, ?_⟩
  unfold dayD; rw [e]
theorem day_A {W : Int} {hs : List Int} {ts fs : List (List Int)} {ps : List Int} {q : Int} (h : preE W hs ts fs ps q ≠ 0) : dayE W hs ts fs ps q = preE W hs ts fs ps q ∧ dayD W hs ts fs ps q = [] := by
  have e : dayE W hs ts fs ps q = preE W hs ts fs ps q := orE_l _ h
  refine ⟨e, ?_⟩
  unfold dayD; rw [e, if_neg h]
theorem pd_0 {W : Int} {hs : List Int} {ts : List (List Int)} {q : Int} {l : List Int} {fs : List (List Int)} (h : lkL W hs (tlOf ts l) l q = 0) : pdE W hs ts q (l :: fs) = pdE W hs ts q fs := orE_r h
theorem pd_1 {W : Int} {hs : List Int} {ts : List (List Int)} {q : Int} {l : List Int} {fs : List (List Int)} (h : lkL W hs (tlOf ts l) l q ≠ 0) : pdE W hs ts q (l :: fs) = lkL W hs (tlOf ts l) l q := orE_l _ h
theorem csV_0 {W : Int} {hs tl l : List Int} {p q : Int} (h : lkL W hs tl l q = 0) : csV W hs tl l p q = csL W hs tl l p q := if_pos h
theorem dueL_p {W : Int} {hs : List Int} {ts : List (List Int)} {ps : List Int} {q : Int} {l : List Int} {fs : List (List Int)} (h : lkL W hs (tlOf ts l) l q = 0) (h0 : 0 < csV W hs (tlOf ts l) l (prOf ps l) q) : dueL W hs ts ps q (l :: fs) = [(l.getD 1 0, l.getD 2 0, csV W hs (tlOf ts l) l (prOf ps l) q)] ++ dueL W hs ts ps q fs := by
  rw [csV_0 h] at h0 ⊢
  rw [dueL, if_pos h0]; rfl
theorem dueL_n {W : Int} {hs : List Int} {ts : List (List Int)} {ps : List Int} {q : Int} {l : List Int} {fs : List (List Int)} (h : lkL W hs (tlOf ts l) l q = 0) (h0 : ¬ 0 < csV W hs (tlOf ts l) l (prOf ps l) q) : dueL W hs ts ps q (l :: fs) = dueL W hs ts ps q fs := by
  rw [csV_0 h] at h0
  rw [dueL, if_neg h0]
/-- costOf, its terms and its fail told as lists -/
theorem cost_L (W z q : Int) (tl l : List Int) (v : Value) (hs : List Int) (w : World) (hr : Reads w v hs) (hf : Fits hs) (hp : prcB z = true) :
    Calls Try.prog 60 #[calV W v, .agg #[.int .i64 (tl.getD 0 0), .int .i64 (tl.getD 1 0), .int .i64 (tl.getD 2 0), .int .i64 (tl.getD 3 0)], .agg #[.int .i64 (l.getD 0 0), .int .i64 (l.getD 1 0), .int .i64 (l.getD 2 0), .int .i64 (l.getD 3 0), .int .i64 (l.getD 4 0), .int .i64 (l.getD 5 0), .int .i64 (l.getD 6 0), .int .i64 (l.getD 7 0), .int .i64 (l.getD 8 0), .int .i64 (l.getD 9 0)], .int .i64 z, .int .i64 q] w fun e w' => e = .returned (.tuple #[.int .i64 (csV W hs tl l z q), .int .i64 (lkL W hs tl l q)]) ∧ Kpt w w' :=
  cost_all W _ _ _ _ _ _ _ _ _ _ _ _ _ _ z q v hs w hr hf hp

def DayRes (w : World) (E : Int) (ds : List (Int × Int × Int)) (e : Ending) (w' : World) : Prop := ∃ dv, e = .returned (.tuple #[dv, .int .i64 E]) ∧ OwnsT 80 w' w.heap.size dv ds ∧ Kpt w w'
def ifD (X : Int) (D : List (Int × Int × Int)) : List (Int × Int × Int) := if X = 0 then D else []
theorem dayRes_nil {w w' : World} {E X : Int} {ds : List (Int × Int × Int)} (h : E = X) (hd : ds = []) (k : Kpt w w') : DayRes w X ds (.returned (.tuple #[.slice none 0 0, .int .i64 E])) w' := by
  subst h; subst hd
  exact ⟨_, rfl, OwnsT.nil _ _ _, k⟩
theorem dayRes_ok {w w' : World} {M : Nat} {X : Int} {dv : Value} {ds es : List (Int × Int × Int)} (h : X = 0) (hd : es = ds) (ho : OwnsT 80 w' M dv ds) (hM : w.heap.size ≤ M) (k : Kpt w w') : DayRes w X es (.returned (.tuple #[dv, .int .i64 0])) w' := by
  subst h; subst hd
  exact ⟨_, rfl, ho.base hM, k⟩

theorem apart_nil (v : Value) : Apart (.slice none 0 0) v := .inl rfl

set_option maxRecDepth 100000 in
set_option maxHeartbeats 8000000 in
theorem day_no (W q : Int) (v tv lv pv : Value) (hs : List Int) (ts fs : List (List Int)) (ps : List Int) (w : World) (hr : Reads w v hs) (hf : Fits hs) (ht : ReadsT w tv ts) (hl : ReadsF w lv fs) (hp : Reads w pv ps) (hE : preE W hs ts fs ps q ≠ 0) :
    Calls Try.prog 8 #[calV W v, tv, lv, pv, .int .i64 q] w (DayRes w (preE W hs ts fs ps q) []) := by
  have hmf : ∀ fn first cap w, (Instr.makeFunc fn first cap).run Try.prog w = .ok (.func fn first cap) w := fun _ _ _ _ => rfl
  obtain ⟨a, cap, rfl, ha⟩ := id hr
  obtain ⟨at1, ct, rfl, hmt, hct⟩ := id ht
  obtain ⟨al, cl, rfl, hml, hbl, hcl⟩ := id hl
  obtain ⟨ap, cp, rfl, hmp⟩ := id hp
  have K6 : Hid (Kpt w ((((((w.alloc (.cells #[.int .i64 W, .slice a hs.length cap] 24)).alloc (.cells #[.slice at1 ts.length ct] 25)).alloc (.cells #[.slice al fs.length cl] 26)).alloc (.cells #[.slice ap ps.length cp] 22)).alloc (.cells #[.int .i64 q] 3)).alloc (.cells #[.func (.func 51) #[] #[.pointer (some ⟨w.heap.size, 0, none⟩)], .func (.func 53) #[] #[.pointer (some ⟨w.heap.size + 1, 0, none⟩)], .func (.func 55) #[] #[.pointer (some ⟨w.heap.size + 2, 0, none⟩)], .func (.func 57) #[] #[.pointer (some ⟨w.heap.size + 3, 0, none⟩)], .func (.func 58) #[] #[.pointer (some ⟨w.heap.size, 0, none⟩), .pointer (some ⟨w.heap.size + 4, 0, none⟩)]] 72))) := ((((((Kpt.refl w).alloc _).alloc _).alloc _).alloc _).alloc _).alloc _
  have BC : Hid (Blk ((((((w.alloc (.cells #[.int .i64 W, .slice a hs.length cap] 24)).alloc (.cells #[.slice at1 ts.length ct] 25)).alloc (.cells #[.slice al fs.length cl] 26)).alloc (.cells #[.slice ap ps.length cp] 22)).alloc (.cells #[.int .i64 q] 3)).alloc (.cells #[.func (.func 51) #[] #[.pointer (some ⟨w.heap.size, 0, none⟩)], .func (.func 53) #[] #[.pointer (some ⟨w.heap.size + 1, 0, none⟩)], .func (.func 55) #[] #[.pointer (some ⟨w.heap.size + 2, 0, none⟩)], .func (.func 57) #[] #[.pointer (some ⟨w.heap.size + 3, 0, none⟩)], .func (.func 58) #[] #[.pointer (some ⟨w.heap.size, 0, none⟩), .pointer (some ⟨w.heap.size + 4, 0, none⟩)]] 72)) (w.heap.size) #[.int .i64 W, .slice a hs.length cap] 24) := by
    have := ((((((Blk.made w #[.int .i64 W, .slice a hs.length cap] 24).alloc (.cells #[.slice at1 ts.length ct] 25)).alloc (.cells #[.slice al fs.length cl] 26)).alloc (.cells #[.slice ap ps.length cp] 22)).alloc (.cells #[.int .i64 q] 3)).alloc (.cells #[.func (.func 51) #[] #[.pointer (some ⟨w.heap.size, 0, none⟩)], .func (.func 53) #[] #[.pointer (some ⟨w.heap.size + 1, 0, none⟩)], .func (.func 55) #[] #[.pointer (some ⟨w.heap.size + 2, 0, none⟩)], .func (.func 57) #[] #[.pointer (some ⟨w.heap.size + 3, 0, none⟩)], .func (.func 58) #[] #[.pointer (some ⟨w.heap.size, 0, none⟩), .pointer (some ⟨w.heap.size + 4, 0, none⟩)]] 72))
    unfold Hid; simpa using this
  have BT : Hid (Blk ((((((w.alloc (.cells #[.int .i64 W, .slice a hs.length cap] 24)).alloc (.cells #[.slice at1 ts.length ct] 25)).alloc (.cells #[.slice al fs.length cl] 26)).alloc (.cells #[.slice ap ps.length cp] 22)).alloc (.cells #[.int .i64 q] 3)).alloc (.cells #[.func (.func 51) #[] #[.pointer (some ⟨w.heap.size, 0, none⟩)], .func (.func 53) #[] #[.pointer (some ⟨w.heap.size + 1, 0, none⟩)], .func (.func 55) #[] #[.pointer (some ⟨w.heap.size + 2, 0, none⟩)], .func (.func 57) #[] #[.pointer (some ⟨w.heap.size + 3, 0, none⟩)], .func (.func 58) #[] #[.pointer (some ⟨w.heap.size, 0, none⟩), .pointer (some ⟨w.heap.size + 4, 0, none⟩)]] 72)) (w.heap.size + 1) #[.slice at1 ts.length ct] 25) := by
    have := (((((Blk.made (w.alloc (.cells #[.int .i64 W, .slice a hs.length cap] 24)) #[.slice at1 ts.length ct] 25).alloc (.cells #[.slice al fs.length cl] 26)).alloc (.cells #[.slice ap ps.length cp] 22)).alloc (.cells #[.int .i64 q] 3)).alloc (.cells #[.func (.func 51) #[] #[.pointer (some ⟨w.heap.size, 0, none⟩)], .func (.func 53) #[] #[.pointer (some ⟨w.heap.size + 1, 0, none⟩)], .func (.func 55) #[] #[.pointer (some ⟨w.heap.size + 2, 0, none⟩)], .func (.func 57) #[] #[.pointer (some ⟨w.heap.size + 3, 0, none⟩)], .func (.func 58) #[] #[.pointer (some ⟨w.heap.size, 0, none⟩), .pointer (some ⟨w.heap.size + 4, 0, none⟩)]] 72))
    unfold Hid; simpa using this
  have BL : Hid (Blk ((((((w.alloc (.cells #[.int .i64 W, .slice a hs.length cap] 24)).alloc (.cells #[.slice at1 ts.length ct] 25)).alloc (.cells #[.slice al fs.length cl] 26)).alloc (.cells #[.slice ap ps.length cp] 22)).alloc (.cells #[.int .i64 q] 3)).alloc (.cells #[.func (.func 51) #[] #[.pointer (some ⟨w.heap.size, 0, none⟩)], .func (.func 53) #[] #[.pointer (some ⟨w.heap.size + 1, 0, none⟩)], .func (.func 55) #[] #[.pointer (some ⟨w.heap.size + 2, 0, none⟩)], .func (.func 57) #[] #[.pointer (some ⟨w.heap.size + 3, 0, none⟩)], .func (.func 58) #[] #[.pointer (some ⟨w.heap.size, 0, none⟩), .pointer (some ⟨w.heap.size + 4, 0, none⟩)]] 72)) (w.heap.size + 2) #[.slice al fs.length cl] 26) := by
    have := ((((Blk.made ((w.alloc (.cells #[.int .i64 W, .slice a hs.length cap] 24)).alloc (.cells #[.slice at1 ts.length ct] 25)) #[.slice al fs.length cl] 26).alloc (.cells #[.slice ap ps.length cp] 22)).alloc (.cells #[.int .i64 q] 3)).alloc (.cells #[.func (.func 51) #[] #[.pointer (some ⟨w.heap.size, 0, none⟩)], .func (.func 53) #[] #[.pointer (some ⟨w.heap.size + 1, 0, none⟩)], .func (.func 55) #[] #[.pointer (some ⟨w.heap.size + 2, 0, none⟩)], .func (.func 57) #[] #[.pointer (some ⟨w.heap.size + 3, 0, none⟩)], .func (.func 58) #[] #[.pointer (some ⟨w.heap.size, 0, none⟩), .pointer (some ⟨w.heap.size + 4, 0, none⟩)]] 72))
    unfold Hid; simpa using this
  have BP : Hid (Blk ((((((w.alloc (.cells #[.int .i64 W, .slice a hs.length cap] 24)).alloc (.cells #[.slice at1 ts.length ct] 25)).alloc (.cells #[.slice al fs.length cl] 26)).alloc (.cells #[.slice ap ps.length cp] 22)).alloc (.cells #[.int .i64 q] 3)).alloc (.cells #[.func (.func 51) #[] #[.pointer (some ⟨w.heap.size, 0, none⟩)], .func (.func 53) #[] #[.pointer (some ⟨w.heap.size + 1, 0, none⟩)], .func (.func 55) #[] #[.pointer (some ⟨w.heap.size + 2, 0, none⟩)], .func (.func 57) #[] #[.pointer (some ⟨w.heap.size + 3, 0, none⟩)], .func (.func 58) #[] #[.pointer (some ⟨w.heap.size, 0, none⟩), .pointer (some ⟨w.heap.size + 4, 0, none⟩)]] 72)) (w.heap.size + 3) #[.slice ap ps.length cp] 22) := by
    have := (((Blk.made (((w.alloc (.cells #[.int .i64 W, .slice a hs.length cap] 24)).alloc (.cells #[.slice at1 ts.length ct] 25)).alloc (.cells #[.slice al fs.length cl] 26)) #[.slice ap ps.length cp] 22).alloc (.cells #[.int .i64 q] 3)).alloc (.cells #[.func (.func 51) #[] #[.pointer (some ⟨w.heap.size, 0, none⟩)], .func (.func 53) #[] #[.pointer (some ⟨w.heap.size + 1, 0, none⟩)], .func (.func 55) #[] #[.pointer (some ⟨w.heap.size + 2, 0, none⟩)], .func (.func 57) #[] #[.pointer (some ⟨w.heap.size + 3, 0, none⟩)], .func (.func 58) #[] #[.pointer (some ⟨w.heap.size, 0, none⟩), .pointer (some ⟨w.heap.size + 4, 0, none⟩)]] 72))
    unfold Hid; simpa using this
  have BQ : Hid (Blk ((((((w.alloc (.cells #[.int .i64 W, .slice a hs.length cap] 24)).alloc (.cells #[.slice at1 ts.length ct] 25)).alloc (.cells #[.slice al fs.length cl] 26)).alloc (.cells #[.slice ap ps.length cp] 22)).alloc (.cells #[.int .i64 q] 3)).alloc (.cells #[.func (.func 51) #[] #[.pointer (some ⟨w.heap.size, 0, none⟩)], .func (.func 53) #[] #[.pointer (some ⟨w.heap.size + 1, 0, none⟩)], .func (.func 55) #[] #[.pointer (some ⟨w.heap.size + 2, 0, none⟩)], .func (.func 57) #[] #[.pointer (some ⟨w.heap.size + 3, 0, none⟩)], .func (.func 58) #[] #[.pointer (some ⟨w.heap.size, 0, none⟩), .pointer (some ⟨w.heap.size + 4, 0, none⟩)]] 72)) (w.heap.size + 4) #[.int .i64 q] 3) := by
    have := ((Blk.made ((((w.alloc (.cells #[.int .i64 W, .slice a hs.length cap] 24)).alloc (.cells #[.slice at1 ts.length ct] 25)).alloc (.cells #[.slice al fs.length cl] 26)).alloc (.cells #[.slice ap ps.length cp] 22)) #[.int .i64 q] 3).alloc (.cells #[.func (.func 51) #[] #[.pointer (some ⟨w.heap.size, 0, none⟩)], .func (.func 53) #[] #[.pointer (some ⟨w.heap.size + 1, 0, none⟩)], .func (.func 55) #[] #[.pointer (some ⟨w.heap.size + 2, 0, none⟩)], .func (.func 57) #[] #[.pointer (some ⟨w.heap.size + 3, 0, none⟩)], .func (.func 58) #[] #[.pointer (some ⟨w.heap.size, 0, none⟩), .pointer (some ⟨w.heap.size + 4, 0, none⟩)]] 72))
    unfold Hid; simpa using this
  have BN : Hid (Blk ((((((w.alloc (.cells #[.int .i64 W, .slice a hs.length cap] 24)).alloc (.cells #[.slice at1 ts.length ct] 25)).alloc (.cells #[.slice al fs.length cl] 26)).alloc (.cells #[.slice ap ps.length cp] 22)).alloc (.cells #[.int .i64 q] 3)).alloc (.cells #[.func (.func 51) #[] #[.pointer (some ⟨w.heap.size, 0, none⟩)], .func (.func 53) #[] #[.pointer (some ⟨w.heap.size + 1, 0, none⟩)], .func (.func 55) #[] #[.pointer (some ⟨w.heap.size + 2, 0, none⟩)], .func (.func 57) #[] #[.pointer (some ⟨w.heap.size + 3, 0, none⟩)], .func (.func 58) #[] #[.pointer (some ⟨w.heap.size, 0, none⟩), .pointer (some ⟨w.heap.size + 4, 0, none⟩)]] 72)) (w.heap.size + 5) #[.func (.func 51) #[] #[.pointer (some ⟨w.heap.size, 0, none⟩)], .func (.func 53) #[] #[.pointer (some ⟨w.heap.size + 1, 0, none⟩)], .func (.func 55) #[] #[.pointer (some ⟨w.heap.size + 2, 0, none⟩)], .func (.func 57) #[] #[.pointer (some ⟨w.heap.size + 3, 0, none⟩)], .func (.func 58) #[] #[.pointer (some ⟨w.heap.size, 0, none⟩), .pointer (some ⟨w.heap.size + 4, 0, none⟩)]] 72) := by
    have := (Blk.made (((((w.alloc (.cells #[.int .i64 W, .slice a hs.length cap] 24)).alloc (.cells #[.slice at1 ts.length ct] 25)).alloc (.cells #[.slice al fs.length cl] 26)).alloc (.cells #[.slice ap ps.length cp] 22)).alloc (.cells #[.int .i64 q] 3)) #[.func (.func 51) #[] #[.pointer (some ⟨w.heap.size, 0, none⟩)], .func (.func 53) #[] #[.pointer (some ⟨w.heap.size + 1, 0, none⟩)], .func (.func 55) #[] #[.pointer (some ⟨w.heap.size + 2, 0, none⟩)], .func (.func 57) #[] #[.pointer (some ⟨w.heap.size + 3, 0, none⟩)], .func (.func 58) #[] #[.pointer (some ⟨w.heap.size, 0, none⟩), .pointer (some ⟨w.heap.size + 4, 0, none⟩)]] 72)
    unfold Hid; simpa using this
  have FR := Lib.hid (first_run (w.heap.size + 5) 5 w.heap.size (w.heap.size + 1) (w.heap.size + 2) (w.heap.size + 3) (w.heap.size + 4) (calE W hs) (clsE ts) (checksE fs) (prsE ps) (tdyE W hs q) ((((((w.alloc (.cells #[.int .i64 W, .slice a hs.length cap] 24)).alloc (.cells #[.slice at1 ts.length ct] 25)).alloc (.cells #[.slice al fs.length cl] 26)).alloc (.cells #[.slice ap ps.length cp] 22)).alloc (.cells #[.int .i64 q] 3)).alloc (.cells #[.func (.func 51) #[] #[.pointer (some ⟨w.heap.size, 0, none⟩)], .func (.func 53) #[] #[.pointer (some ⟨w.heap.size + 1, 0, none⟩)], .func (.func 55) #[] #[.pointer (some ⟨w.heap.size + 2, 0, none⟩)], .func (.func 57) #[] #[.pointer (some ⟨w.heap.size + 3, 0, none⟩)], .func (.func 58) #[] #[.pointer (some ⟨w.heap.size, 0, none⟩), .pointer (some ⟨w.heap.size + 4, 0, none⟩)]] 72))
    (BN.out.cell 0) (BN.out.cell 1) (BN.out.cell 2) (BN.out.cell 3) (BN.out.cell 4)
    (fun w' k => clo1 W _ hs _ w' (BC.out.kpt k) (hr.kpt (ktr K6.out k)) hf)
    (fun w' k => clo2 _ ts _ w' (BT.out.kpt k) (ht.kpt (ktr K6.out k)))
    (fun w' k => clo3 _ fs _ w' (BL.out.kpt k) (hl.kpt (ktr K6.out k)))
    (fun w' k => clo4 _ ps _ w' (BP.out.kpt k) (hp.kpt (ktr K6.out k)))
    (fun w' k => clo5 W q _ hs _ _ w' (BC.out.kpt k) (BQ.out.kpt k) (hr.kpt (ktr K6.out k)) hf))
  unfold calV at *
  have HX : Hid (orE (calE W hs) (orE (clsE ts) (orE (checksE fs) (orE (prsE ps) (tdyE W hs q)))) = preE W hs ts fs ps q) := rfl
  rw [HX.out] at FR
  have z0 : (preE W hs ts fs ps q != 0) = true := bne_iff_ne.2 hE
  generalize preE W hs ts fs ps q = E at *
  clear ha hct hcl hmp hr ht hl hp hE HX BC BT BL BP BQ BN hbl
  go_enter Try.func8, Try.ntmps8
  go_wp2_with (go_at_call 50; (with_reducible refine FR.out.mono ?_); rintro e w1 ⟨rfl, k1⟩; have K1 := Lib.hid (ktr K6.out k1); clear k1)
  go_ret2
  exact dayRes_nil rfl rfl K1.out

set_option maxRecDepth 100000 in
set_option maxHeartbeats 8000000 in
theorem day_ok (W q : Int) (v tv lv pv : Value) (hs : List Int) (ts fs : List (List Int)) (ps : List Int) (w : World) (hr : Reads w v hs) (hf : Fits hs) (ht : ReadsT w tv ts) (hl : ReadsF w lv fs) (hp : Reads w pv ps) (hE : preE W hs ts fs ps q = 0) :
    Calls Try.prog 8 #[calV W v, tv, lv, pv, .int .i64 q] w (DayRes w (pdE W hs ts q fs) (ifD (pdE W hs ts q fs) (dueL W hs ts ps q fs))) := by
  have hmf : ∀ fn first cap w, (Instr.makeFunc fn first cap).run Try.prog w = .ok (.func fn first cap) w := fun _ _ _ _ => rfl
  obtain ⟨a, cap, rfl, ha⟩ := id hr
  obtain ⟨at1, ct, rfl, hmt, hct⟩ := id ht
  obtain ⟨al, cl, rfl, hml, hbl, hcl⟩ := id hl
  obtain ⟨ap, cp, rfl, hmp⟩ := id hp
  have K6 : Hid (Kpt w ((((((w.alloc (.cells #[.int .i64 W, .slice a hs.length cap] 24)).alloc (.cells #[.slice at1 ts.length ct] 25)).alloc (.cells #[.slice al fs.length cl] 26)).alloc (.cells #[.slice ap ps.length cp] 22)).alloc (.cells #[.int .i64 q] 3)).alloc (.cells #[.func (.func 51) #[] #[.pointer (some ⟨w.heap.size, 0, none⟩)], .func (.func 53) #[] #[.pointer (some ⟨w.heap.size + 1, 0, none⟩)], .func (.func 55) #[] #[.pointer (some ⟨w.heap.size + 2, 0, none⟩)], .func (.func 57) #[] #[.pointer (some ⟨w.heap.size + 3, 0, none⟩)], .func (.func 58) #[] #[.pointer (some ⟨w.heap.size, 0, none⟩), .pointer (some ⟨w.heap.size + 4, 0, none⟩)]] 72))) := ((((((Kpt.refl w).alloc _).alloc _).alloc _).alloc _).alloc _).alloc _
  have BC : Hid (Blk ((((((w.alloc (.cells #[.int .i64 W, .slice a hs.length cap] 24)).alloc (.cells #[.slice at1 ts.length ct] 25)).alloc (.cells #[.slice al fs.length cl] 26)).alloc (.cells #[.slice ap ps.length cp] 22)).alloc (.cells #[.int .i64 q] 3)).alloc (.cells #[.func (.func 51) #[] #[.pointer (some ⟨w.heap.size, 0, none⟩)], .func (.func 53) #[] #[.pointer (some ⟨w.heap.size + 1, 0, none⟩)], .func (.func 55) #[] #[.pointer (some ⟨w.heap.size + 2, 0, none⟩)], .func (.func 57) #[] #[.pointer (some ⟨w.heap.size + 3, 0, none⟩)], .func (.func 58) #[] #[.pointer (some ⟨w.heap.size, 0, none⟩), .pointer (some ⟨w.heap.size + 4, 0, none⟩)]] 72)) (w.heap.size) #[.int .i64 W, .slice a hs.length cap] 24) := by
    have := ((((((Blk.made w #[.int .i64 W, .slice a hs.length cap] 24).alloc (.cells #[.slice at1 ts.length ct] 25)).alloc (.cells #[.slice al fs.length cl] 26)).alloc (.cells #[.slice ap ps.length cp] 22)).alloc (.cells #[.int .i64 q] 3)).alloc (.cells #[.func (.func 51) #[] #[.pointer (some ⟨w.heap.size, 0, none⟩)], .func (.func 53) #[] #[.pointer (some ⟨w.heap.size + 1, 0, none⟩)], .func (.func 55) #[] #[.pointer (some ⟨w.heap.size + 2, 0, none⟩)], .func (.func 57) #[] #[.pointer (some ⟨w.heap.size + 3, 0, none⟩)], .func (.func 58) #[] #[.pointer (some ⟨w.heap.size, 0, none⟩), .pointer (some ⟨w.heap.size + 4, 0, none⟩)]] 72))
    unfold Hid; simpa using this
  have BT : Hid (Blk ((((((w.alloc (.cells #[.int .i64 W, .slice a hs.length cap] 24)).alloc (.cells #[.slice at1 ts.length ct] 25)).alloc (.cells #[.slice al fs.length cl] 26)).alloc (.cells #[.slice ap ps.length cp] 22)).alloc (.cells #[.int .i64 q] 3)).alloc (.cells #[.func (.func 51) #[] #[.pointer (some ⟨w.heap.size, 0, none⟩)], .func (.func 53) #[] #[.pointer (some ⟨w.heap.size + 1, 0, none⟩)], .func (.func 55) #[] #[.pointer (some ⟨w.heap.size + 2, 0, none⟩)], .func (.func 57) #[] #[.pointer (some ⟨w.heap.size + 3, 0, none⟩)], .func (.func 58) #[] #[.pointer (some ⟨w.heap.size, 0, none⟩), .pointer (some ⟨w.heap.size + 4, 0, none⟩)]] 72)) (w.heap.size + 1) #[.slice at1 ts.length ct] 25) := by
    have := (((((Blk.made (w.alloc (.cells #[.int .i64 W, .slice a hs.length cap] 24)) #[.slice at1 ts.length ct] 25).alloc (.cells #[.slice al fs.length cl] 26)).alloc (.cells #[.slice ap ps.length cp] 22)).alloc (.cells #[.int .i64 q] 3)).alloc (.cells #[.func (.func 51) #[] #[.pointer (some ⟨w.heap.size, 0, none⟩)], .func (.func 53) #[] #[.pointer (some ⟨w.heap.size + 1, 0, none⟩)], .func (.func 55) #[] #[.pointer (some ⟨w.heap.size + 2, 0, none⟩)], .func (.func 57) #[] #[.pointer (some ⟨w.heap.size + 3, 0, none⟩)], .func (.func 58) #[] #[.pointer (some ⟨w.heap.size, 0, none⟩), .pointer (some ⟨w.heap.size + 4, 0, none⟩)]] 72))
    unfold Hid; simpa using this
  have BL : Hid (Blk ((((((w.alloc (.cells #[.int .i64 W, .slice a hs.length cap] 24)).alloc (.cells #[.slice at1 ts.length ct] 25)).alloc (.cells #[.slice al fs.length cl] 26)).alloc (.cells #[.slice ap ps.length cp] 22)).alloc (.cells #[.int .i64 q] 3)).alloc (.cells #[.func (.func 51) #[] #[.pointer (some ⟨w.heap.size, 0, none⟩)], .func (.func 53) #[] #[.pointer (some ⟨w.heap.size + 1, 0, none⟩)], .func (.func 55) #[] #[.pointer (some ⟨w.heap.size + 2, 0, none⟩)], .func (.func 57) #[] #[.pointer (some ⟨w.heap.size + 3, 0, none⟩)], .func (.func 58) #[] #[.pointer (some ⟨w.heap.size, 0, none⟩), .pointer (some ⟨w.heap.size + 4, 0, none⟩)]] 72)) (w.heap.size + 2) #[.slice al fs.length cl] 26) := by
    have := ((((Blk.made ((w.alloc (.cells #[.int .i64 W, .slice a hs.length cap] 24)).alloc (.cells #[.slice at1 ts.length ct] 25)) #[.slice al fs.length cl] 26).alloc (.cells #[.slice ap ps.length cp] 22)).alloc (.cells #[.int .i64 q] 3)).alloc (.cells #[.func (.func 51) #[] #[.pointer (some ⟨w.heap.size, 0, none⟩)], .func (.func 53) #[] #[.pointer (some ⟨w.heap.size + 1, 0, none⟩)], .func (.func 55) #[] #[.pointer (some ⟨w.heap.size + 2, 0, none⟩)], .func (.func 57) #[] #[.pointer (some ⟨w.heap.size + 3, 0, none⟩)], .func (.func 58) #[] #[.pointer (some ⟨w.heap.size, 0, none⟩), .pointer (some ⟨w.heap.size + 4, 0, none⟩)]] 72))
    unfold Hid; simpa using this
  have BP : Hid (Blk ((((((w.alloc (.cells #[.int .i64 W, .slice a hs.length cap] 24)).alloc (.cells #[.slice at1 ts.length ct] 25)).alloc (.cells #[.slice al fs.length cl] 26)).alloc (.cells #[.slice ap ps.length cp] 22)).alloc (.cells #[.int .i64 q] 3)).alloc (.cells #[.func (.func 51) #[] #[.pointer (some ⟨w.heap.size, 0, none⟩)], .func (.func 53) #[] #[.pointer (some ⟨w.heap.size + 1, 0, none⟩)], .func (.func 55) #[] #[.pointer (some ⟨w.heap.size + 2, 0, none⟩)], .func (.func 57) #[] #[.pointer (some ⟨w.heap.size + 3, 0, none⟩)], .func (.func 58) #[] #[.pointer (some ⟨w.heap.size, 0, none⟩), .pointer (some ⟨w.heap.size + 4, 0, none⟩)]] 72)) (w.heap.size + 3) #[.slice ap ps.length cp] 22) := by
    have := (((Blk.made (((w.alloc (.cells #[.int .i64 W, .slice a hs.length cap] 24)).alloc (.cells #[.slice at1 ts.length ct] 25)).alloc (.cells #[.slice al fs.length cl] 26)) #[.slice ap ps.length cp] 22).alloc (.cells #[.int .i64 q] 3)).alloc (.cells #[.func (.func 51) #[] #[.pointer (some ⟨w.heap.size, 0, none⟩)], .func (.func 53) #[] #[.pointer (some ⟨w.heap.size + 1, 0, none⟩)], .func (.func 55) #[] #[.pointer (some ⟨w.heap.size + 2, 0, none⟩)], .func (.func 57) #[] #[.pointer (some ⟨w.heap.size + 3, 0, none⟩)], .func (.func 58) #[] #[.pointer (some ⟨w.heap.size, 0, none⟩), .pointer (some ⟨w.heap.size + 4, 0, none⟩)]] 72))
    unfold Hid; simpa using this
  have BQ : Hid (Blk ((((((w.alloc (.cells #[.int .i64 W, .slice a hs.length cap] 24)).alloc (.cells #[.slice at1 ts.length ct] 25)).alloc (.cells #[.slice al fs.length cl] 26)).alloc (.cells #[.slice ap ps.length cp] 22)).alloc (.cells #[.int .i64 q] 3)).alloc (.cells #[.func (.func 51) #[] #[.pointer (some ⟨w.heap.size, 0, none⟩)], .func (.func 53) #[] #[.pointer (some ⟨w.heap.size + 1, 0, none⟩)], .func (.func 55) #[] #[.pointer (some ⟨w.heap.size + 2, 0, none⟩)], .func (.func 57) #[] #[.pointer (some ⟨w.heap.size + 3, 0, none⟩)], .func (.func 58) #[] #[.pointer (some ⟨w.heap.size, 0, none⟩), .pointer (some ⟨w.heap.size + 4, 0, none⟩)]] 72)) (w.heap.size + 4) #[.int .i64 q] 3) := by
    have := ((Blk.made ((((w.alloc (.cells #[.int .i64 W, .slice a hs.length cap] 24)).alloc (.cells #[.slice at1 ts.length ct] 25)).alloc (.cells #[.slice al fs.length cl] 26)).alloc (.cells #[.slice ap ps.length cp] 22)) #[.int .i64 q] 3).alloc (.cells #[.func (.func 51) #[] #[.pointer (some ⟨w.heap.size, 0, none⟩)], .func (.func 53) #[] #[.pointer (some ⟨w.heap.size + 1, 0, none⟩)], .func (.func 55) #[] #[.pointer (some ⟨w.heap.size + 2, 0, none⟩)], .func (.func 57) #[] #[.pointer (some ⟨w.heap.size + 3, 0, none⟩)], .func (.func 58) #[] #[.pointer (some ⟨w.heap.size, 0, none⟩), .pointer (some ⟨w.heap.size + 4, 0, none⟩)]] 72))
    unfold Hid; simpa using this
  have BN : Hid (Blk ((((((w.alloc (.cells #[.int .i64 W, .slice a hs.length cap] 24)).alloc (.cells #[.slice at1 ts.length ct] 25)).alloc (.cells #[.slice al fs.length cl] 26)).alloc (.cells #[.slice ap ps.length cp] 22)).alloc (.cells #[.int .i64 q] 3)).alloc (.cells #[.func (.func 51) #[] #[.pointer (some ⟨w.heap.size, 0, none⟩)], .func (.func 53) #[] #[.pointer (some ⟨w.heap.size + 1, 0, none⟩)], .func (.func 55) #[] #[.pointer (some ⟨w.heap.size + 2, 0, none⟩)], .func (.func 57) #[] #[.pointer (some ⟨w.heap.size + 3, 0, none⟩)], .func (.func 58) #[] #[.pointer (some ⟨w.heap.size, 0, none⟩), .pointer (some ⟨w.heap.size + 4, 0, none⟩)]] 72)) (w.heap.size + 5) #[.func (.func 51) #[] #[.pointer (some ⟨w.heap.size, 0, none⟩)], .func (.func 53) #[] #[.pointer (some ⟨w.heap.size + 1, 0, none⟩)], .func (.func 55) #[] #[.pointer (some ⟨w.heap.size + 2, 0, none⟩)], .func (.func 57) #[] #[.pointer (some ⟨w.heap.size + 3, 0, none⟩)], .func (.func 58) #[] #[.pointer (some ⟨w.heap.size, 0, none⟩), .pointer (some ⟨w.heap.size + 4, 0, none⟩)]] 72) := by
    have := (Blk.made (((((w.alloc (.cells #[.int .i64 W, .slice a hs.length cap] 24)).alloc (.cells #[.slice at1 ts.length ct] 25)).alloc (.cells #[.slice al fs.length cl] 26)).alloc (.cells #[.slice ap ps.length cp] 22)).alloc (.cells #[.int .i64 q] 3)) #[.func (.func 51) #[] #[.pointer (some ⟨w.heap.size, 0, none⟩)], .func (.func 53) #[] #[.pointer (some ⟨w.heap.size + 1, 0, none⟩)], .func (.func 55) #[] #[.pointer (some ⟨w.heap.size + 2, 0, none⟩)], .func (.func 57) #[] #[.pointer (some ⟨w.heap.size + 3, 0, none⟩)], .func (.func 58) #[] #[.pointer (some ⟨w.heap.size, 0, none⟩), .pointer (some ⟨w.heap.size + 4, 0, none⟩)]] 72)
    unfold Hid; simpa using this
  have FR := Lib.hid (first_run (w.heap.size + 5) 5 w.heap.size (w.heap.size + 1) (w.heap.size + 2) (w.heap.size + 3) (w.heap.size + 4) (calE W hs) (clsE ts) (checksE fs) (prsE ps) (tdyE W hs q) ((((((w.alloc (.cells #[.int .i64 W, .slice a hs.length cap] 24)).alloc (.cells #[.slice at1 ts.length ct] 25)).alloc (.cells #[.slice al fs.length cl] 26)).alloc (.cells #[.slice ap ps.length cp] 22)).alloc (.cells #[.int .i64 q] 3)).alloc (.cells #[.func (.func 51) #[] #[.pointer (some ⟨w.heap.size, 0, none⟩)], .func (.func 53) #[] #[.pointer (some ⟨w.heap.size + 1, 0, none⟩)], .func (.func 55) #[] #[.pointer (some ⟨w.heap.size + 2, 0, none⟩)], .func (.func 57) #[] #[.pointer (some ⟨w.heap.size + 3, 0, none⟩)], .func (.func 58) #[] #[.pointer (some ⟨w.heap.size, 0, none⟩), .pointer (some ⟨w.heap.size + 4, 0, none⟩)]] 72))
    (BN.out.cell 0) (BN.out.cell 1) (BN.out.cell 2) (BN.out.cell 3) (BN.out.cell 4)
    (fun w' k => clo1 W _ hs _ w' (BC.out.kpt k) (hr.kpt (ktr K6.out k)) hf)
    (fun w' k => clo2 _ ts _ w' (BT.out.kpt k) (ht.kpt (ktr K6.out k)))
    (fun w' k => clo3 _ fs _ w' (BL.out.kpt k) (hl.kpt (ktr K6.out k)))
    (fun w' k => clo4 _ ps _ w' (BP.out.kpt k) (hp.kpt (ktr K6.out k)))
    (fun w' k => clo5 W q _ hs _ _ w' (BC.out.kpt k) (BQ.out.kpt k) (hr.kpt (ktr K6.out k)) hf))
  unfold calV at *
  have HX : Hid (orE (calE W hs) (orE (clsE ts) (orE (checksE fs) (orE (prsE ps) (tdyE W hs q)))) = 0) := hE
  rw [HX.out] at FR
  unfold preE at hE
  obtain ⟨-, hE⟩ := orE_0 hE
  obtain ⟨hE2, hE⟩ := orE_0 hE
  obtain ⟨hE3, hE⟩ := orE_0 hE
  obtain ⟨hE4, -⟩ := orE_0 hE
  clear hE
  have t6 := clsE_0 hE2
  obtain ⟨p20, pOK⟩ := prsE_0 hE4
  have T6 := Lib.hid t6
  have P20 := Lib.hid p20
  obtain ⟨f60, fOK⟩ := checksE_0 hE3
  have HR := Lib.hid hr
  have HF := Lib.hid hf
  have HT := Lib.hid hct
  have HC := Lib.hid hcl
  have HP := Lib.hid hmp.2
  have DR := Lib.hid (fun k (h : k < fs.length) => drop_at h)
  have DA : Hid (fs.drop fs.length = []) := List.drop_length
  have FB := Lib.hid (fun k (h : k < fs.length) => fl_cls (fOK _ (getF_mem h)))
  have PB := Lib.hid (fun (j : Nat) (h : j < ps.length) => pOK (ps.getD j 0) (by rw [List.getD_eq_getElem?_getD, List.getElem?_eq_getElem h]; simp))
  clear t6 p20 hE2 hE3 hE4 pOK fOK HX ha hct hcl hmp hr ht hl hp hf hbl BN hml
  generalize hX : pdE W hs ts q fs = X
  have HE0 : Hid (X = pdE W hs ts q (fs.drop 0)) := by rw [List.drop_zero]; exact hX.symm
  generalize hD : dueL W hs ts ps q fs = D
  have HD0 : Hid (D = [] ++ dueL W hs ts ps q (fs.drop 0)) := by rw [List.drop_zero]; exact hD.symm
  clear hX hD
  go_enter Try.func8, Try.ntmps8
  go_wp2_with (go_at_call 50; (with_reducible refine FR.out.mono ?_); rintro e w1 ⟨rfl, k1⟩; have KW := Lib.hid (ktr K6.out k1); have XC := Lib.hid (BC.out.kpt k1); have XT := Lib.hid (BT.out.kpt k1); have XP := Lib.hid (BP.out.kpt k1); have XQ := Lib.hid (BQ.out.kpt k1); have XL := Lib.hid (BL.out.kpt k1); have bf0 : World.cell? w1 ⟨w.heap.size + 2, 0, none⟩ = some (.slice al fs.length cl) := XL.out.cell 0; clear k1)
  clear bf0 XL FR BC BT BP BQ BL K6
  have BC := XC
  have BT := XT
  have BP := XP
  have BQ := XQ
  clear XC XT XP XQ
  have K0 : Hid (Kpt w1 w1) := Kpt.refl w1
  have O0 : Hid (OwnsT 80 w1 w1.heap.size (.slice none 0 0) []) := OwnsT.nil _ _ _
  have MW : Hid (w.heap.size ≤ w1.heap.size) := KW.out.size
  go_loopw [13, 30] (fun dv ii wr => ∃ (k : Nat) (es : List (Int × Int × Int)), k ≤ fs.length ∧ ii = .int .i64 (k : Int) ∧ Hid (es.length ≤ k) ∧ Hid (OwnsT 80 wr w1.heap.size dv es) ∧ Hid (X = pdE W hs ts q (fs.drop k)) ∧ Hid (D = es ++ dueL W hs ts ps q (fs.drop k)) ∧ Hid (Kpt w1 wr)) (fun _ ii _ => fs.length - (intOf ii).toNat)
  case atStart => exact ⟨0, [], Nat.zero_le _, rfl, Nat.le_refl _, O0.out, HE0.out, HD0.out, K0.out⟩
  case round =>
    obtain ⟨k, es, hk, rfl, HS, HO, HE, HD, HK⟩ := hrel
    by_cases hlt : k < fs.length
    · obtain ⟨g, off, rfl, hfl⟩ := HC.out k hlt
      have hfl := hfl.kpt (ktr KW.out HK.out)
      have fb := FB.out k hlt
      have t6 := T6.out
      have p20 := P20.out
      have pz := PB.out ((fs.getD k []).getD 4 0 - 1).toNat (by omega)
      obtain ⟨g2, off2, rfl, htc⟩ := HT.out ((fs.getD k []).getD 3 0).toNat (by omega)
      obtain ⟨g3, off3, rfl, hpc⟩ := HP.out ((fs.getD k []).getD 4 0 - 1).toNat (by omega)
      have dr := DR.out k hlt
      have he := HE.out
      rw [dr] at he
      have hd := HD.out
      rw [dr] at hd
      have hs1 := HS.out
      have e1000 : es.length + 1 ≤ 100000 := by omega
      clear HE HD
      have c0 : wr.cell? ⟨g, off + k * 10, none⟩ = _ := hfl 0 (by omega)
      have c1 : wr.cell? ⟨g, off + k * 10 + 1, none⟩ = _ := hfl 1 (by omega)
      have c2 : wr.cell? ⟨g, off + k * 10 + 2, none⟩ = _ := hfl 2 (by omega)
      have c3 : wr.cell? ⟨g, off + k * 10 + 3, none⟩ = _ := hfl 3 (by omega)
      have c4 : wr.cell? ⟨g, off + k * 10 + 4, none⟩ = _ := hfl 4 (by omega)
      have c5 : wr.cell? ⟨g, off + k * 10 + 5, none⟩ = _ := hfl 5 (by omega)
      have c6 : wr.cell? ⟨g, off + k * 10 + 6, none⟩ = _ := hfl 6 (by omega)
      have c7 : wr.cell? ⟨g, off + k * 10 + 7, none⟩ = _ := hfl 7 (by omega)
      have c8 : wr.cell? ⟨g, off + k * 10 + 8, none⟩ = _ := hfl 8 (by omega)
      have c9 : wr.cell? ⟨g, off + k * 10 + 9, none⟩ = _ := hfl 9 (by omega)
      generalize fs.getD k [] = l at *
      have CL := Lib.hid (fun w' (kk : Kpt w w') => cost_L W (prOf ps l) q (tlOf ts l) l _ hs w' (HR.out.kpt kk) HF.out pz)
      unfold calV at CL
      have hpc : w.cell? ⟨g3, off3 + (l.getD 4 0 - 1).toNat, none⟩ = some (.int .i64 (prOf ps l)) := hpc
      have h0 : w.cell? ⟨g2, off2 + (l.getD 3 0).toNat * 4, none⟩ = some (.int .i64 ((tlOf ts l).getD 0 0)) := htc 0 (by omega)
      have h1 : w.cell? ⟨g2, off2 + (l.getD 3 0).toNat * 4 + 1, none⟩ = some (.int .i64 ((tlOf ts l).getD 1 0)) := htc 1 (by omega)
      have h2 : w.cell? ⟨g2, off2 + (l.getD 3 0).toNat * 4 + 2, none⟩ = some (.int .i64 ((tlOf ts l).getD 2 0)) := htc 2 (by omega)
      have h3 : w.cell? ⟨g2, off2 + (l.getD 3 0).toNat * 4 + 3, none⟩ = some (.int .i64 ((tlOf ts l).getD 3 0)) := htc 3 (by omega)
      clear htc hfl pz dr t6 p20
      have ZB : Hid (Blk (wr.alloc (.cells #[.int .i64 0, .int .i64 0, .int .i64 0, .int .i64 0, .int .i64 0, .int .i64 0, .int .i64 0, .int .i64 0, .int .i64 0, .int .i64 0] 38)) wr.heap.size #[.int .i64 0, .int .i64 0, .int .i64 0, .int .i64 0, .int .i64 0, .int .i64 0, .int .i64 0, .int .i64 0, .int .i64 0, .int .i64 0] 38) := Blk.made _ _ _
      have KZ : Hid (Kpt wr (wr.alloc (.cells #[.int .i64 0, .int .i64 0, .int .i64 0, .int .i64 0, .int .i64 0, .int .i64 0, .int .i64 0, .int .i64 0, .int .i64 0, .int .i64 0] 38))) := (Kpt.refl _).alloc _
      have KQ : Hid (Kpt w wr) := ktr KW.out HK.out
      by_cases hL : lkL W hs (tlOf ts l) l q = 0
      · rw [pd_0 hL] at he
        rw [hL] at CL
        by_cases hC0 : 0 < csV W hs (tlOf ts l) l (prOf ps l) q
        · rw [dueL_p hL hC0, ← List.append_assoc] at hd
          have HE2 := Lib.hid he
          have HD2 := Lib.hid hd
          clear he hd hL
          generalize csV W hs (tlOf ts l) l (prOf ps l) q = C at *
          generalize prOf ps l = z at *
          generalize (tlOf ts l).getD 0 0 = te at *
          generalize (tlOf ts l).getD 1 0 = tb at *
          generalize (tlOf ts l).getD 2 0 = td at *
          generalize (tlOf ts l).getD 3 0 = tr at *
          generalize l.getD 0 0 = i at *
          generalize l.getD 1 0 = f at *
          generalize l.getD 2 0 = t at *
          generalize l.getD 3 0 = c at *
          generalize l.getD 4 0 = p at *
          generalize l.getD 5 0 = d at *
          generalize l.getD 6 0 = u at *
          generalize l.getD 7 0 = x at *
          generalize l.getD 8 0 = b at *
          generalize l.getD 9 0 = y at *
          go_wp2_with (refine wp_storeF rfl (.tmp 15) (.tmp 33) rfl wr.heap.size _ _ rfl rfl ZB.out rfl rfl (by simp [Value.oneCell']) ?_; intro w9 r9 k9 o9; have R9 := Lib.hid r9; have K9 : Hid (Kpt wr w9) := k9 _ _ KZ.out (Nat.le_refl _); clear r9 k9 o9)
          have KM9 : Hid (Kpt w1 w9) := ktr HK.out K9.out
          have KW9 : Hid (Kpt w w9) := ktr KQ.out K9.out
          have O9 := Lib.hid (HO.out.kpt K9.out)
          clear c0 c1 c2 c3 c4 c5 c6 c7 c8 c9
          have b0 := cell_k (q := w9) (a := ⟨w.heap.size, 0, none⟩) (v := .int .i64 W) ((BC.out.kpt KM9.out).cell 0)
          have b1 := cell_k (q := w9) (a := ⟨w.heap.size, 1, none⟩) (v := .slice a hs.length cap) ((BC.out.kpt KM9.out).cell 1)
          have b2 := cell_k (q := w9) (a := ⟨(w.heap.size + 1), 0, none⟩) (v := .slice (some ⟨g2, off2, none⟩) ts.length ct) ((BT.out.kpt KM9.out).cell 0)
          have b3 := cell_k (q := w9) (a := ⟨(w.heap.size + 3), 0, none⟩) (v := .slice (some ⟨g3, off3, none⟩) ps.length cp) ((BP.out.kpt KM9.out).cell 0)
          have b4 := cell_k (q := w9) (a := ⟨(w.heap.size + 4), 0, none⟩) (v := .int .i64 q) ((BQ.out.kpt KM9.out).cell 0)
          have t0 := cell_k (q := w9) (a := ⟨g2, off2 + c.toNat * 4, none⟩) (v := .int .i64 te) (KW9.out.cell h0)
          have t1 := cell_k (q := w9) (a := ⟨g2, off2 + c.toNat * 4 + 1, none⟩) (v := .int .i64 tb) (KW9.out.cell h1)
          have t2 := cell_k (q := w9) (a := ⟨g2, off2 + c.toNat * 4 + 2, none⟩) (v := .int .i64 td) (KW9.out.cell h2)
          have t3 := cell_k (q := w9) (a := ⟨g2, off2 + c.toNat * 4 + 3, none⟩) (v := .int .i64 tr) (KW9.out.cell h3)
          obtain ⟨pj, epj⟩ : ∃ pj, (p - 1).toNat = pj := ⟨_, rfl⟩
          have p0 := cell_k (q := w9) (a := ⟨g3, off3 + pj, none⟩) (v := .int .i64 z) (by rw [← epj]; exact KW9.out.cell hpc)
          have r0 := cell_k (q := w9) (a := ⟨wr.heap.size, 0, none⟩) (v := .int .i64 i) (R9.out.cell 0)
          have r1 := cell_k (q := w9) (a := ⟨wr.heap.size, 1, none⟩) (v := .int .i64 f) (R9.out.cell 1)
          have r2 := cell_k (q := w9) (a := ⟨wr.heap.size, 2, none⟩) (v := .int .i64 t) (R9.out.cell 2)
          have r3 := cell_k (q := w9) (a := ⟨wr.heap.size, 3, none⟩) (v := .int .i64 c) (R9.out.cell 3)
          have r4 := cell_k (q := w9) (a := ⟨wr.heap.size, 4, none⟩) (v := .int .i64 p) (R9.out.cell 4)
          have r5 := cell_k (q := w9) (a := ⟨wr.heap.size, 5, none⟩) (v := .int .i64 d) (R9.out.cell 5)
          have r6 := cell_k (q := w9) (a := ⟨wr.heap.size, 6, none⟩) (v := .int .i64 u) (R9.out.cell 6)
          have r7 := cell_k (q := w9) (a := ⟨wr.heap.size, 7, none⟩) (v := .int .i64 x) (R9.out.cell 7)
          have r8 := cell_k (q := w9) (a := ⟨wr.heap.size, 8, none⟩) (v := .int .i64 b) (R9.out.cell 8)
          have r9 := cell_k (q := w9) (a := ⟨wr.heap.size, 9, none⟩) (v := .int .i64 y) (R9.out.cell 9)
          have CK := Lib.hid (fun (p : KptTo w9) => CL.out p.w (ktr KW9.out p.h))
          have n1 : 0 ≤ c := fb.1.1
          have n2 : c < (ts.length : Int) := by have := T6.out; omega
          have n3 : 0 ≤ p - 1 := by omega
          have n4 : p - 1 < (ps.length : Int) := by have := P20.out; omega
          have n5 : -9223372036854775808 ≤ p - 1 := by omega
          have n6 : p - 1 ≤ 9223372036854775807 := by omega
          have n7 : IntKind.i64.wrap (p - 1) = p - 1 := IntWalk.i64_in _ (by omega)
          have mixed : Try.prog.follows .mixedOrders = true := by kernel_rfl
          refine quiet_k (q := w9) mixed (by kernel_rfl) ?_
          repeat (quiet_step (first | (go_at_call 60; with_reducible refine calls_k (CK.out _))))
          refine wpQuiet_nil ?_
          intro w8 hw1
          obtain ⟨⟨wz, kz⟩, hw2⟩ := hw1
          have hw3 : w8 = wz := hw2
          clear hw2
          subst hw3
          clear b0 b1 b2 b3 b4 t0 t1 t2 t3 p0 r0 r1 r2 r3 r4 r5 r6 r7 r8 r9 CK
          have O8 := Lib.hid (O9.out.kpt kz)
          have KM8 := Lib.hid (ktr KM9.out kz)
          have KW8 := Lib.hid (ktr KW9.out kz)
          have R8 := Lib.hid (R9.out.kpt kz)
          have r1 : World.cell? w8 ⟨wr.heap.size, 1, none⟩ = some (.int .i64 f) := R8.out.cell 1
          have r2 : World.cell? w8 ⟨wr.heap.size, 2, none⟩ = some (.int .i64 t) := R8.out.cell 2
          have y1 : decide (0 < C) = true := decide_eq_true hC0
          go_wp2_with (first | (refine wp_appendD rfl (.tmp 57) (.tmp 64) rfl w1.heap.size _ es _ _ _ _ rfl O8.out rfl e1000 KM8.out.size (.slice none 0 0) [] (OwnsT.nil _ _ _) (.inl rfl) ?_; intro dv2 w5 o5 b5 _ _ _; have O5 := Lib.hid o5; have K5 : Hid (Kpt w1 w5) := Below.trans KM8.out b5; clear o5 b5))
          go_roundw
          case rel => exact ⟨k + 1, es ++ [(f, t, C)], by omega, by go_num, by simp; omega, O5.out, HE2.out, HD2.out, K5.out⟩
          case measure => simp [intOf]; omega
        · rw [dueL_n hL hC0] at hd
          have HE2 := Lib.hid he
          have HD2 := Lib.hid hd
          clear he hd hL
          generalize csV W hs (tlOf ts l) l (prOf ps l) q = C at *
          generalize prOf ps l = z at *
          generalize (tlOf ts l).getD 0 0 = te at *
          generalize (tlOf ts l).getD 1 0 = tb at *
          generalize (tlOf ts l).getD 2 0 = td at *
          generalize (tlOf ts l).getD 3 0 = tr at *
          generalize l.getD 0 0 = i at *
          generalize l.getD 1 0 = f at *
          generalize l.getD 2 0 = t at *
          generalize l.getD 3 0 = c at *
          generalize l.getD 4 0 = p at *
          generalize l.getD 5 0 = d at *
          generalize l.getD 6 0 = u at *
          generalize l.getD 7 0 = x at *
          generalize l.getD 8 0 = b at *
          generalize l.getD 9 0 = y at *
          go_wp2_with (refine wp_storeF rfl (.tmp 15) (.tmp 33) rfl wr.heap.size _ _ rfl rfl ZB.out rfl rfl (by simp [Value.oneCell']) ?_; intro w9 r9 k9 o9; have R9 := Lib.hid r9; have K9 : Hid (Kpt wr w9) := k9 _ _ KZ.out (Nat.le_refl _); clear r9 k9 o9)
          have KM9 : Hid (Kpt w1 w9) := ktr HK.out K9.out
          have KW9 : Hid (Kpt w w9) := ktr KQ.out K9.out
          have O9 := Lib.hid (HO.out.kpt K9.out)
          clear c0 c1 c2 c3 c4 c5 c6 c7 c8 c9
          have b0 := cell_k (q := w9) (a := ⟨w.heap.size, 0, none⟩) (v := .int .i64 W) ((BC.out.kpt KM9.out).cell 0)
          have b1 := cell_k (q := w9) (a := ⟨w.heap.size, 1, none⟩) (v := .slice a hs.length cap) ((BC.out.kpt KM9.out).cell 1)
          have b2 := cell_k (q := w9) (a := ⟨(w.heap.size + 1), 0, none⟩) (v := .slice (some ⟨g2, off2, none⟩) ts.length ct) ((BT.out.kpt KM9.out).cell 0)
          have b3 := cell_k (q := w9) (a := ⟨(w.heap.size + 3), 0, none⟩) (v := .slice (some ⟨g3, off3, none⟩) ps.length cp) ((BP.out.kpt KM9.out).cell 0)
          have b4 := cell_k (q := w9) (a := ⟨(w.heap.size + 4), 0, none⟩) (v := .int .i64 q) ((BQ.out.kpt KM9.out).cell 0)
          have t0 := cell_k (q := w9) (a := ⟨g2, off2 + c.toNat * 4, none⟩) (v := .int .i64 te) (KW9.out.cell h0)
          have t1 := cell_k (q := w9) (a := ⟨g2, off2 + c.toNat * 4 + 1, none⟩) (v := .int .i64 tb) (KW9.out.cell h1)
          have t2 := cell_k (q := w9) (a := ⟨g2, off2 + c.toNat * 4 + 2, none⟩) (v := .int .i64 td) (KW9.out.cell h2)
          have t3 := cell_k (q := w9) (a := ⟨g2, off2 + c.toNat * 4 + 3, none⟩) (v := .int .i64 tr) (KW9.out.cell h3)
          obtain ⟨pj, epj⟩ : ∃ pj, (p - 1).toNat = pj := ⟨_, rfl⟩
          have p0 := cell_k (q := w9) (a := ⟨g3, off3 + pj, none⟩) (v := .int .i64 z) (by rw [← epj]; exact KW9.out.cell hpc)
          have r0 := cell_k (q := w9) (a := ⟨wr.heap.size, 0, none⟩) (v := .int .i64 i) (R9.out.cell 0)
          have r1 := cell_k (q := w9) (a := ⟨wr.heap.size, 1, none⟩) (v := .int .i64 f) (R9.out.cell 1)
          have r2 := cell_k (q := w9) (a := ⟨wr.heap.size, 2, none⟩) (v := .int .i64 t) (R9.out.cell 2)
          have r3 := cell_k (q := w9) (a := ⟨wr.heap.size, 3, none⟩) (v := .int .i64 c) (R9.out.cell 3)
          have r4 := cell_k (q := w9) (a := ⟨wr.heap.size, 4, none⟩) (v := .int .i64 p) (R9.out.cell 4)
          have r5 := cell_k (q := w9) (a := ⟨wr.heap.size, 5, none⟩) (v := .int .i64 d) (R9.out.cell 5)
          have r6 := cell_k (q := w9) (a := ⟨wr.heap.size, 6, none⟩) (v := .int .i64 u) (R9.out.cell 6)
          have r7 := cell_k (q := w9) (a := ⟨wr.heap.size, 7, none⟩) (v := .int .i64 x) (R9.out.cell 7)
          have r8 := cell_k (q := w9) (a := ⟨wr.heap.size, 8, none⟩) (v := .int .i64 b) (R9.out.cell 8)
          have r9 := cell_k (q := w9) (a := ⟨wr.heap.size, 9, none⟩) (v := .int .i64 y) (R9.out.cell 9)
          have CK := Lib.hid (fun (p : KptTo w9) => CL.out p.w (ktr KW9.out p.h))
          have n1 : 0 ≤ c := fb.1.1
          have n2 : c < (ts.length : Int) := by have := T6.out; omega
          have n3 : 0 ≤ p - 1 := by omega
          have n4 : p - 1 < (ps.length : Int) := by have := P20.out; omega
          have n5 : -9223372036854775808 ≤ p - 1 := by omega
          have n6 : p - 1 ≤ 9223372036854775807 := by omega
          have n7 : IntKind.i64.wrap (p - 1) = p - 1 := IntWalk.i64_in _ (by omega)
          have mixed : Try.prog.follows .mixedOrders = true := by kernel_rfl
          refine quiet_k (q := w9) mixed (by kernel_rfl) ?_
          repeat (quiet_step (first | (go_at_call 60; with_reducible refine calls_k (CK.out _))))
          refine wpQuiet_nil ?_
          intro w8 hw1
          obtain ⟨⟨wz, kz⟩, hw2⟩ := hw1
          have hw3 : w8 = wz := hw2
          clear hw2
          subst hw3
          clear b0 b1 b2 b3 b4 t0 t1 t2 t3 p0 r0 r1 r2 r3 r4 r5 r6 r7 r8 r9 CK
          have O8 := Lib.hid (O9.out.kpt kz)
          have KM8 := Lib.hid (ktr KM9.out kz)
          have KW8 := Lib.hid (ktr KW9.out kz)
          have R8 := Lib.hid (R9.out.kpt kz)
          have r1 : World.cell? w8 ⟨wr.heap.size, 1, none⟩ = some (.int .i64 f) := R8.out.cell 1
          have r2 : World.cell? w8 ⟨wr.heap.size, 2, none⟩ = some (.int .i64 t) := R8.out.cell 2
          have y1 : decide (0 < C) = false := decide_eq_false (by omega)
          go_wp2
          go_roundw
          case rel => exact ⟨k + 1, es, by omega, by go_num, by unfold Hid; omega, O8.out, HE2.out, HD2.out, KM8.out⟩
          case measure => simp [intOf]; omega
      · rw [pd_1 hL] at he
        have hT : True := trivial
        have z0 : (lkL W hs (tlOf ts l) l q != 0) = true := bne_iff_ne.2 hL
        have HE2 := Lib.hid he
        have HD2 := Lib.hid hd
        have hL := Lib.hid hL
        clear he hd
        generalize lkL W hs (tlOf ts l) l q = E at *
        generalize csV W hs (tlOf ts l) l (prOf ps l) q = C at *
        generalize prOf ps l = z at *
        generalize (tlOf ts l).getD 0 0 = te at *
        generalize (tlOf ts l).getD 1 0 = tb at *
        generalize (tlOf ts l).getD 2 0 = td at *
        generalize (tlOf ts l).getD 3 0 = tr at *
        generalize l.getD 0 0 = i at *
        generalize l.getD 1 0 = f at *
        generalize l.getD 2 0 = t at *
        generalize l.getD 3 0 = c at *
        generalize l.getD 4 0 = p at *
        generalize l.getD 5 0 = d at *
        generalize l.getD 6 0 = u at *
        generalize l.getD 7 0 = x at *
        generalize l.getD 8 0 = b at *
        generalize l.getD 9 0 = y at *
        go_wp2_with (refine wp_storeF rfl (.tmp 15) (.tmp 33) rfl wr.heap.size _ _ rfl rfl ZB.out rfl rfl (by simp [Value.oneCell']) ?_; intro w9 r9 k9 o9; have R9 := Lib.hid r9; have K9 : Hid (Kpt wr w9) := k9 _ _ KZ.out (Nat.le_refl _); clear r9 k9 o9)
        have KM9 : Hid (Kpt w1 w9) := ktr HK.out K9.out
        have KW9 : Hid (Kpt w w9) := ktr KQ.out K9.out
        have O9 := Lib.hid (HO.out.kpt K9.out)
        clear c0 c1 c2 c3 c4 c5 c6 c7 c8 c9
        have b0 := cell_k (q := w9) (a := ⟨w.heap.size, 0, none⟩) (v := .int .i64 W) ((BC.out.kpt KM9.out).cell 0)
        have b1 := cell_k (q := w9) (a := ⟨w.heap.size, 1, none⟩) (v := .slice a hs.length cap) ((BC.out.kpt KM9.out).cell 1)
        have b2 := cell_k (q := w9) (a := ⟨(w.heap.size + 1), 0, none⟩) (v := .slice (some ⟨g2, off2, none⟩) ts.length ct) ((BT.out.kpt KM9.out).cell 0)
        have b3 := cell_k (q := w9) (a := ⟨(w.heap.size + 3), 0, none⟩) (v := .slice (some ⟨g3, off3, none⟩) ps.length cp) ((BP.out.kpt KM9.out).cell 0)
        have b4 := cell_k (q := w9) (a := ⟨(w.heap.size + 4), 0, none⟩) (v := .int .i64 q) ((BQ.out.kpt KM9.out).cell 0)
        have t0 := cell_k (q := w9) (a := ⟨g2, off2 + c.toNat * 4, none⟩) (v := .int .i64 te) (KW9.out.cell h0)
        have t1 := cell_k (q := w9) (a := ⟨g2, off2 + c.toNat * 4 + 1, none⟩) (v := .int .i64 tb) (KW9.out.cell h1)
        have t2 := cell_k (q := w9) (a := ⟨g2, off2 + c.toNat * 4 + 2, none⟩) (v := .int .i64 td) (KW9.out.cell h2)
        have t3 := cell_k (q := w9) (a := ⟨g2, off2 + c.toNat * 4 + 3, none⟩) (v := .int .i64 tr) (KW9.out.cell h3)
        obtain ⟨pj, epj⟩ : ∃ pj, (p - 1).toNat = pj := ⟨_, rfl⟩
        have p0 := cell_k (q := w9) (a := ⟨g3, off3 + pj, none⟩) (v := .int .i64 z) (by rw [← epj]; exact KW9.out.cell hpc)
        have r0 := cell_k (q := w9) (a := ⟨wr.heap.size, 0, none⟩) (v := .int .i64 i) (R9.out.cell 0)
        have r1 := cell_k (q := w9) (a := ⟨wr.heap.size, 1, none⟩) (v := .int .i64 f) (R9.out.cell 1)
        have r2 := cell_k (q := w9) (a := ⟨wr.heap.size, 2, none⟩) (v := .int .i64 t) (R9.out.cell 2)
        have r3 := cell_k (q := w9) (a := ⟨wr.heap.size, 3, none⟩) (v := .int .i64 c) (R9.out.cell 3)
        have r4 := cell_k (q := w9) (a := ⟨wr.heap.size, 4, none⟩) (v := .int .i64 p) (R9.out.cell 4)
        have r5 := cell_k (q := w9) (a := ⟨wr.heap.size, 5, none⟩) (v := .int .i64 d) (R9.out.cell 5)
        have r6 := cell_k (q := w9) (a := ⟨wr.heap.size, 6, none⟩) (v := .int .i64 u) (R9.out.cell 6)
        have r7 := cell_k (q := w9) (a := ⟨wr.heap.size, 7, none⟩) (v := .int .i64 x) (R9.out.cell 7)
        have r8 := cell_k (q := w9) (a := ⟨wr.heap.size, 8, none⟩) (v := .int .i64 b) (R9.out.cell 8)
        have r9 := cell_k (q := w9) (a := ⟨wr.heap.size, 9, none⟩) (v := .int .i64 y) (R9.out.cell 9)
        have CK := Lib.hid (fun (p : KptTo w9) => CL.out p.w (ktr KW9.out p.h))
        have n1 : 0 ≤ c := fb.1.1
        have n2 : c < (ts.length : Int) := by have := T6.out; omega
        have n3 : 0 ≤ p - 1 := by omega
        have n4 : p - 1 < (ps.length : Int) := by have := P20.out; omega
        have n5 : -9223372036854775808 ≤ p - 1 := by omega
        have n6 : p - 1 ≤ 9223372036854775807 := by omega
        have n7 : IntKind.i64.wrap (p - 1) = p - 1 := IntWalk.i64_in _ (by omega)
        have mixed : Try.prog.follows .mixedOrders = true := by kernel_rfl
        refine quiet_k (q := w9) mixed (by kernel_rfl) ?_
        repeat (quiet_step (first | (go_at_call 60; with_reducible refine calls_k (CK.out _))))
        refine wpQuiet_nil ?_
        intro w8 hw1
        obtain ⟨⟨wz, kz⟩, hw2⟩ := hw1
        have hw3 : w8 = wz := hw2
        clear hw2
        subst hw3
        clear b0 b1 b2 b3 b4 t0 t1 t2 t3 p0 r0 r1 r2 r3 r4 r5 r6 r7 r8 r9 CK
        have O8 := Lib.hid (O9.out.kpt kz)
        have KM8 := Lib.hid (ktr KM9.out kz)
        have KW8 := Lib.hid (ktr KW9.out kz)
        have R8 := Lib.hid (R9.out.kpt kz)
        have r1 : World.cell? w8 ⟨wr.heap.size, 1, none⟩ = some (.int .i64 f) := R8.out.cell 1
        have r2 : World.cell? w8 ⟨wr.heap.size, 2, none⟩ = some (.int .i64 t) := R8.out.cell 2
        go_wp2
        go_ret2
        exact dayRes_nil HE2.out.symm (if_neg (by rw [HE2.out]; exact hL.out)) KW8.out
    · obtain rfl : k = fs.length := by omega
      rw [DA.out] at HE HD
      go_wp2
      go_ret2
      exact dayRes_ok HE.out (by unfold ifD; rw [if_pos (show X = 0 from HE.out), (show D = es ++ [] from HD.out)]; simp) HO.out MW.out (ktr KW.out HK.out)

theorem day_any (W q : Int) (v tv lv pv : Value) (hs : List Int) (ts fs : List (List Int)) (ps : List Int) (w : World) (hr : Reads w v hs) (hf : Fits hs) (ht : ReadsT w tv ts) (hl : ReadsF w lv fs) (hp : Reads w pv ps) :
    Calls Try.prog 8 #[calV W v, tv, lv, pv, .int .i64 q] w (DayRes w (dayE W hs ts fs ps q) (dayD W hs ts fs ps q)) := by
  by_cases hE : preE W hs ts fs ps q = 0
  · rw [(day_B hE).2, (day_B hE).1]
    exact day_ok W q v tv lv pv hs ts fs ps w hr hf ht hl hp hE
  · rw [(day_A hE).2, (day_A hE).1]
    exact day_no W q v tv lv pv hs ts fs ps w hr hf ht hl hp hE


end Go.Proofs.Ytgccipmeiceonaa

-- PenN
namespace Go.Proofs.Ytgccipmeiceonaa
open Go.RowKit
set_option linter.unusedVariables false

theorem orE_mk {a b : Int} (h : a = 0) (g : b = 0) : orE a b = 0 := by rw [orE_r h, g]
theorem day_sub {W : Int} {hs : List Int} {ts fs gs : List (List Int)} {ps : List Int} {q : Int} (h : dayE W hs ts fs ps q = 0) (s : gs.Sublist fs) (g : pdE W hs ts q gs = 0) : dayE W hs ts gs ps q = 0 := by
  obtain ⟨h1, h2⟩ := orE_0 h
  obtain ⟨h3, h4⟩ := orE_0 h1
  obtain ⟨h5, h6⟩ := orE_0 h4
  obtain ⟨h7, h8⟩ := orE_0 h6
  exact orE_mk (orE_mk h3 (orE_mk h5 (orE_mk (checks_sub s h7) h8))) g
theorem day_parts {W : Int} {hs : List Int} {ts fs : List (List Int)} {ps : List Int} {q : Int} (h : dayE W hs ts fs ps q = 0) (k : Nat) :
    dayE W hs ts (fs.take k) ps q = 0 ∧ dayE W hs ts (fs.drop k) ps q = 0 ∧ dayD W hs ts fs ps q = dayD W hs ts (fs.take k) ps q ++ dayD W hs ts (fs.drop k) ps q := by
  have hp := (orE_0 h).2
  rw [← List.take_append_drop k fs, pdE_app] at hp
  obtain ⟨p1, p2⟩ := orE_0 hp
  have a := day_sub h (List.take_sublist k fs) p1
  have b := day_sub h (List.drop_sublist k fs) p2
  refine ⟨a, b, ?_⟩
  unfold dayD
  rw [if_pos h, if_pos a, if_pos b, ← dueL_app, List.take_append_drop]
theorem dayD_len {W : Int} {hs : List Int} {ts fs : List (List Int)} {ps : List Int} {q : Int} (h : dayE W hs ts fs ps q = 0) : (dayD W hs ts fs ps q).length ≤ fs.length ∧ fs.length ≤ 60 := by
  refine ⟨?_, (checksE_0 (orE_0 (orE_0 (orE_0 (orE_0 h).1).2).2).1).1⟩
  unfold dayD; rw [if_pos h]; exact dueL_len fs
theorem csL_amt {W : Int} {hs tl l : List Int} {p q : Int} (h : failEL l = 0) (hp : prcB p = true) : csL W hs tl l p q ≤ 118059162071741130 := by
  unfold csL
  split
  · decide
  · unfold dlyQ
    split
    · next hb =>
      obtain ⟨b1, b2, b3⟩ := dly_t hb
      exact (dly_bd b1 b2 b3).2
    · decide
theorem dueL_inp {W : Int} {hs : List Int} {ts : List (List Int)} {ps : List Int} {q : Int} (hp : ps.length = 20 ∧ ∀ p ∈ ps, prcB p = true) : ∀ (fs : List (List Int)), (∀ l ∈ fs, failEL l = 0) → InP (dueL W hs ts ps q fs)
  | [], _ => fun p hp => absurd hp (by simp [dueL])
  | l :: fs, h => by
    have ih := dueL_inp (W := W) (hs := hs) (ts := ts) (q := q) hp fs (fun m hm => h m (by simp [hm]))
    rw [dueL]
    split
    · next h0 =>
      intro p hp'
      rcases List.mem_cons.1 hp' with rfl | hp'
      · have hl := h l (by simp)
        have hl2 := hl
        unfold failEL at hl2
        have b := fail_bd hl2
        have hpr : prcB (prOf ps l) = true := by
          unfold prOf
          have : (l.getD 4 0 - 1).toNat < ps.length := by rw [hp.1]; omega
          rw [List.getD_eq_getElem?_getD, List.getElem?_eq_getElem this]
          exact hp.2 _ (List.getElem_mem this)
        have c := csL_amt (W := W) (hs := hs) (tl := tlOf ts l) (q := q) hl hpr
        simp only
        omega
      · exact ih p hp'
    · exact ih
theorem dayD_inp {W : Int} {hs : List Int} {ts fs : List (List Int)} {ps : List Int} {q : Int} : InP (dayD W hs ts fs ps q) := by
  unfold dayD
  by_cases h : dayE W hs ts fs ps q = 0
  · rw [if_pos h]
    obtain ⟨h1, h2⟩ := orE_0 h
    have h7 := orE_0 (orE_0 (orE_0 h1).2).2
    exact dueL_inp (prsE_0 (orE_0 h7.2).1) fs (checksE_0 h7.1).2
  · rw [if_neg h]; intro p hp; cases hp

end Go.Proofs.Ytgccipmeiceonaa
