/-
  Merged: LawPT.
-/
import Derived.Test.YtgccipmeiceonaaMp38
import Derived.Test.YtgccipmeiceonaaMp44
import Derived.Test.YtgccipmeiceonaaMp43
-- LawPT
namespace Go.Proofs.Ytgccipmeiceonaa
open Go.RowKit
set_option linter.unusedVariables false

set_option maxRecDepth 100000 in
set_option maxHeartbeats 8000000 in
theorem ptells_plain (W : Int) (tv lv pv : Value) (q U PR RT : Int) (v : Value) (hs : List Int) (ts fs : List (List Int)) (ps : List Int) (w : World) (hr : Reads w v hs) (hf : Fits hs) (ht : ReadsT w tv ts) (hl : ReadsF w lv fs) (hp : Reads w pv ps) :
    Calls Try.prog 3 #[calV W v, tv, lv, pv, .int .i64 q, .int .i64 U, .int .i64 PR, .int .i64 RT] w fun e w' => e = .returned (.bool true) ∧ Kpt w w' := by
  have A1 := Lib.hid (fun w' => daily_any U PR RT w')
  have A2 := Lib.hid (fun w' (k : Kpt w w') => day_any W q v tv lv pv hs ts fs ps w' (hr.kpt k) hf (ht.kpt k) (hl.kpt k) (hp.kpt k))
  have B1 := Lib.hid (fun w' => rdl_any U PR RT w')
  have B2 := Lib.hid (fun w' (k : Kpt w w') => rpd_any W q v tv lv pv hs ts fs ps w' (hr.kpt k) (ht.kpt k) (hl.kpt k) (hp.kpt k))
  have C1 := Lib.hid (fun w' (k : Kpt w w') => prices_run pv ps w' (hp.kpt k))
  have C2 := Lib.hid (fun w' (k : Kpt w w') => rprs_run pv ps w' (hp.kpt k))
  have HI : Hid (InP (dayD W hs ts fs ps q)) := dayD_inp
  obtain ⟨ah, nh, ch, rfl⟩ : ∃ a n c, v = .slice a n c := by obtain ⟨a, c, rfl, -⟩ := hr; exact ⟨_, _, _, rfl⟩
  obtain ⟨at1, nt, ct, rfl⟩ : ∃ a n c, tv = .slice a n c := by obtain ⟨a, c, rfl, -⟩ := ht; exact ⟨_, _, _, rfl⟩
  obtain ⟨al, nl, cl, rfl⟩ : ∃ a n c, lv = .slice a n c := by obtain ⟨a, c, rfl, -⟩ := hl; exact ⟨_, _, _, rfl⟩
  obtain ⟨ap, np, cp, rfl⟩ : ∃ a n c, pv = .slice a n c := by obtain ⟨a, c, rfl, -⟩ := hp; exact ⟨_, _, _, rfl⟩
  have BC : Hid (Blk (w.alloc (.cells #[.int .i64 W, .slice ah nh ch] 24)) w.heap.size #[.int .i64 W, .slice ah nh ch] 24) := Blk.made _ _ _
  have K0 : Hid (Kpt w (w.alloc (.cells #[.int .i64 W, .slice ah nh ch] 24))) := (Kpt.refl w).alloc _
  have V : Hid (Kpt (w.alloc (.cells #[.int .i64 W, .slice ah nh ch] 24)) (w.alloc (.cells #[.int .i64 W, .slice ah nh ch] 24))) := Kpt.refl _
  unfold calV at *
  clear hr hf ht hl hp
  generalize dayD W hs ts fs ps q = ds at *
  generalize dayE W hs ts fs ps q = de at *
  generalize dlyQ U PR RT = dq at *
  generalize dlyE U PR RT = dqe at *
  generalize prsE ps = pe at *
  go_enter Try.func3, Try.ntmps3
  go_wp2_with (first
    | (go_at_call 7; (with_reducible refine (A1.out _).mono ?_); rintro e w1 ⟨rfl, k1⟩; have K1 := Lib.hid (ktr K0.out k1); have V := Lib.hid (ktr V.out k1); have a0 : World.cell? w1 ⟨w.heap.size, 0, none⟩ = some (.int .i64 W) := (BC.out.kpt V.out).cell 0; have a1 : World.cell? w1 ⟨w.heap.size, 1, none⟩ = some (.slice ah nh ch) := (BC.out.kpt V.out).cell 1; clear k1)
    | (go_at_call 8; (with_reducible refine (A2.out _ K1.out).mono ?_); rintro e w2 ⟨d1, rfl, o1, k1⟩; have K2 := Lib.hid (ktr K1.out k1); have V := Lib.hid (ktr V.out k1); have R1 := Lib.hid (OwnsT.reads o1 HI.out); obtain ⟨b1, m1, c1, rfl, -⟩ := OwnsT.formN o1; clear k1 o1 a0 a1)
    | (go_at_call 9; (with_reducible refine (B1.out _).mono ?_); rintro e w3 ⟨rfl, rfl⟩; have a0 : World.cell? w2 ⟨w.heap.size, 0, none⟩ = some (.int .i64 W) := (BC.out.kpt V.out).cell 0; have a1 : World.cell? w2 ⟨w.heap.size, 1, none⟩ = some (.slice ah nh ch) := (BC.out.kpt V.out).cell 1)
    | (go_at_call 10; (with_reducible refine (B2.out _ K2.out).mono ?_); rintro e w4 ⟨d2, rfl, o2, k1⟩; have K4 := Lib.hid (ktr K2.out k1); have R1 := Lib.hid (R1.out.kpt k1); have R2 := Lib.hid (OwnsT.reads o2 HI.out); obtain ⟨b2, m2, c2, rfl, -⟩ := OwnsT.formN o2; clear k1 o2 a0 a1)
    | (go_at_call 11; (with_reducible refine (penaltyBegun _).mono ?_); rintro e w5 ⟨rfl, k1⟩; have K5 := Lib.hid (ktr K4.out k1); have R1 := Lib.hid (R1.out.kpt k1); have R2 := Lib.hid (R2.out.kpt k1); clear k1)
    | (go_at_call 12; (with_reducible refine (C1.out _ K5.out).mono ?_); rintro e w6 ⟨rfl, rfl⟩)
    | (go_at_call 13; (with_reducible refine (C2.out _ K5.out).mono ?_); rintro e w6 ⟨rfl, rfl⟩)
    | (go_at_call 14; (with_reducible refine (sameD_any _ _ _ _ R1.out R2.out).mono ?_); rintro e w7 ⟨rfl, k1⟩; have K7 := Lib.hid (ktr K5.out k1); clear k1)
    | fail)
  go_ret
  exact ⟨rfl, K7.out⟩

end Go.Proofs.Ytgccipmeiceonaa
