/-
  Merged: LawClT.
-/
import Derived.Test.YtgccipmeiceonaaMk27
import Derived.Test.YtgccipmeiceonaaMk25
import Derived.Test.YtgccipmeiceonaaMk28
import Derived.Test.YtgccipmeiceonaaMk24
-- LawClT
namespace Go.Proofs.Ytgccipmeiceonaa
open Go.RowKit
set_option linter.unusedVariables false

/-- what claims answer: dues, postings, the error -/
def ClmRes (ds qs : List (Int × Int × Int)) (E : Int) (w : World) (e : Ending) (w' : World) : Prop := ∃ a c b d, e = .returned (.tuple #[.slice a ds.length c, .slice b qs.length d, .int .i64 E]) ∧ ReadsP w' (.slice a ds.length c) ds ∧ ReadsP w' (.slice b qs.length d) qs ∧ Kpt w w'
theorem clmRes_nil {E : Int} {w w' : World} (k : Kpt w w') : ClmRes [] [] E w (.returned (.tuple #[.slice none 0 0, .slice none 0 0, .int .i64 E])) w' := ⟨none, 0, none, 0, rfl, readsP_nil _ _ _ (fun _ => rfl), readsP_nil _ _ _ (fun _ => rfl), k⟩
theorem clmRes_ok {ds qs : List (Int × Int × Int)} {B B' : Nat} {dv pv : Value} {w w' : World} (hd : OwnsT 80 w' B dv ds) (hp : OwnsT 94 w' B' pv qs) (id : InP ds) (ip : InP qs) (k : Kpt w w') : ClmRes ds qs 0 w (.returned (.tuple #[dv, pv, .int .i64 0])) w' := by
  have r1 := OwnsT.reads hd id
  have r2 := OwnsT.reads hp ip
  obtain ⟨a, c, rfl, -⟩ := _root_.id r1
  obtain ⟨b, d, rfl, -⟩ := _root_.id r2
  exact ⟨_, _, _, _, rfl, r1, r2, k⟩
theorem dues_inp {P C G O : Int} {fs : List (List Int)} (h : cwE P C G O fs = 0) (xs : List (Fin fs.length)) : InP (duesOf C fs xs) := by
  obtain ⟨h1, h2⟩ := cwE_0 h
  have ev := evE_0 h1
  intro p hp
  obtain ⟨x, hx, hq⟩ := List.mem_flatMap.1 hp
  unfold dueL at hq
  split at hq
  · rw [List.mem_singleton.1 hq]
    have fb := flB_of ((checks_all h2).2 _ (getF_mem x.2))
    have f1 := fb 1 (by decide)
    have f2 := fb 2 (by decide)
    have cb := cost_bd (openL_bd (fs.getD x.1 [])) ev.2.1
    unfold hoC
    simp only
    omega
  · cases hq
theorem psts_inp {P C G O : Int} {fs : List (List Int)} (h : cwE P C G O fs = 0) (xs : List (Fin fs.length)) : InP (pstsOf P G O fs xs) := by
  obtain ⟨h1, h2⟩ := cwE_0 h
  have ev := evE_0 h1
  intro p hp
  obtain ⟨x, hx, hq⟩ := List.mem_flatMap.1 hp
  unfold pstL at hq
  split at hq
  · have fb := flB_of ((checks_all h2).2 _ (getF_mem x.2))
    have f1 := fb 1 (by decide)
    have f2 := fb 2 (by decide)
    have hb := hoN_bd (openL_bd (fs.getD x.1 [])) ev.2.2.1 ev.2.2.2.1.1
    simp only [List.mem_cons, List.not_mem_nil, or_false] at hq
    rcases hq with rfl | rfl <;> (simp only; omega)
  · cases hq

set_option maxRecDepth 100000 in
set_option maxHeartbeats 16000000 in
theorem ctl_w (P C G O U : Int) (a : Option Addr) (n cap : Nat) (w : World) (ds qs : List (Int × Int × Int)) (RL : List (List Int)) (cE nE hE lE gE ca fr rr : Int) (hq : hE = 0)
    (A1 : ∀ w', Calls Try.prog 35 #[.agg #[.int .i64 P, .int .i64 C, .int .i64 G, .int .i64 O], .int .i64 U] w' fun e w'' => e = .returned (.tuple #[.int .i64 ca, .int .i64 hE]) ∧ Kpt w' w'')
    (A2 : ∀ w', Calls Try.prog 36 #[.agg #[.int .i64 P, .int .i64 C, .int .i64 G, .int .i64 O], .int .i64 U] w' fun e w'' => e = .returned (.tuple #[.int .i64 fr, .int .i64 rr, .int .i64 hE]) ∧ Kpt w' w'')
    (A3 : ∀ w', Kpt w w' → Calls Try.prog 37 #[.agg #[.int .i64 P, .int .i64 C, .int .i64 G, .int .i64 O], .slice a n cap] w' (ClmRes ds qs lE w'))
    (A4 : ∀ w', Kpt w w' → Calls Try.prog 38 #[.agg #[.int .i64 P, .int .i64 C, .int .i64 G, .int .i64 O], .slice a n cap] w' (GrwRes RL gE w'))
    (B1 : ∀ w', Calls Try.prog 39 #[.agg #[.int .i64 P, .int .i64 C, .int .i64 G, .int .i64 O], .int .i64 U] w' fun e w'' => e = .returned (.int .i64 hE) ∧ Kpt w' w'')
    (B2 : ∀ w', Calls Try.prog 40 #[.agg #[.int .i64 P, .int .i64 C, .int .i64 G, .int .i64 O], .int .i64 U] w' fun e w'' => e = .returned (.int .i64 ca) ∧ Kpt w' w'')
    (B3 : ∀ w', Calls Try.prog 41 #[.agg #[.int .i64 P, .int .i64 C, .int .i64 G, .int .i64 O], .int .i64 U] w' fun e w'' => e = .returned (.tuple #[.int .i64 fr, .int .i64 rr]) ∧ Kpt w' w'')
    (B4 : ∀ w', Kpt w w' → Calls Try.prog 42 #[.agg #[.int .i64 P, .int .i64 C, .int .i64 G, .int .i64 O], .slice a n cap] w' (ClmRes ds qs lE w'))
    (B5 : ∀ w', Kpt w w' → Calls Try.prog 43 #[.agg #[.int .i64 P, .int .i64 C, .int .i64 G, .int .i64 O], .slice a n cap] w' (GrwRes RL gE w'))
    (C1 : ∀ w', Calls Try.prog 45 #[.agg #[.int .i64 P, .int .i64 C, .int .i64 G, .int .i64 O]] w' fun e w'' => e = .returned (.int .i64 cE) ∧ Kpt w' w'')
    (C2 : ∀ w', Calls Try.prog 46 #[.agg #[.int .i64 P, .int .i64 C, .int .i64 G, .int .i64 O]] w' fun e w'' => e = .returned (.int .i64 cE) ∧ Kpt w' w'') :
    Calls Try.prog 6 #[.agg #[.int .i64 P, .int .i64 C, .int .i64 G, .int .i64 O], .int .i64 U, .slice a n cap] w fun e w' => e = .returned (.bool true) ∧ Kpt w w' := by
  replace A1 := Lib.hid A1
  replace A2 := Lib.hid A2
  replace A3 := Lib.hid A3
  replace A4 := Lib.hid A4
  replace B1 := Lib.hid B1
  replace B4 := Lib.hid B4
  replace B5 := Lib.hid B5
  replace C1 := Lib.hid C1
  replace C2 := Lib.hid C2
  replace B2 := Lib.hid B2
  replace B3 := Lib.hid B3
  subst hq
  have BC : Hid (Blk (w.alloc (.cells #[.int .i64 P, .int .i64 C, .int .i64 G, .int .i64 O] 53)) w.heap.size #[.int .i64 P, .int .i64 C, .int .i64 G, .int .i64 O] 53) := Blk.made _ _ _
  have K0 : Hid (Kpt w (w.alloc (.cells #[.int .i64 P, .int .i64 C, .int .i64 G, .int .i64 O] 53))) := (Kpt.refl w).alloc _
  have V : Hid (Kpt (w.alloc (.cells #[.int .i64 P, .int .i64 C, .int .i64 G, .int .i64 O] 53)) (w.alloc (.cells #[.int .i64 P, .int .i64 C, .int .i64 G, .int .i64 O] 53))) := Kpt.refl _
  have mixed : Try.prog.follows .mixedOrders = true := by kernel_rfl
  have a0 : World.cell? (w.alloc (.cells #[.int .i64 P, .int .i64 C, .int .i64 G, .int .i64 O] 53)) ⟨w.heap.size, 0, none⟩ = some (.int .i64 P) := (BC.out.kpt V.out).cell 0
  have a1 : World.cell? (w.alloc (.cells #[.int .i64 P, .int .i64 C, .int .i64 G, .int .i64 O] 53)) ⟨w.heap.size, 1, none⟩ = some (.int .i64 C) := (BC.out.kpt V.out).cell 1
  have a2 : World.cell? (w.alloc (.cells #[.int .i64 P, .int .i64 C, .int .i64 G, .int .i64 O] 53)) ⟨w.heap.size, 2, none⟩ = some (.int .i64 G) := (BC.out.kpt V.out).cell 2
  have a3 : World.cell? (w.alloc (.cells #[.int .i64 P, .int .i64 C, .int .i64 G, .int .i64 O] 53)) ⟨w.heap.size, 3, none⟩ = some (.int .i64 O) := (BC.out.kpt V.out).cell 3
  go_enter Try.func6, Try.ntmps6
  go_upto_region 12 with (first
    | (go_at_call 35; (with_reducible refine (A1.out _).mono ?_); rintro e w1 ⟨rfl, kk⟩; have K1 := Lib.hid (ktr K0.out kk); have V := Lib.hid (ktr V.out kk); clear kk a0 a1 a2 a3; have a0 : World.cell? w1 ⟨w.heap.size, 0, none⟩ = some (.int .i64 P) := (BC.out.kpt V.out).cell 0; have a1 : World.cell? w1 ⟨w.heap.size, 1, none⟩ = some (.int .i64 C) := (BC.out.kpt V.out).cell 1; have a2 : World.cell? w1 ⟨w.heap.size, 2, none⟩ = some (.int .i64 G) := (BC.out.kpt V.out).cell 2; have a3 : World.cell? w1 ⟨w.heap.size, 3, none⟩ = some (.int .i64 O) := (BC.out.kpt V.out).cell 3)
    | (go_at_call 36; (with_reducible refine (A2.out _).mono ?_); rintro e w2 ⟨rfl, kk⟩; have K2 := Lib.hid (ktr K1.out kk); have V := Lib.hid (ktr V.out kk); clear kk a0 a1 a2 a3; have a0 : World.cell? w2 ⟨w.heap.size, 0, none⟩ = some (.int .i64 P) := (BC.out.kpt V.out).cell 0; have a1 : World.cell? w2 ⟨w.heap.size, 1, none⟩ = some (.int .i64 C) := (BC.out.kpt V.out).cell 1; have a2 : World.cell? w2 ⟨w.heap.size, 2, none⟩ = some (.int .i64 G) := (BC.out.kpt V.out).cell 2; have a3 : World.cell? w2 ⟨w.heap.size, 3, none⟩ = some (.int .i64 O) := (BC.out.kpt V.out).cell 3)
    | (go_at_call 37; (with_reducible refine (A3.out _ K2.out).mono ?_); rintro e w3 ⟨x1, x2, x3, x4, rfl, rd, rp, kk⟩; have K3 := Lib.hid (ktr K2.out kk); have V := Lib.hid (ktr V.out kk); have RD1 := Lib.hid rd; have RP1 := Lib.hid rp; clear kk rd rp a0 a1 a2 a3; have a0 : World.cell? w3 ⟨w.heap.size, 0, none⟩ = some (.int .i64 P) := (BC.out.kpt V.out).cell 0; have a1 : World.cell? w3 ⟨w.heap.size, 1, none⟩ = some (.int .i64 C) := (BC.out.kpt V.out).cell 1; have a2 : World.cell? w3 ⟨w.heap.size, 2, none⟩ = some (.int .i64 G) := (BC.out.kpt V.out).cell 2; have a3 : World.cell? w3 ⟨w.heap.size, 3, none⟩ = some (.int .i64 O) := (BC.out.kpt V.out).cell 3)
    | (go_at_call 38; (with_reducible refine (A4.out _ K3.out).mono ?_); rintro e w4 ⟨y1, y2, y3, rfl, rf, kk⟩; have K4 := Lib.hid (ktr K3.out kk); have V := Lib.hid (ktr V.out kk); have RD1 := Lib.hid (RD1.out.kpt kk); have RP1 := Lib.hid (RP1.out.kpt kk); have RF1 := Lib.hid rf; clear kk rf a0 a1 a2 a3; have a0 : World.cell? w4 ⟨w.heap.size, 0, none⟩ = some (.int .i64 P) := (BC.out.kpt V.out).cell 0; have a1 : World.cell? w4 ⟨w.heap.size, 1, none⟩ = some (.int .i64 C) := (BC.out.kpt V.out).cell 1; have a2 : World.cell? w4 ⟨w.heap.size, 2, none⟩ = some (.int .i64 G) := (BC.out.kpt V.out).cell 2; have a3 : World.cell? w4 ⟨w.heap.size, 3, none⟩ = some (.int .i64 O) := (BC.out.kpt V.out).cell 3)
    | (go_at_call 39; (with_reducible refine (B1.out _).mono ?_); rintro e w5 ⟨rfl, kk⟩; have K5 := Lib.hid (ktr K4.out kk); have V := Lib.hid (ktr V.out kk); have RD1 := Lib.hid (RD1.out.kpt kk); have RP1 := Lib.hid (RP1.out.kpt kk); have RF1 := Lib.hid (RF1.out.kpt kk); clear kk a0 a1 a2 a3; have a0 : World.cell? w5 ⟨w.heap.size, 0, none⟩ = some (.int .i64 P) := (BC.out.kpt V.out).cell 0; have a1 : World.cell? w5 ⟨w.heap.size, 1, none⟩ = some (.int .i64 C) := (BC.out.kpt V.out).cell 1; have a2 : World.cell? w5 ⟨w.heap.size, 2, none⟩ = some (.int .i64 G) := (BC.out.kpt V.out).cell 2; have a3 : World.cell? w5 ⟨w.heap.size, 3, none⟩ = some (.int .i64 O) := (BC.out.kpt V.out).cell 3)
    | (go_at_call 40; (with_reducible refine (B2.out _).mono ?_); rintro e w6 ⟨rfl, kk⟩; have K6 := Lib.hid (ktr K5.out kk); have V := Lib.hid (ktr V.out kk); have RD1 := Lib.hid (RD1.out.kpt kk); have RP1 := Lib.hid (RP1.out.kpt kk); have RF1 := Lib.hid (RF1.out.kpt kk); clear kk a0 a1 a2 a3; have a0 : World.cell? w6 ⟨w.heap.size, 0, none⟩ = some (.int .i64 P) := (BC.out.kpt V.out).cell 0; have a1 : World.cell? w6 ⟨w.heap.size, 1, none⟩ = some (.int .i64 C) := (BC.out.kpt V.out).cell 1; have a2 : World.cell? w6 ⟨w.heap.size, 2, none⟩ = some (.int .i64 G) := (BC.out.kpt V.out).cell 2; have a3 : World.cell? w6 ⟨w.heap.size, 3, none⟩ = some (.int .i64 O) := (BC.out.kpt V.out).cell 3)
    | (go_at_call 41; (with_reducible refine (B3.out _).mono ?_); rintro e w7 ⟨rfl, kk⟩; have K7 := Lib.hid (ktr K6.out kk); have V := Lib.hid (ktr V.out kk); have RD1 := Lib.hid (RD1.out.kpt kk); have RP1 := Lib.hid (RP1.out.kpt kk); have RF1 := Lib.hid (RF1.out.kpt kk); clear kk a0 a1 a2 a3; have a0 : World.cell? w7 ⟨w.heap.size, 0, none⟩ = some (.int .i64 P) := (BC.out.kpt V.out).cell 0; have a1 : World.cell? w7 ⟨w.heap.size, 1, none⟩ = some (.int .i64 C) := (BC.out.kpt V.out).cell 1; have a2 : World.cell? w7 ⟨w.heap.size, 2, none⟩ = some (.int .i64 G) := (BC.out.kpt V.out).cell 2; have a3 : World.cell? w7 ⟨w.heap.size, 3, none⟩ = some (.int .i64 O) := (BC.out.kpt V.out).cell 3)
    | (go_at_call 42; (with_reducible refine (B4.out _ K7.out).mono ?_); rintro e w8 ⟨z1, z2, z3, z4, rfl, rd, rp, kk⟩; have K8 := Lib.hid (ktr K7.out kk); have V := Lib.hid (ktr V.out kk); have RD1 := Lib.hid (RD1.out.kpt kk); have RP1 := Lib.hid (RP1.out.kpt kk); have RF1 := Lib.hid (RF1.out.kpt kk); have RD2 := Lib.hid rd; have RP2 := Lib.hid rp; clear kk rd rp a0 a1 a2 a3; have a0 : World.cell? w8 ⟨w.heap.size, 0, none⟩ = some (.int .i64 P) := (BC.out.kpt V.out).cell 0; have a1 : World.cell? w8 ⟨w.heap.size, 1, none⟩ = some (.int .i64 C) := (BC.out.kpt V.out).cell 1; have a2 : World.cell? w8 ⟨w.heap.size, 2, none⟩ = some (.int .i64 G) := (BC.out.kpt V.out).cell 2; have a3 : World.cell? w8 ⟨w.heap.size, 3, none⟩ = some (.int .i64 O) := (BC.out.kpt V.out).cell 3)
    | (go_at_call 43; (with_reducible refine (B5.out _ K8.out).mono ?_); rintro e w9 ⟨u1, u2, u3, rfl, rf, kk⟩; have K9 := Lib.hid (ktr K8.out kk); have V := Lib.hid (ktr V.out kk); have RD1 := Lib.hid (RD1.out.kpt kk); have RP1 := Lib.hid (RP1.out.kpt kk); have RF1 := Lib.hid (RF1.out.kpt kk); have RD2 := Lib.hid (RD2.out.kpt kk); have RP2 := Lib.hid (RP2.out.kpt kk); have RF2 := Lib.hid rf; clear kk rf a0 a1 a2 a3)
    | fail)
  have b0 := cell_k (q := w9) (a := ⟨w.heap.size, 0, none⟩) (v := .int .i64 P) ((BC.out.kpt V.out).cell 0)
  have b1 := cell_k (q := w9) (a := ⟨w.heap.size, 1, none⟩) (v := .int .i64 C) ((BC.out.kpt V.out).cell 1)
  have b2 := cell_k (q := w9) (a := ⟨w.heap.size, 2, none⟩) (v := .int .i64 G) ((BC.out.kpt V.out).cell 2)
  have b3 := cell_k (q := w9) (a := ⟨w.heap.size, 3, none⟩) (v := .int .i64 O) ((BC.out.kpt V.out).cell 3)
  have X1 := Lib.hid (fun p : KptTo w9 => claimBegun p.w)
  have X2 := Lib.hid (fun p : KptTo w9 => C1.out p.w)
  have X3 := Lib.hid (fun p : KptTo w9 => C2.out p.w)
  have X4 := Lib.hid (fun p : KptTo w9 => sameD_any _ _ ds p.w (RD1.out.kpt p.h) (RD2.out.kpt p.h))
  have X5 := Lib.hid (fun p : KptTo w9 => sameP_any _ _ qs p.w (RP1.out.kpt p.h) (RP2.out.kpt p.h))
  have X6 := Lib.hid (fun p : KptTo w9 => sameF_any _ _ RL p.w (RF1.out.kpt p.h) (RF2.out.kpt p.h))
  refine quiet_k (q := w9) mixed (by kernel_rfl) ?_
  repeat (go_big_quiet_step (first
    | (go_at_call 44; with_reducible refine calls_k (X1.out _))
    | (go_at_call 45; with_reducible refine calls_k (X2.out _))
    | (go_at_call 46; with_reducible refine calls_k (X3.out _))
    | (go_at_call 14; with_reducible refine calls_k (X4.out _))
    | (go_at_call 24; with_reducible refine calls_k (X5.out _))
    | (go_at_call 47; with_reducible refine calls_k (X6.out _))
    | fail))
  refine wpQuiet_nil ?_
  intro wb hw1
  obtain ⟨⟨wz, kz⟩, hw2⟩ := hw1
  have hw3 : wb = wz := hw2
  clear hw2
  subst hw3
  have KZ := Lib.hid (ktr K9.out kz)
  go_wp2
  go_ret
  exact ⟨rfl, KZ.out⟩

set_option maxRecDepth 100000 in
set_option maxHeartbeats 16000000 in
theorem ctl_e (P C G O U : Int) (a : Option Addr) (n cap : Nat) (w : World) (ds qs : List (Int × Int × Int)) (RL : List (List Int)) (cE nE hE lE gE ca fr rr : Int) (hq : hE ≠ 0)
    (A1 : ∀ w', Calls Try.prog 35 #[.agg #[.int .i64 P, .int .i64 C, .int .i64 G, .int .i64 O], .int .i64 U] w' fun e w'' => e = .returned (.tuple #[.int .i64 0, .int .i64 hE]) ∧ Kpt w' w'')
    (A2 : ∀ w', Calls Try.prog 36 #[.agg #[.int .i64 P, .int .i64 C, .int .i64 G, .int .i64 O], .int .i64 U] w' fun e w'' => e = .returned (.tuple #[.int .i64 0, .int .i64 0, .int .i64 hE]) ∧ Kpt w' w'')
    (A3 : ∀ w', Kpt w w' → Calls Try.prog 37 #[.agg #[.int .i64 P, .int .i64 C, .int .i64 G, .int .i64 O], .slice a n cap] w' (ClmRes ds qs lE w'))
    (A4 : ∀ w', Kpt w w' → Calls Try.prog 38 #[.agg #[.int .i64 P, .int .i64 C, .int .i64 G, .int .i64 O], .slice a n cap] w' (GrwRes RL gE w'))
    (B1 : ∀ w', Calls Try.prog 39 #[.agg #[.int .i64 P, .int .i64 C, .int .i64 G, .int .i64 O], .int .i64 U] w' fun e w'' => e = .returned (.int .i64 hE) ∧ Kpt w' w'')
    (B4 : ∀ w', Kpt w w' → Calls Try.prog 42 #[.agg #[.int .i64 P, .int .i64 C, .int .i64 G, .int .i64 O], .slice a n cap] w' (ClmRes ds qs lE w'))
    (B5 : ∀ w', Kpt w w' → Calls Try.prog 43 #[.agg #[.int .i64 P, .int .i64 C, .int .i64 G, .int .i64 O], .slice a n cap] w' (GrwRes RL gE w'))
    (C1 : ∀ w', Calls Try.prog 45 #[.agg #[.int .i64 P, .int .i64 C, .int .i64 G, .int .i64 O]] w' fun e w'' => e = .returned (.int .i64 cE) ∧ Kpt w' w'')
    (C2 : ∀ w', Calls Try.prog 46 #[.agg #[.int .i64 P, .int .i64 C, .int .i64 G, .int .i64 O]] w' fun e w'' => e = .returned (.int .i64 cE) ∧ Kpt w' w'') :
    Calls Try.prog 6 #[.agg #[.int .i64 P, .int .i64 C, .int .i64 G, .int .i64 O], .int .i64 U, .slice a n cap] w fun e w' => e = .returned (.bool true) ∧ Kpt w w' := by
  replace A1 := Lib.hid A1
  replace A2 := Lib.hid A2
  replace A3 := Lib.hid A3
  replace A4 := Lib.hid A4
  replace B1 := Lib.hid B1
  replace B4 := Lib.hid B4
  replace B5 := Lib.hid B5
  replace C1 := Lib.hid C1
  replace C2 := Lib.hid C2
  have q0 : (hE == 0) = false := beq_eq_false_iff_ne.2 hq
  clear hq
  have BC : Hid (Blk (w.alloc (.cells #[.int .i64 P, .int .i64 C, .int .i64 G, .int .i64 O] 53)) w.heap.size #[.int .i64 P, .int .i64 C, .int .i64 G, .int .i64 O] 53) := Blk.made _ _ _
  have K0 : Hid (Kpt w (w.alloc (.cells #[.int .i64 P, .int .i64 C, .int .i64 G, .int .i64 O] 53))) := (Kpt.refl w).alloc _
  have V : Hid (Kpt (w.alloc (.cells #[.int .i64 P, .int .i64 C, .int .i64 G, .int .i64 O] 53)) (w.alloc (.cells #[.int .i64 P, .int .i64 C, .int .i64 G, .int .i64 O] 53))) := Kpt.refl _
  have mixed : Try.prog.follows .mixedOrders = true := by kernel_rfl
  have a0 : World.cell? (w.alloc (.cells #[.int .i64 P, .int .i64 C, .int .i64 G, .int .i64 O] 53)) ⟨w.heap.size, 0, none⟩ = some (.int .i64 P) := (BC.out.kpt V.out).cell 0
  have a1 : World.cell? (w.alloc (.cells #[.int .i64 P, .int .i64 C, .int .i64 G, .int .i64 O] 53)) ⟨w.heap.size, 1, none⟩ = some (.int .i64 C) := (BC.out.kpt V.out).cell 1
  have a2 : World.cell? (w.alloc (.cells #[.int .i64 P, .int .i64 C, .int .i64 G, .int .i64 O] 53)) ⟨w.heap.size, 2, none⟩ = some (.int .i64 G) := (BC.out.kpt V.out).cell 2
  have a3 : World.cell? (w.alloc (.cells #[.int .i64 P, .int .i64 C, .int .i64 G, .int .i64 O] 53)) ⟨w.heap.size, 3, none⟩ = some (.int .i64 O) := (BC.out.kpt V.out).cell 3
  go_enter Try.func6, Try.ntmps6
  go_upto_region 12 with (first
    | (go_at_call 35; (with_reducible refine (A1.out _).mono ?_); rintro e w1 ⟨rfl, kk⟩; have K1 := Lib.hid (ktr K0.out kk); have V := Lib.hid (ktr V.out kk); clear kk a0 a1 a2 a3; have a0 : World.cell? w1 ⟨w.heap.size, 0, none⟩ = some (.int .i64 P) := (BC.out.kpt V.out).cell 0; have a1 : World.cell? w1 ⟨w.heap.size, 1, none⟩ = some (.int .i64 C) := (BC.out.kpt V.out).cell 1; have a2 : World.cell? w1 ⟨w.heap.size, 2, none⟩ = some (.int .i64 G) := (BC.out.kpt V.out).cell 2; have a3 : World.cell? w1 ⟨w.heap.size, 3, none⟩ = some (.int .i64 O) := (BC.out.kpt V.out).cell 3)
    | (go_at_call 36; (with_reducible refine (A2.out _).mono ?_); rintro e w2 ⟨rfl, kk⟩; have K2 := Lib.hid (ktr K1.out kk); have V := Lib.hid (ktr V.out kk); clear kk a0 a1 a2 a3; have a0 : World.cell? w2 ⟨w.heap.size, 0, none⟩ = some (.int .i64 P) := (BC.out.kpt V.out).cell 0; have a1 : World.cell? w2 ⟨w.heap.size, 1, none⟩ = some (.int .i64 C) := (BC.out.kpt V.out).cell 1; have a2 : World.cell? w2 ⟨w.heap.size, 2, none⟩ = some (.int .i64 G) := (BC.out.kpt V.out).cell 2; have a3 : World.cell? w2 ⟨w.heap.size, 3, none⟩ = some (.int .i64 O) := (BC.out.kpt V.out).cell 3)
    | (go_at_call 37; (with_reducible refine (A3.out _ K2.out).mono ?_); rintro e w3 ⟨x1, x2, x3, x4, rfl, rd, rp, kk⟩; have K3 := Lib.hid (ktr K2.out kk); have V := Lib.hid (ktr V.out kk); have RD1 := Lib.hid rd; have RP1 := Lib.hid rp; clear kk rd rp a0 a1 a2 a3; have a0 : World.cell? w3 ⟨w.heap.size, 0, none⟩ = some (.int .i64 P) := (BC.out.kpt V.out).cell 0; have a1 : World.cell? w3 ⟨w.heap.size, 1, none⟩ = some (.int .i64 C) := (BC.out.kpt V.out).cell 1; have a2 : World.cell? w3 ⟨w.heap.size, 2, none⟩ = some (.int .i64 G) := (BC.out.kpt V.out).cell 2; have a3 : World.cell? w3 ⟨w.heap.size, 3, none⟩ = some (.int .i64 O) := (BC.out.kpt V.out).cell 3)
    | (go_at_call 38; (with_reducible refine (A4.out _ K3.out).mono ?_); rintro e w4 ⟨y1, y2, y3, rfl, rf, kk⟩; have K4 := Lib.hid (ktr K3.out kk); have V := Lib.hid (ktr V.out kk); have RD1 := Lib.hid (RD1.out.kpt kk); have RP1 := Lib.hid (RP1.out.kpt kk); have RF1 := Lib.hid rf; clear kk rf a0 a1 a2 a3; have a0 : World.cell? w4 ⟨w.heap.size, 0, none⟩ = some (.int .i64 P) := (BC.out.kpt V.out).cell 0; have a1 : World.cell? w4 ⟨w.heap.size, 1, none⟩ = some (.int .i64 C) := (BC.out.kpt V.out).cell 1; have a2 : World.cell? w4 ⟨w.heap.size, 2, none⟩ = some (.int .i64 G) := (BC.out.kpt V.out).cell 2; have a3 : World.cell? w4 ⟨w.heap.size, 3, none⟩ = some (.int .i64 O) := (BC.out.kpt V.out).cell 3)
    | (go_at_call 39; (with_reducible refine (B1.out _).mono ?_); rintro e w5 ⟨rfl, kk⟩; have K5 := Lib.hid (ktr K4.out kk); have V := Lib.hid (ktr V.out kk); have RD1 := Lib.hid (RD1.out.kpt kk); have RP1 := Lib.hid (RP1.out.kpt kk); have RF1 := Lib.hid (RF1.out.kpt kk); clear kk a0 a1 a2 a3; have a0 : World.cell? w5 ⟨w.heap.size, 0, none⟩ = some (.int .i64 P) := (BC.out.kpt V.out).cell 0; have a1 : World.cell? w5 ⟨w.heap.size, 1, none⟩ = some (.int .i64 C) := (BC.out.kpt V.out).cell 1; have a2 : World.cell? w5 ⟨w.heap.size, 2, none⟩ = some (.int .i64 G) := (BC.out.kpt V.out).cell 2; have a3 : World.cell? w5 ⟨w.heap.size, 3, none⟩ = some (.int .i64 O) := (BC.out.kpt V.out).cell 3)
    | (go_at_call 42; (with_reducible refine (B4.out _ K5.out).mono ?_); rintro e w8 ⟨z1, z2, z3, z4, rfl, rd, rp, kk⟩; have K8 := Lib.hid (ktr K5.out kk); have V := Lib.hid (ktr V.out kk); have RD1 := Lib.hid (RD1.out.kpt kk); have RP1 := Lib.hid (RP1.out.kpt kk); have RF1 := Lib.hid (RF1.out.kpt kk); have RD2 := Lib.hid rd; have RP2 := Lib.hid rp; clear kk rd rp a0 a1 a2 a3; have a0 : World.cell? w8 ⟨w.heap.size, 0, none⟩ = some (.int .i64 P) := (BC.out.kpt V.out).cell 0; have a1 : World.cell? w8 ⟨w.heap.size, 1, none⟩ = some (.int .i64 C) := (BC.out.kpt V.out).cell 1; have a2 : World.cell? w8 ⟨w.heap.size, 2, none⟩ = some (.int .i64 G) := (BC.out.kpt V.out).cell 2; have a3 : World.cell? w8 ⟨w.heap.size, 3, none⟩ = some (.int .i64 O) := (BC.out.kpt V.out).cell 3)
    | (go_at_call 43; (with_reducible refine (B5.out _ K8.out).mono ?_); rintro e w9 ⟨u1, u2, u3, rfl, rf, kk⟩; have K9 := Lib.hid (ktr K8.out kk); have V := Lib.hid (ktr V.out kk); have RD1 := Lib.hid (RD1.out.kpt kk); have RP1 := Lib.hid (RP1.out.kpt kk); have RF1 := Lib.hid (RF1.out.kpt kk); have RD2 := Lib.hid (RD2.out.kpt kk); have RP2 := Lib.hid (RP2.out.kpt kk); have RF2 := Lib.hid rf; clear kk rf a0 a1 a2 a3)
    | fail)
  have b0 := cell_k (q := w9) (a := ⟨w.heap.size, 0, none⟩) (v := .int .i64 P) ((BC.out.kpt V.out).cell 0)
  have b1 := cell_k (q := w9) (a := ⟨w.heap.size, 1, none⟩) (v := .int .i64 C) ((BC.out.kpt V.out).cell 1)
  have b2 := cell_k (q := w9) (a := ⟨w.heap.size, 2, none⟩) (v := .int .i64 G) ((BC.out.kpt V.out).cell 2)
  have b3 := cell_k (q := w9) (a := ⟨w.heap.size, 3, none⟩) (v := .int .i64 O) ((BC.out.kpt V.out).cell 3)
  have X1 := Lib.hid (fun p : KptTo w9 => claimBegun p.w)
  have X2 := Lib.hid (fun p : KptTo w9 => C1.out p.w)
  have X3 := Lib.hid (fun p : KptTo w9 => C2.out p.w)
  have X4 := Lib.hid (fun p : KptTo w9 => sameD_any _ _ ds p.w (RD1.out.kpt p.h) (RD2.out.kpt p.h))
  have X5 := Lib.hid (fun p : KptTo w9 => sameP_any _ _ qs p.w (RP1.out.kpt p.h) (RP2.out.kpt p.h))
  have X6 := Lib.hid (fun p : KptTo w9 => sameF_any _ _ RL p.w (RF1.out.kpt p.h) (RF2.out.kpt p.h))
  refine quiet_k (q := w9) mixed (by kernel_rfl) ?_
  repeat (go_big_quiet_step (first
    | (go_at_call 44; with_reducible refine calls_k (X1.out _))
    | (go_at_call 45; with_reducible refine calls_k (X2.out _))
    | (go_at_call 46; with_reducible refine calls_k (X3.out _))
    | (go_at_call 14; with_reducible refine calls_k (X4.out _))
    | (go_at_call 24; with_reducible refine calls_k (X5.out _))
    | (go_at_call 47; with_reducible refine calls_k (X6.out _))
    | fail))
  refine wpQuiet_nil ?_
  intro wb hw1
  obtain ⟨⟨wz, kz⟩, hw2⟩ := hw1
  have hw3 : wb = wz := hw2
  clear hw2
  subst hw3
  have KZ := Lib.hid (ktr K9.out kz)
  go_wp2
  go_ret
  exact ⟨rfl, KZ.out⟩

theorem cltells_plain (P C G O U : Int) (v : Value) (fs : List (List Int)) (w : World) (hr : ReadsF w v fs) (hc : ∃ a n cap, v = .slice a n cap ∧ (a = none → cap = 0)) :
    Calls Try.prog 6 #[.agg #[.int .i64 P, .int .i64 C, .int .i64 G, .int .i64 O], .int .i64 U, v] w fun e w' => e = .returned (.bool true) ∧ Kpt w w' := by
  have hn : NilQ v := fun n cap e => by
    obtain ⟨a, n', c, e', h⟩ := hc
    rw [e] at e'
    injection e' with e1 e2 e3
    rw [e3]; exact h e1.symm
  have A4 := fun w' (k : Kpt w w') => grow_res P C G O v fs w' (hr.kpt k) hn
  have B5 := fun w' (k : Kpt w w') => rgr_any P C G O v fs w' (hr.kpt k) hn
  have AB : ∃ ds qs lE, (∀ w', Kpt w w' → Calls Try.prog 37 #[.agg #[.int .i64 P, .int .i64 C, .int .i64 G, .int .i64 O], v] w' (ClmRes ds qs lE w')) ∧ ∀ w', Kpt w w' → Calls Try.prog 42 #[.agg #[.int .i64 P, .int .i64 C, .int .i64 G, .int .i64 O], v] w' (ClmRes ds qs lE w') := by
    by_cases h : cwE P C G O fs = 0
    · obtain ⟨a, cap, rfl, -⟩ := _root_.id hr
      refine ⟨duesOf C fs (hit P fs fs.length), pstsOf P G O fs (hit P fs fs.length), 0, fun w' k => ?_, fun w' k => ?_⟩
      · refine (claims_ok P C G O a cap fs w' (hr.kpt k) h).mono ?_
        rintro e w'' ⟨dv, pv, rfl, hd, hp, kk⟩
        exact clmRes_ok hd hp (dues_inp h _) (psts_inp h _) kk
      · refine (rcl_ok P C G O a _ cap fs w' (hr.kpt k) rfl h).mono ?_
        rintro e w'' ⟨dv, pv, rfl, hd, hp, kk⟩
        exact clmRes_ok hd hp (dues_inp h _) (psts_inp h _) kk
    · refine ⟨[], [], cwE P C G O fs, fun w' k => ?_, fun w' k => ?_⟩
      · refine (claims_bad P C G O v fs w' (hr.kpt k) h).mono ?_
        rintro e w'' ⟨rfl, kk⟩
        exact clmRes_nil kk
      · refine (rcl_no P C G O v fs w' (hr.kpt k) h).mono ?_
        rintro e w'' ⟨rfl, kk⟩
        exact clmRes_nil kk
  obtain ⟨ds, qs, lE, A3, B4⟩ := AB
  have A1 := fun w' => cash_any P C G O U w'
  have A2 := fun w' => fresh_any P C G O U w'
  obtain ⟨a, cap, rfl, -⟩ := _root_.id hr
  by_cases h : hoE P C G O U = 0
  · obtain ⟨h1, h2, h3⟩ := hoE_0 h
    have ev := evE_0 h1
    simp only [h, if_true] at A1 A2
    exact ctl_w P C G O U a _ cap w ds qs _ _ 0 0 lE _ _ _ _ rfl A1 A2 A3 A4 (fun w' => (revE_run P C G O U w').mono (fun e w'' q => by rw [h] at q; exact q)) (fun w' => rcash_run P C G O U ev.2.1 ⟨h2, h3⟩ w') (fun w' => rfresh_run P C G O U ev.2.2.1 ev.2.2.2.1 ⟨h2, h3⟩ w') B4 B5 (fun w' => ev_run P C G O w') (fun w' => rev_run P C G O w')
  · simp only [if_neg h] at A1 A2
    exact ctl_e P C G O U a _ cap w ds qs _ _ 0 _ lE _ 0 0 0 h A1 A2 A3 A4 (fun w' => revE_run P C G O U w') B4 B5 (fun w' => ev_run P C G O w') (fun w' => rev_run P C G O w')

end Go.Proofs.Ytgccipmeiceonaa
