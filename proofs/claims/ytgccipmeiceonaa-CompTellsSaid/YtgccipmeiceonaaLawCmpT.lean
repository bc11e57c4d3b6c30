/-
  CompTells: all calls of package comp answer what the reference answers.
-/
import Derived.Test.YtgccipmeiceonaaRefCmp2
import Derived.Test.YtgccipmeiceonaaRefCmp3
import Derived.Test.YtgccipmeiceonaaEqlF
namespace Go.Proofs.Ytgccipmeiceonaa
open Go.RowKit
set_option linter.unusedVariables false

def MidIs (v : Value) (q e : Int) (w : World) : Prop := ∀ w', Kpt w w' → Calls Try.prog 17 #[v] w' fun r w'' => r = .returned (.tuple #[.int .i64 q, .int .i64 e]) ∧ Kpt w' w''
theorem MidIs.run {v : Value} {q e : Int} {w : World} (h : MidIs v q e w) (w' : World) (k : Kpt w w') : Calls Try.prog 17 #[v] w' fun r w'' => r = .returned (.tuple #[.int .i64 q, .int .i64 e]) ∧ Kpt w' w'' := h w' k
def RmdIs (v : Value) (q e : Int) (w : World) : Prop := ∀ w', Kpt w w' → Calls Try.prog 21 #[v] w' fun r w'' => r = .returned (.tuple #[.int .i64 q, .int .i64 e]) ∧ Kpt w' w''
theorem RmdIs.run {v : Value} {q e : Int} {w : World} (h : RmdIs v q e w) (w' : World) (k : Kpt w w') : Calls Try.prog 21 #[v] w' fun r w'' => r = .returned (.tuple #[.int .i64 q, .int .i64 e]) ∧ Kpt w' w'' := h w' k
def PayIs2 (fs : Array Value) (P X : Int) (G : Array Value) (l : List (Int × Int × Int)) (E : Int) : Prop := ∀ w, Calls Try.prog 16 #[.agg fs, .int .i64 P, .int .i64 X] w (PayRes G l E w)
theorem PayIs2.run {fs : Array Value} {P X : Int} {G : Array Value} {l : List (Int × Int × Int)} {E : Int} (h : PayIs2 fs P X G l E) (w : World) : Calls Try.prog 16 #[.agg fs, .int .i64 P, .int .i64 X] w (PayRes G l E w) := h w
def RpyIs2 (fs : Array Value) (P X : Int) (G : Array Value) (l : List (Int × Int × Int)) (E : Int) : Prop := ∀ w, Calls Try.prog 20 #[.agg fs, .int .i64 P, .int .i64 X] w (PayRes G l E w)
theorem RpyIs2.run {fs : Array Value} {P X : Int} {G : Array Value} {l : List (Int × Int × Int)} {E : Int} (h : RpyIs2 fs P X G l E) (w : World) : Calls Try.prog 20 #[.agg fs, .int .i64 P, .int .i64 X] w (PayRes G l E w) := h w

set_option maxRecDepth 100000 in
set_option maxHeartbeats 8000000 in
theorem comptells_plain (i f t c p d u x b y U P X : Int) (v : Value) (S M : Int) (zs : List Int) (w : World) (hr : Reads w v zs) :
    Calls Try.prog 4 #[.agg #[.int .i64 i, .int .i64 f, .int .i64 t, .int .i64 c, .int .i64 p, .int .i64 d, .int .i64 u, .int .i64 x, .int .i64 b, .int .i64 y], .int .i64 U, .int .i64 P, .int .i64 X, v, .int .i64 S, .int .i64 M] w fun e w' => e = .returned (.bool true) ∧ Kpt w w' := by
  obtain ⟨G, l, E, hG, P1, P2⟩ := pay_both i f t c p d u x b y P X
  obtain ⟨z0, z1, z2, z3, z4, z5, z6, z7, z8, z9, rfl⟩ := hG
  have HP1 : Hid (PayIs2 #[.int .i64 i, .int .i64 f, .int .i64 t, .int .i64 c, .int .i64 p, .int .i64 d, .int .i64 u, .int .i64 x, .int .i64 b, .int .i64 y] P X #[.int .i64 z0, .int .i64 z1, .int .i64 z2, .int .i64 z3, .int .i64 z4, .int .i64 z5, .int .i64 z6, .int .i64 z7, .int .i64 z8, .int .i64 z9] l E) := P1
  have HP2 : Hid (RpyIs2 #[.int .i64 i, .int .i64 f, .int .i64 t, .int .i64 c, .int .i64 p, .int .i64 d, .int .i64 u, .int .i64 x, .int .i64 b, .int .i64 y] P X #[.int .i64 z0, .int .i64 z1, .int .i64 z2, .int .i64 z3, .int .i64 z4, .int .i64 z5, .int .i64 z6, .int .i64 z7, .int .i64 z8, .int .i64 z9] l E) := P2
  have HM1 : Hid (MidIs v (midQ zs) (midE zs) w) := fun w' k => middle_any v zs w' (hr.kpt k)
  have HM2 : Hid (RmdIs v (midQ zs) (midE zs) w) := fun w' k => rmid_any v zs w' (hr.kpt k)
  have HW1 := Lib.hid (wt_is U P X)
  have HW2 := Lib.hid (rwt_is U P X)
  have HL1 := Lib.hid (fun w => limit_any P S M w)
  have HL2 := Lib.hid (fun w => rlim_any P S M w)
  have eq := eqlF z0 z1 z2 z3 z4 z5 z6 z7 z8 z9
  have BF : Hid (Blk (w.alloc (.cells #[.int .i64 i, .int .i64 f, .int .i64 t, .int .i64 c, .int .i64 p, .int .i64 d, .int .i64 u, .int .i64 x, .int .i64 b, .int .i64 y] 38)) w.heap.size #[.int .i64 i, .int .i64 f, .int .i64 t, .int .i64 c, .int .i64 p, .int .i64 d, .int .i64 u, .int .i64 x, .int .i64 b, .int .i64 y] 38) := Blk.made _ _ _
  have K0 : Hid (Kpt w (w.alloc (.cells #[.int .i64 i, .int .i64 f, .int .i64 t, .int .i64 c, .int .i64 p, .int .i64 d, .int .i64 u, .int .i64 x, .int .i64 b, .int .i64 y] 38))) := (Kpt.refl w).alloc _
  obtain ⟨an, nn, cn, rfl⟩ : ∃ a n c, v = .slice a n c := by obtain ⟨a, c, rfl, -⟩ := hr; exact ⟨_, _, _, rfl⟩
  clear P1 P2 hr
  generalize midQ zs = mq at *
  generalize midE zs = me at *
  generalize limQ P S M = lq at *
  generalize limE P S M = le at *
  generalize wthQ U P X = wq at *
  generalize wthE U P X = we at *
  go_enter Try.func4, Try.ntmps4
  go_wp2_with (first
    | (refine wp_loadF rfl (.tmp 7) rfl w.heap.size _ rfl BF6.out rfl ?_)
    | (refine wp_loadF rfl (.tmp 7) rfl w.heap.size _ rfl BF1.out rfl ?_)
    | (go_at_call 15; (with_reducible refine (HW1.out.run _).mono ?_); rintro e w1 ⟨rfl, k1⟩; have K1 := Lib.hid (ktr K0.out k1); have BF1 := Lib.hid (BF.out.kpt k1); clear k1)
    | (go_at_call 16; (with_reducible refine (HP1.out.run _).mono ?_); rintro e w2 ⟨a1, c1, rfl, r1, k1⟩; have K2 := Lib.hid ((ktr K1.out k1).alloc (.cells #[.int .i64 z0, .int .i64 z1, .int .i64 z2, .int .i64 z3, .int .i64 z4, .int .i64 z5, .int .i64 z6, .int .i64 z7, .int .i64 z8, .int .i64 z9] 38)); have BF2 := Lib.hid ((BF1.out.kpt k1).alloc (.cells #[.int .i64 z0, .int .i64 z1, .int .i64 z2, .int .i64 z3, .int .i64 z4, .int .i64 z5, .int .i64 z6, .int .i64 z7, .int .i64 z8, .int .i64 z9] 38)); have Bx : Hid (Blk (w2.alloc (.cells #[.int .i64 z0, .int .i64 z1, .int .i64 z2, .int .i64 z3, .int .i64 z4, .int .i64 z5, .int .i64 z6, .int .i64 z7, .int .i64 z8, .int .i64 z9] 38)) w2.heap.size #[.int .i64 z0, .int .i64 z1, .int .i64 z2, .int .i64 z3, .int .i64 z4, .int .i64 z5, .int .i64 z6, .int .i64 z7, .int .i64 z8, .int .i64 z9] 38) := Blk.made _ _ _; have RP1 := Lib.hid (ReadsP.kpt r1 ((Kpt.refl _).alloc (.cells #[.int .i64 z0, .int .i64 z1, .int .i64 z2, .int .i64 z3, .int .i64 z4, .int .i64 z5, .int .i64 z6, .int .i64 z7, .int .i64 z8, .int .i64 z9] 38))); clear k1 r1)
    | (go_at_call 17; (with_reducible refine (HM1.out.run _ K2.out).mono ?_); rintro e w3 ⟨rfl, k1⟩; have K3 := Lib.hid (ktr K2.out k1); have BF3 := Lib.hid (BF2.out.kpt k1); have Bx := Lib.hid (Bx.out.kpt k1); have RP1 := Lib.hid (RP1.out.kpt k1); clear k1)
    | (go_at_call 18; (with_reducible refine (HL1.out _).mono ?_); rintro e w4 ⟨rfl, k1⟩; have K4 := Lib.hid (ktr K3.out k1); have BF4 := Lib.hid (BF3.out.kpt k1); have Bx := Lib.hid (Bx.out.kpt k1); have RP1 := Lib.hid (RP1.out.kpt k1); clear k1)
    | (go_at_call 19; (with_reducible refine (HW2.out.run _).mono ?_); rintro e w5 ⟨rfl, k1⟩; have K5 := Lib.hid (ktr K4.out k1); have BF6 := Lib.hid (BF4.out.kpt k1); have Bx := Lib.hid (Bx.out.kpt k1); have RP1 := Lib.hid (RP1.out.kpt k1); clear k1)
    | (go_at_call 20; (with_reducible refine (HP2.out.run _).mono ?_); rintro e w6 ⟨a2, c2, rfl, r1, k1⟩; have K6 := Lib.hid ((ktr K5.out k1).alloc (.cells #[.int .i64 z0, .int .i64 z1, .int .i64 z2, .int .i64 z3, .int .i64 z4, .int .i64 z5, .int .i64 z6, .int .i64 z7, .int .i64 z8, .int .i64 z9] 38)); have Bx := Lib.hid ((Bx.out.kpt k1).alloc (.cells #[.int .i64 z0, .int .i64 z1, .int .i64 z2, .int .i64 z3, .int .i64 z4, .int .i64 z5, .int .i64 z6, .int .i64 z7, .int .i64 z8, .int .i64 z9] 38)); have By : Hid (Blk (w6.alloc (.cells #[.int .i64 z0, .int .i64 z1, .int .i64 z2, .int .i64 z3, .int .i64 z4, .int .i64 z5, .int .i64 z6, .int .i64 z7, .int .i64 z8, .int .i64 z9] 38)) w6.heap.size #[.int .i64 z0, .int .i64 z1, .int .i64 z2, .int .i64 z3, .int .i64 z4, .int .i64 z5, .int .i64 z6, .int .i64 z7, .int .i64 z8, .int .i64 z9] 38) := Blk.made _ _ _; have RP1 := Lib.hid ((RP1.out.kpt k1).kpt ((Kpt.refl _).alloc (.cells #[.int .i64 z0, .int .i64 z1, .int .i64 z2, .int .i64 z3, .int .i64 z4, .int .i64 z5, .int .i64 z6, .int .i64 z7, .int .i64 z8, .int .i64 z9] 38))); have RP2 := Lib.hid (ReadsP.kpt r1 ((Kpt.refl _).alloc (.cells #[.int .i64 z0, .int .i64 z1, .int .i64 z2, .int .i64 z3, .int .i64 z4, .int .i64 z5, .int .i64 z6, .int .i64 z7, .int .i64 z8, .int .i64 z9] 38))); clear k1 r1)
    | (go_at_call 21; (with_reducible refine (HM2.out.run _ K6.out).mono ?_); rintro e w7 ⟨rfl, k1⟩; have K7 := Lib.hid (ktr K6.out k1); have Bx := Lib.hid (Bx.out.kpt k1); have By := Lib.hid (By.out.kpt k1); have RP1 := Lib.hid (RP1.out.kpt k1); have RP2 := Lib.hid (RP2.out.kpt k1); clear k1)
    | (go_at_call 22; (with_reducible refine (HL2.out _).mono ?_); rintro e w8 ⟨rfl, k1⟩; have K8 := Lib.hid (ktr K7.out k1); have Bx := Lib.hid (Bx.out.kpt k1); have By := Lib.hid (By.out.kpt k1); have RP1 := Lib.hid (RP1.out.kpt k1); have RP2 := Lib.hid (RP2.out.kpt k1); clear k1)
    | (go_at_call 23; (with_reducible refine (compBegun _).mono ?_); rintro e wz ⟨rfl, k1⟩; have K9 := Lib.hid (ktr K8.out k1); have Bx := Lib.hid (Bx.out.kpt k1); have By := Lib.hid (By.out.kpt k1); have RP1 := Lib.hid (RP1.out.kpt k1); have RP2 := Lib.hid (RP2.out.kpt k1); have x0 : World.cell? wz ⟨w2.heap.size, 0, none⟩ = some (.int .i64 z0) := Bx.out.cell 0; have x1 : World.cell? wz ⟨w2.heap.size, 1, none⟩ = some (.int .i64 z1) := Bx.out.cell 1; have x2 : World.cell? wz ⟨w2.heap.size, 2, none⟩ = some (.int .i64 z2) := Bx.out.cell 2; have x3 : World.cell? wz ⟨w2.heap.size, 3, none⟩ = some (.int .i64 z3) := Bx.out.cell 3; have x4 : World.cell? wz ⟨w2.heap.size, 4, none⟩ = some (.int .i64 z4) := Bx.out.cell 4; have x5 : World.cell? wz ⟨w2.heap.size, 5, none⟩ = some (.int .i64 z5) := Bx.out.cell 5; have x6 : World.cell? wz ⟨w2.heap.size, 6, none⟩ = some (.int .i64 z6) := Bx.out.cell 6; have x7 : World.cell? wz ⟨w2.heap.size, 7, none⟩ = some (.int .i64 z7) := Bx.out.cell 7; have x8 : World.cell? wz ⟨w2.heap.size, 8, none⟩ = some (.int .i64 z8) := Bx.out.cell 8; have x9 : World.cell? wz ⟨w2.heap.size, 9, none⟩ = some (.int .i64 z9) := Bx.out.cell 9; have y0 : World.cell? wz ⟨w6.heap.size, 0, none⟩ = some (.int .i64 z0) := By.out.cell 0; have y1 : World.cell? wz ⟨w6.heap.size, 1, none⟩ = some (.int .i64 z1) := By.out.cell 1; have y2 : World.cell? wz ⟨w6.heap.size, 2, none⟩ = some (.int .i64 z2) := By.out.cell 2; have y3 : World.cell? wz ⟨w6.heap.size, 3, none⟩ = some (.int .i64 z3) := By.out.cell 3; have y4 : World.cell? wz ⟨w6.heap.size, 4, none⟩ = some (.int .i64 z4) := By.out.cell 4; have y5 : World.cell? wz ⟨w6.heap.size, 5, none⟩ = some (.int .i64 z5) := By.out.cell 5; have y6 : World.cell? wz ⟨w6.heap.size, 6, none⟩ = some (.int .i64 z6) := By.out.cell 6; have y7 : World.cell? wz ⟨w6.heap.size, 7, none⟩ = some (.int .i64 z7) := By.out.cell 7; have y8 : World.cell? wz ⟨w6.heap.size, 8, none⟩ = some (.int .i64 z8) := By.out.cell 8; have y9 : World.cell? wz ⟨w6.heap.size, 9, none⟩ = some (.int .i64 z9) := By.out.cell 9; clear k1)
    | (go_at_call 24; (with_reducible refine (sameP_any _ _ l _ RP1.out RP2.out).mono ?_); rintro e wy ⟨rfl, k1⟩; have K10 := Lib.hid (ktr K9.out k1); clear k1)
    | fail)
  go_ret
  exact ⟨rfl, K10.out⟩

end Go.Proofs.Ytgccipmeiceonaa
