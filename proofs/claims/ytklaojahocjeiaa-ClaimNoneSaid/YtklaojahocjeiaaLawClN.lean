/-
  ClaimNone: the law answers true.
-/
import Derived.Test.YtklaojahocjeiaaClmK
import Derived.Test.YtklaojahocjeiaaSameF
import Derived.Test.YtklaojahocjeiaaClmM
namespace Go.Proofs.Ytklaojahocjeiaa
open Go.RowKit
set_option linter.unusedVariables false

/-- what Claims answers, but for where it lies -/
def ClmIs (P C G O : Int) (v : Value) (nd np : Nat) (w : World) : Prop := Calls Try.prog 10 #[.agg #[.int .i64 P, .int .i64 C, .int .i64 G, .int .i64 O], v] w fun e w' => ∃ a1 c1 a2 c2, e = .returned (.tuple #[.slice a1 nd c1, .slice a2 np c2, .int .i64 0]) ∧ Kpt w w'
theorem ClmIs.run {P C G O : Int} {v : Value} {nd np : Nat} {w : World} (h : ClmIs P C G O v nd np w) : Calls Try.prog 10 #[.agg #[.int .i64 P, .int .i64 C, .int .i64 G, .int .i64 O], v] w fun e w' => ∃ a1 c1 a2 c2, e = .returned (.tuple #[.slice a1 nd c1, .slice a2 np c2, .int .i64 0]) ∧ Kpt w w' := h
/-- what Grow answers; where nothing grows it reads as it did -/
def GrwIs (P C G O : Int) (v : Value) (fs : List (List Int)) (f : Int) (S : Prop) (w : World) : Prop := Calls Try.prog 11 #[.agg #[.int .i64 P, .int .i64 C, .int .i64 G, .int .i64 O], v] w fun e w' => ∃ gv, e = .returned (.tuple #[gv, .int .i64 f]) ∧ (S → ReadsF w' gv fs) ∧ Kpt w w'
theorem GrwIs.run {P C G O : Int} {v : Value} {fs : List (List Int)} {f : Int} {S : Prop} {w : World} (h : GrwIs P C G O v fs f S w) : Calls Try.prog 11 #[.agg #[.int .i64 P, .int .i64 C, .int .i64 G, .int .i64 O], v] w fun e w' => ∃ gv, e = .returned (.tuple #[gv, .int .i64 f]) ∧ (S → ReadsF w' gv fs) ∧ Kpt w w' := h

set_option maxHeartbeats 2000000 in
theorem cno_bad (P C G O : Int) (v : Value) (fs : List (List Int)) (w : World) (hr : ReadsF w v fs) (h : cwE P C G O fs ≠ 0) : Calls Try.prog 7 #[.agg #[.int .i64 P, .int .i64 C, .int .i64 G, .int .i64 O], v] w fun e w' => e = .returned (.bool true) ∧ Kpt w w' := by
  have D := Lib.hid (fun w' (k : Kpt w w') => claims_bad P C G O v fs w' (hr.kpt k) h)
  have R := Lib.hid (fun w' (k : Kpt w w') => grow_bad P C G O v fs w' (hr.kpt k) h)
  generalize cwE P C G O fs = E at h D R
  have y : (E != 0) = true := bne_iff_ne.2 h
  clear h hr
  have K0 : Hid (Kpt w (w.alloc (.cells #[.int .i64 P, .int .i64 C, .int .i64 G, .int .i64 O] 23))) := (Kpt.refl w).alloc _
  have B0 : Hid (Blk (w.alloc (.cells #[.int .i64 P, .int .i64 C, .int .i64 G, .int .i64 O] 23)) w.heap.size #[.int .i64 P, .int .i64 C, .int .i64 G, .int .i64 O] 23) := Blk.made w _ _
  go_enter Try.func7, Try.ntmps7
  go_wp2_with (first
    | (go_at_call 17; (with_reducible refine (claimBegun _).mono ?_); rintro e w1 ⟨rfl, k1⟩; have K0 := Lib.hid (ktr K0.out k1); have B0 := Lib.hid (B0.out.kpt k1); have x0 : World.cell? w1 ⟨w.heap.size, 0, none⟩ = some (.int .i64 P) := B0.out.cell 0; have x1 : World.cell? w1 ⟨w.heap.size, 1, none⟩ = some (.int .i64 C) := B0.out.cell 1; have x2 : World.cell? w1 ⟨w.heap.size, 2, none⟩ = some (.int .i64 G) := B0.out.cell 2; have x3 : World.cell? w1 ⟨w.heap.size, 3, none⟩ = some (.int .i64 O) := B0.out.cell 3; clear k1)
    | (go_at_call 10; (with_reducible refine (D.out _ K0.out).mono ?_); rintro e w2 ⟨rfl, k1⟩; have K0 := Lib.hid (ktr K0.out k1); have B0 := Lib.hid (B0.out.kpt k1); have x0 : World.cell? w2 ⟨w.heap.size, 0, none⟩ = some (.int .i64 P) := B0.out.cell 0; have x1 : World.cell? w2 ⟨w.heap.size, 1, none⟩ = some (.int .i64 C) := B0.out.cell 1; have x2 : World.cell? w2 ⟨w.heap.size, 2, none⟩ = some (.int .i64 G) := B0.out.cell 2; have x3 : World.cell? w2 ⟨w.heap.size, 3, none⟩ = some (.int .i64 O) := B0.out.cell 3; clear k1)
    | (go_at_call 11; (with_reducible refine (R.out _ K0.out).mono ?_); rintro e w3 ⟨rfl, k1⟩; have K0 := Lib.hid (ktr K0.out k1); have B0 := Lib.hid (B0.out.kpt k1); have x0 : World.cell? w3 ⟨w.heap.size, 0, none⟩ = some (.int .i64 P) := B0.out.cell 0; have x1 : World.cell? w3 ⟨w.heap.size, 1, none⟩ = some (.int .i64 C) := B0.out.cell 1; have x2 : World.cell? w3 ⟨w.heap.size, 2, none⟩ = some (.int .i64 G) := B0.out.cell 2; have x3 : World.cell? w3 ⟨w.heap.size, 3, none⟩ = some (.int .i64 O) := B0.out.cell 3; clear k1))
  go_ret
  exact ⟨rfl, K0.out⟩

set_option maxHeartbeats 4000000 in
theorem cno_00 (P C G O : Int) (nd : Nat) (np : Nat) (f : Int) (S : Prop) (hC : C ≠ 0) (hG : G ≠ 0) (a : Option Addr) (cap : Nat) (fs : List (List Int)) (w : World) (hr : ReadsF w (.slice a fs.length cap) fs) (hN : (∀ j, j < fs.length → (fs.getD j []).getD 4 0 ≠ P) → nd = 0 ∧ np = 0 ∧ f = 0 ∧ S) 
    (hD : ∀ w', Kpt w w' → ClmIs P C G O (.slice a fs.length cap) nd np w') (hR : ∀ w', Kpt w w' → GrwIs P C G O (.slice a fs.length cap) fs f S w') : Calls Try.prog 7 #[.agg #[.int .i64 P, .int .i64 C, .int .i64 G, .int .i64 O], .slice a fs.length cap] w fun e w' => e = .returned (.bool true) ∧ Kpt w w' := by
  have D := Lib.hid hD
  have R := Lib.hid hR
  have yC : (C == 0) = false := beq_eq_false_iff_ne.2 hC
  have yG : (G == 0) = false := beq_eq_false_iff_ne.2 hG
  have HR := Lib.hid hr
  have HN := Lib.hid hN
  have hlen : fs.length ≤ maxLen := by obtain ⟨_, _, e, hm, -⟩ := hr; exact hm
  unfold maxLen at hlen
  clear hr hD hR hC hG hN
  have K0 : Hid (Kpt w (w.alloc (.cells #[.int .i64 P, .int .i64 C, .int .i64 G, .int .i64 O] 23))) := (Kpt.refl w).alloc _
  have B0 : Hid (Blk (w.alloc (.cells #[.int .i64 P, .int .i64 C, .int .i64 G, .int .i64 O] 23)) w.heap.size #[.int .i64 P, .int .i64 C, .int .i64 G, .int .i64 O] 23) := Blk.made w _ _
  go_enter Try.func7, Try.ntmps7
  go_wp2_with (first
    | (go_at_call 17; (with_reducible refine (claimBegun _).mono ?_); rintro e w1 ⟨rfl, k1⟩; have GV := Lib.hid (fun s => (GV.out s).kpt k1); have K0 := Lib.hid (ktr K0.out k1); have B0 := Lib.hid (B0.out.kpt k1); have x0 : World.cell? w1 ⟨w.heap.size, 0, none⟩ = some (.int .i64 P) := B0.out.cell 0; have x1 : World.cell? w1 ⟨w.heap.size, 1, none⟩ = some (.int .i64 C) := B0.out.cell 1; have x2 : World.cell? w1 ⟨w.heap.size, 2, none⟩ = some (.int .i64 G) := B0.out.cell 2; have x3 : World.cell? w1 ⟨w.heap.size, 3, none⟩ = some (.int .i64 O) := B0.out.cell 3; clear k1; have RR := Lib.hid (HR.out.kpt K0.out))
    | (go_at_call 10; (with_reducible refine (D.out _ K0.out).run.mono ?_); rintro e w2 ⟨a1, c1, a2, c2, rfl, k1⟩; have K0 := Lib.hid (ktr K0.out k1); have B0 := Lib.hid (B0.out.kpt k1); have x0 : World.cell? w2 ⟨w.heap.size, 0, none⟩ = some (.int .i64 P) := B0.out.cell 0; have x1 : World.cell? w2 ⟨w.heap.size, 1, none⟩ = some (.int .i64 C) := B0.out.cell 1; have x2 : World.cell? w2 ⟨w.heap.size, 2, none⟩ = some (.int .i64 G) := B0.out.cell 2; have x3 : World.cell? w2 ⟨w.heap.size, 3, none⟩ = some (.int .i64 O) := B0.out.cell 3; clear k1)
    | (go_at_call 11; (with_reducible refine (R.out _ K0.out).run.mono ?_); rintro e w3 ⟨gv, rfl, hs, k1⟩; have GV := Lib.hid hs; have K0 := Lib.hid (ktr K0.out k1); have B0 := Lib.hid (B0.out.kpt k1); have x0 : World.cell? w3 ⟨w.heap.size, 0, none⟩ = some (.int .i64 P) := B0.out.cell 0; have x1 : World.cell? w3 ⟨w.heap.size, 1, none⟩ = some (.int .i64 C) := B0.out.cell 1; have x2 : World.cell? w3 ⟨w.heap.size, 2, none⟩ = some (.int .i64 G) := B0.out.cell 2; have x3 : World.cell? w3 ⟨w.heap.size, 3, none⟩ = some (.int .i64 O) := B0.out.cell 3; clear k1; clear hs)
    | (go_at_call 22; (with_reducible refine (sameF_any _ _ fs _ (GV.out trivial) RR.out).mono ?_); rintro e w4 ⟨rfl, k1⟩; have GV := Lib.hid (fun s => (GV.out s).kpt k1); have RR := Lib.hid (RR.out.kpt k1); have K0 := Lib.hid (ktr K0.out k1); have B0 := Lib.hid (B0.out.kpt k1); have x0 : World.cell? w4 ⟨w.heap.size, 0, none⟩ = some (.int .i64 P) := B0.out.cell 0; have x1 : World.cell? w4 ⟨w.heap.size, 1, none⟩ = some (.int .i64 C) := B0.out.cell 1; have x2 : World.cell? w4 ⟨w.heap.size, 2, none⟩ = some (.int .i64 G) := B0.out.cell 2; have x3 : World.cell? w4 ⟨w.heap.size, 3, none⟩ = some (.int .i64 O) := B0.out.cell 3; clear k1))
  clear D R
  go_loopw [10] (fun i wr => ∃ k : Nat, k ≤ fs.length ∧ i = .int .i64 k ∧ Hid (∀ j, j < k → (fs.getD j []).getD 4 0 ≠ P) ∧ Hid (Kpt w wr) ∧ Hid (Blk wr w.heap.size #[.int .i64 P, .int .i64 C, .int .i64 G, .int .i64 O] 23) ∧ Hid (S → ReadsF wr gv fs)) (fun i _ => fs.length - (intOf i).toNat)
  case atStart => exact ⟨0, Nat.zero_le _, rfl, (fun j hj => absurd hj (Nat.not_lt_zero j)), K0.out, B0.out, GV.out⟩
  case round =>
    obtain ⟨k, hk, rfl, HP, HK, HB, HV⟩ := hrel
    clear K0 B0 GV RR x0 x1 x2 x3
    by_cases hlt : k < fs.length
    · obtain ⟨a', cap', e, -, -, hc⟩ := HR.out
      injection e with e1 e2 e3
      subst e1 e3
      obtain ⟨g, off, rfl, hfl⟩ := hc k hlt
      have c4 : wr.cell? ⟨g, off + k * 10 + 4, none⟩ = _ := hfl.kpt HK.out 4 (by omega)
      have x0 : wr.cell? ⟨w.heap.size, 0, none⟩ = some (.int .i64 P) := HB.out.cell 0
      clear hc hfl e2
      have b0 : (0 : Int) ≤ (k : Int) := by omega
      have b1 : (k : Int) < (fs.length : Int) := by omega
      have HP2 := Lib.hid (fun (q : (fs.getD k []).getD 4 0 ≠ P) j (hj : j < k + 1) => (show (fs.getD j []).getD 4 0 ≠ P by
        rcases Nat.lt_or_ge j k with h | h
        · exact HP.out j h
        · obtain rfl : j = k := by omega
          exact q))
      generalize (fs.getD k []).getD 4 0 = p at *
      by_cases hp : p = P
      · have y : (p == P) = true := beq_iff_eq.2 hp
        clear hp
        go_wp2
        go_quiet (fail)
        go_wp2
        go_ret
        exact ⟨rfl, HK.out.drewN _⟩
      · have y : (p == P) = false := beq_eq_false_iff_ne.2 hp
        have HP3 := Lib.hid (HP2.out hp)
        clear hp HP2
        go_wp2
        go_quiet (fail)
        go_wp2
        go_roundw
        case rel => exact ⟨k + 1, by omega, by go_num, HP3.out, HK.out.drewN _, HB.out.kpt ((Kpt.refl wr).drewN _), fun s => (HV.out s).kpt ((Kpt.refl wr).drewN _)⟩
        case measure => simp [intOf]; omega
    · obtain rfl : k = fs.length := by omega
      have hh := HN.out HP.out
      obtain ⟨rfl, rfl, rfl, hs⟩ := hh
      have GV := Lib.hid (HV.out hs)
      have RR := Lib.hid (HR.out.kpt HK.out)
      clear HV HR HP HN
      go_wp2_with (go_at_call 22; (with_reducible refine (sameF_any _ _ fs _ GV.out RR.out).mono ?_); rintro e w4 ⟨rfl, k1⟩; have K9 := Lib.hid (ktr HK.out k1); clear k1)
      go_ret
      exact ⟨rfl, K9.out⟩

set_option maxHeartbeats 4000000 in
theorem cno_01 (P C G O : Int) (nd : Nat) (hC : C ≠ 0) (hG : G = 0) (a : Option Addr) (cap : Nat) (fs : List (List Int)) (w : World) (hr : ReadsF w (.slice a fs.length cap) fs) (hN : (∀ j, j < fs.length → (fs.getD j []).getD 4 0 ≠ P) → nd = 0) 
    (hD : ∀ w', Kpt w w' → ClmIs P C G O (.slice a fs.length cap) nd 0 w') (hR : ∀ w', Kpt w w' → GrwIs P C G O (.slice a fs.length cap) fs 0 True w') : Calls Try.prog 7 #[.agg #[.int .i64 P, .int .i64 C, .int .i64 G, .int .i64 O], .slice a fs.length cap] w fun e w' => e = .returned (.bool true) ∧ Kpt w w' := by
  have D := Lib.hid hD
  have R := Lib.hid hR
  have yC : (C == 0) = false := beq_eq_false_iff_ne.2 hC
  have yG : (G == 0) = true := beq_iff_eq.2 hG
  have HR := Lib.hid hr
  have HN := Lib.hid hN
  have hlen : fs.length ≤ maxLen := by obtain ⟨_, _, e, hm, -⟩ := hr; exact hm
  unfold maxLen at hlen
  clear hr hD hR hC hG hN
  have K0 : Hid (Kpt w (w.alloc (.cells #[.int .i64 P, .int .i64 C, .int .i64 G, .int .i64 O] 23))) := (Kpt.refl w).alloc _
  have B0 : Hid (Blk (w.alloc (.cells #[.int .i64 P, .int .i64 C, .int .i64 G, .int .i64 O] 23)) w.heap.size #[.int .i64 P, .int .i64 C, .int .i64 G, .int .i64 O] 23) := Blk.made w _ _
  go_enter Try.func7, Try.ntmps7
  go_wp2_with (first
    | (go_at_call 17; (with_reducible refine (claimBegun _).mono ?_); rintro e w1 ⟨rfl, k1⟩; have GV := Lib.hid (fun s => (GV.out s).kpt k1); have K0 := Lib.hid (ktr K0.out k1); have B0 := Lib.hid (B0.out.kpt k1); have x0 : World.cell? w1 ⟨w.heap.size, 0, none⟩ = some (.int .i64 P) := B0.out.cell 0; have x1 : World.cell? w1 ⟨w.heap.size, 1, none⟩ = some (.int .i64 C) := B0.out.cell 1; have x2 : World.cell? w1 ⟨w.heap.size, 2, none⟩ = some (.int .i64 G) := B0.out.cell 2; have x3 : World.cell? w1 ⟨w.heap.size, 3, none⟩ = some (.int .i64 O) := B0.out.cell 3; clear k1; have RR := Lib.hid (HR.out.kpt K0.out))
    | (go_at_call 10; (with_reducible refine (D.out _ K0.out).run.mono ?_); rintro e w2 ⟨a1, c1, a2, c2, rfl, k1⟩; have K0 := Lib.hid (ktr K0.out k1); have B0 := Lib.hid (B0.out.kpt k1); have x0 : World.cell? w2 ⟨w.heap.size, 0, none⟩ = some (.int .i64 P) := B0.out.cell 0; have x1 : World.cell? w2 ⟨w.heap.size, 1, none⟩ = some (.int .i64 C) := B0.out.cell 1; have x2 : World.cell? w2 ⟨w.heap.size, 2, none⟩ = some (.int .i64 G) := B0.out.cell 2; have x3 : World.cell? w2 ⟨w.heap.size, 3, none⟩ = some (.int .i64 O) := B0.out.cell 3; clear k1)
    | (go_at_call 11; (with_reducible refine (R.out _ K0.out).run.mono ?_); rintro e w3 ⟨gv, rfl, hs, k1⟩; have GV := Lib.hid hs; have K0 := Lib.hid (ktr K0.out k1); have B0 := Lib.hid (B0.out.kpt k1); have x0 : World.cell? w3 ⟨w.heap.size, 0, none⟩ = some (.int .i64 P) := B0.out.cell 0; have x1 : World.cell? w3 ⟨w.heap.size, 1, none⟩ = some (.int .i64 C) := B0.out.cell 1; have x2 : World.cell? w3 ⟨w.heap.size, 2, none⟩ = some (.int .i64 G) := B0.out.cell 2; have x3 : World.cell? w3 ⟨w.heap.size, 3, none⟩ = some (.int .i64 O) := B0.out.cell 3; clear k1; clear hs)
    | (go_at_call 22; (with_reducible refine (sameF_any _ _ fs _ (GV.out trivial) RR.out).mono ?_); rintro e w4 ⟨rfl, k1⟩; have GV := Lib.hid (fun s => (GV.out s).kpt k1); have RR := Lib.hid (RR.out.kpt k1); have K0 := Lib.hid (ktr K0.out k1); have B0 := Lib.hid (B0.out.kpt k1); have x0 : World.cell? w4 ⟨w.heap.size, 0, none⟩ = some (.int .i64 P) := B0.out.cell 0; have x1 : World.cell? w4 ⟨w.heap.size, 1, none⟩ = some (.int .i64 C) := B0.out.cell 1; have x2 : World.cell? w4 ⟨w.heap.size, 2, none⟩ = some (.int .i64 G) := B0.out.cell 2; have x3 : World.cell? w4 ⟨w.heap.size, 3, none⟩ = some (.int .i64 O) := B0.out.cell 3; clear k1))
  clear D R
  go_loopw [10] (fun i wr => ∃ k : Nat, k ≤ fs.length ∧ i = .int .i64 k ∧ Hid (∀ j, j < k → (fs.getD j []).getD 4 0 ≠ P) ∧ Hid (Kpt w wr) ∧ Hid (Blk wr w.heap.size #[.int .i64 P, .int .i64 C, .int .i64 G, .int .i64 O] 23) ∧ Hid (True → ReadsF wr gv fs)) (fun i _ => fs.length - (intOf i).toNat)
  case atStart => exact ⟨0, Nat.zero_le _, rfl, (fun j hj => absurd hj (Nat.not_lt_zero j)), K0.out, B0.out, GV.out⟩
  case round =>
    obtain ⟨k, hk, rfl, HP, HK, HB, HV⟩ := hrel
    clear K0 B0 GV RR x0 x1 x2 x3
    by_cases hlt : k < fs.length
    · obtain ⟨a', cap', e, -, -, hc⟩ := HR.out
      injection e with e1 e2 e3
      subst e1 e3
      obtain ⟨g, off, rfl, hfl⟩ := hc k hlt
      have c4 : wr.cell? ⟨g, off + k * 10 + 4, none⟩ = _ := hfl.kpt HK.out 4 (by omega)
      have x0 : wr.cell? ⟨w.heap.size, 0, none⟩ = some (.int .i64 P) := HB.out.cell 0
      clear hc hfl e2
      have b0 : (0 : Int) ≤ (k : Int) := by omega
      have b1 : (k : Int) < (fs.length : Int) := by omega
      have HP2 := Lib.hid (fun (q : (fs.getD k []).getD 4 0 ≠ P) j (hj : j < k + 1) => (show (fs.getD j []).getD 4 0 ≠ P by
        rcases Nat.lt_or_ge j k with h | h
        · exact HP.out j h
        · obtain rfl : j = k := by omega
          exact q))
      generalize (fs.getD k []).getD 4 0 = p at *
      by_cases hp : p = P
      · have y : (p == P) = true := beq_iff_eq.2 hp
        clear hp
        go_wp2
        go_quiet (fail)
        go_wp2
        go_ret
        exact ⟨rfl, HK.out.drewN _⟩
      · have y : (p == P) = false := beq_eq_false_iff_ne.2 hp
        have HP3 := Lib.hid (HP2.out hp)
        clear hp HP2
        go_wp2
        go_quiet (fail)
        go_wp2
        go_roundw
        case rel => exact ⟨k + 1, by omega, by go_num, HP3.out, HK.out.drewN _, HB.out.kpt ((Kpt.refl wr).drewN _), fun s => (HV.out s).kpt ((Kpt.refl wr).drewN _)⟩
        case measure => simp [intOf]; omega
    · obtain rfl : k = fs.length := by omega
      have hh := HN.out HP.out
      obtain rfl := hh
      have GV := Lib.hid (HV.out trivial)
      have RR := Lib.hid (HR.out.kpt HK.out)
      clear HV HR HP HN
      go_wp2_with (go_at_call 22; (with_reducible refine (sameF_any _ _ fs _ GV.out RR.out).mono ?_); rintro e w4 ⟨rfl, k1⟩; have K9 := Lib.hid (ktr HK.out k1); clear k1)
      go_ret
      exact ⟨rfl, K9.out⟩

set_option maxHeartbeats 4000000 in
theorem cno_10 (P C G O : Int) (np : Nat) (f : Int) (S : Prop) (hC : C = 0) (hG : G ≠ 0) (a : Option Addr) (cap : Nat) (fs : List (List Int)) (w : World) (hr : ReadsF w (.slice a fs.length cap) fs) (hN : (∀ j, j < fs.length → (fs.getD j []).getD 4 0 ≠ P) → np = 0 ∧ f = 0 ∧ S) 
    (hD : ∀ w', Kpt w w' → ClmIs P C G O (.slice a fs.length cap) 0 np w') (hR : ∀ w', Kpt w w' → GrwIs P C G O (.slice a fs.length cap) fs f S w') : Calls Try.prog 7 #[.agg #[.int .i64 P, .int .i64 C, .int .i64 G, .int .i64 O], .slice a fs.length cap] w fun e w' => e = .returned (.bool true) ∧ Kpt w w' := by
  have D := Lib.hid hD
  have R := Lib.hid hR
  have yC : (C == 0) = true := beq_iff_eq.2 hC
  have yG : (G == 0) = false := beq_eq_false_iff_ne.2 hG
  have HR := Lib.hid hr
  have HN := Lib.hid hN
  have hlen : fs.length ≤ maxLen := by obtain ⟨_, _, e, hm, -⟩ := hr; exact hm
  unfold maxLen at hlen
  clear hr hD hR hC hG hN
  have K0 : Hid (Kpt w (w.alloc (.cells #[.int .i64 P, .int .i64 C, .int .i64 G, .int .i64 O] 23))) := (Kpt.refl w).alloc _
  have B0 : Hid (Blk (w.alloc (.cells #[.int .i64 P, .int .i64 C, .int .i64 G, .int .i64 O] 23)) w.heap.size #[.int .i64 P, .int .i64 C, .int .i64 G, .int .i64 O] 23) := Blk.made w _ _
  go_enter Try.func7, Try.ntmps7
  go_wp2_with (first
    | (go_at_call 17; (with_reducible refine (claimBegun _).mono ?_); rintro e w1 ⟨rfl, k1⟩; have GV := Lib.hid (fun s => (GV.out s).kpt k1); have K0 := Lib.hid (ktr K0.out k1); have B0 := Lib.hid (B0.out.kpt k1); have x0 : World.cell? w1 ⟨w.heap.size, 0, none⟩ = some (.int .i64 P) := B0.out.cell 0; have x1 : World.cell? w1 ⟨w.heap.size, 1, none⟩ = some (.int .i64 C) := B0.out.cell 1; have x2 : World.cell? w1 ⟨w.heap.size, 2, none⟩ = some (.int .i64 G) := B0.out.cell 2; have x3 : World.cell? w1 ⟨w.heap.size, 3, none⟩ = some (.int .i64 O) := B0.out.cell 3; clear k1; have RR := Lib.hid (HR.out.kpt K0.out))
    | (go_at_call 10; (with_reducible refine (D.out _ K0.out).run.mono ?_); rintro e w2 ⟨a1, c1, a2, c2, rfl, k1⟩; have K0 := Lib.hid (ktr K0.out k1); have B0 := Lib.hid (B0.out.kpt k1); have x0 : World.cell? w2 ⟨w.heap.size, 0, none⟩ = some (.int .i64 P) := B0.out.cell 0; have x1 : World.cell? w2 ⟨w.heap.size, 1, none⟩ = some (.int .i64 C) := B0.out.cell 1; have x2 : World.cell? w2 ⟨w.heap.size, 2, none⟩ = some (.int .i64 G) := B0.out.cell 2; have x3 : World.cell? w2 ⟨w.heap.size, 3, none⟩ = some (.int .i64 O) := B0.out.cell 3; clear k1)
    | (go_at_call 11; (with_reducible refine (R.out _ K0.out).run.mono ?_); rintro e w3 ⟨gv, rfl, hs, k1⟩; have GV := Lib.hid hs; have K0 := Lib.hid (ktr K0.out k1); have B0 := Lib.hid (B0.out.kpt k1); have x0 : World.cell? w3 ⟨w.heap.size, 0, none⟩ = some (.int .i64 P) := B0.out.cell 0; have x1 : World.cell? w3 ⟨w.heap.size, 1, none⟩ = some (.int .i64 C) := B0.out.cell 1; have x2 : World.cell? w3 ⟨w.heap.size, 2, none⟩ = some (.int .i64 G) := B0.out.cell 2; have x3 : World.cell? w3 ⟨w.heap.size, 3, none⟩ = some (.int .i64 O) := B0.out.cell 3; clear k1; clear hs)
    | (go_at_call 22; (with_reducible refine (sameF_any _ _ fs _ (GV.out trivial) RR.out).mono ?_); rintro e w4 ⟨rfl, k1⟩; have GV := Lib.hid (fun s => (GV.out s).kpt k1); have RR := Lib.hid (RR.out.kpt k1); have K0 := Lib.hid (ktr K0.out k1); have B0 := Lib.hid (B0.out.kpt k1); have x0 : World.cell? w4 ⟨w.heap.size, 0, none⟩ = some (.int .i64 P) := B0.out.cell 0; have x1 : World.cell? w4 ⟨w.heap.size, 1, none⟩ = some (.int .i64 C) := B0.out.cell 1; have x2 : World.cell? w4 ⟨w.heap.size, 2, none⟩ = some (.int .i64 G) := B0.out.cell 2; have x3 : World.cell? w4 ⟨w.heap.size, 3, none⟩ = some (.int .i64 O) := B0.out.cell 3; clear k1))
  clear D R
  go_loopw [10] (fun i wr => ∃ k : Nat, k ≤ fs.length ∧ i = .int .i64 k ∧ Hid (∀ j, j < k → (fs.getD j []).getD 4 0 ≠ P) ∧ Hid (Kpt w wr) ∧ Hid (Blk wr w.heap.size #[.int .i64 P, .int .i64 C, .int .i64 G, .int .i64 O] 23) ∧ Hid (S → ReadsF wr gv fs)) (fun i _ => fs.length - (intOf i).toNat)
  case atStart => exact ⟨0, Nat.zero_le _, rfl, (fun j hj => absurd hj (Nat.not_lt_zero j)), K0.out, B0.out, GV.out⟩
  case round =>
    obtain ⟨k, hk, rfl, HP, HK, HB, HV⟩ := hrel
    clear K0 B0 GV RR x0 x1 x2 x3
    by_cases hlt : k < fs.length
    · obtain ⟨a', cap', e, -, -, hc⟩ := HR.out
      injection e with e1 e2 e3
      subst e1 e3
      obtain ⟨g, off, rfl, hfl⟩ := hc k hlt
      have c4 : wr.cell? ⟨g, off + k * 10 + 4, none⟩ = _ := hfl.kpt HK.out 4 (by omega)
      have x0 : wr.cell? ⟨w.heap.size, 0, none⟩ = some (.int .i64 P) := HB.out.cell 0
      clear hc hfl e2
      have b0 : (0 : Int) ≤ (k : Int) := by omega
      have b1 : (k : Int) < (fs.length : Int) := by omega
      have HP2 := Lib.hid (fun (q : (fs.getD k []).getD 4 0 ≠ P) j (hj : j < k + 1) => (show (fs.getD j []).getD 4 0 ≠ P by
        rcases Nat.lt_or_ge j k with h | h
        · exact HP.out j h
        · obtain rfl : j = k := by omega
          exact q))
      generalize (fs.getD k []).getD 4 0 = p at *
      by_cases hp : p = P
      · have y : (p == P) = true := beq_iff_eq.2 hp
        clear hp
        go_wp2
        go_quiet (fail)
        go_wp2
        go_ret
        exact ⟨rfl, HK.out.drewN _⟩
      · have y : (p == P) = false := beq_eq_false_iff_ne.2 hp
        have HP3 := Lib.hid (HP2.out hp)
        clear hp HP2
        go_wp2
        go_quiet (fail)
        go_wp2
        go_roundw
        case rel => exact ⟨k + 1, by omega, by go_num, HP3.out, HK.out.drewN _, HB.out.kpt ((Kpt.refl wr).drewN _), fun s => (HV.out s).kpt ((Kpt.refl wr).drewN _)⟩
        case measure => simp [intOf]; omega
    · obtain rfl : k = fs.length := by omega
      have hh := HN.out HP.out
      obtain ⟨rfl, rfl, hs⟩ := hh
      have GV := Lib.hid (HV.out hs)
      have RR := Lib.hid (HR.out.kpt HK.out)
      clear HV HR HP HN
      go_wp2_with (go_at_call 22; (with_reducible refine (sameF_any _ _ fs _ GV.out RR.out).mono ?_); rintro e w4 ⟨rfl, k1⟩; have K9 := Lib.hid (ktr HK.out k1); clear k1)
      go_ret
      exact ⟨rfl, K9.out⟩

set_option maxHeartbeats 4000000 in
theorem cno_11 (P C G O : Int) (hC : C = 0) (hG : G = 0) (a : Option Addr) (cap : Nat) (fs : List (List Int)) (w : World) (hr : ReadsF w (.slice a fs.length cap) fs) 
    (hD : ∀ w', Kpt w w' → ClmIs P C G O (.slice a fs.length cap) 0 0 w') (hR : ∀ w', Kpt w w' → GrwIs P C G O (.slice a fs.length cap) fs 0 True w') : Calls Try.prog 7 #[.agg #[.int .i64 P, .int .i64 C, .int .i64 G, .int .i64 O], .slice a fs.length cap] w fun e w' => e = .returned (.bool true) ∧ Kpt w w' := by
  have D := Lib.hid hD
  have R := Lib.hid hR
  have yC : (C == 0) = true := beq_iff_eq.2 hC
  have yG : (G == 0) = true := beq_iff_eq.2 hG
  have HR := Lib.hid hr

  have hlen : fs.length ≤ maxLen := by obtain ⟨_, _, e, hm, -⟩ := hr; exact hm
  unfold maxLen at hlen
  clear hr hD hR hC hG 
  have K0 : Hid (Kpt w (w.alloc (.cells #[.int .i64 P, .int .i64 C, .int .i64 G, .int .i64 O] 23))) := (Kpt.refl w).alloc _
  have B0 : Hid (Blk (w.alloc (.cells #[.int .i64 P, .int .i64 C, .int .i64 G, .int .i64 O] 23)) w.heap.size #[.int .i64 P, .int .i64 C, .int .i64 G, .int .i64 O] 23) := Blk.made w _ _
  go_enter Try.func7, Try.ntmps7
  go_wp2_with (first
    | (go_at_call 17; (with_reducible refine (claimBegun _).mono ?_); rintro e w1 ⟨rfl, k1⟩; have GV := Lib.hid (fun s => (GV.out s).kpt k1); have K0 := Lib.hid (ktr K0.out k1); have B0 := Lib.hid (B0.out.kpt k1); have x0 : World.cell? w1 ⟨w.heap.size, 0, none⟩ = some (.int .i64 P) := B0.out.cell 0; have x1 : World.cell? w1 ⟨w.heap.size, 1, none⟩ = some (.int .i64 C) := B0.out.cell 1; have x2 : World.cell? w1 ⟨w.heap.size, 2, none⟩ = some (.int .i64 G) := B0.out.cell 2; have x3 : World.cell? w1 ⟨w.heap.size, 3, none⟩ = some (.int .i64 O) := B0.out.cell 3; clear k1; have RR := Lib.hid (HR.out.kpt K0.out))
    | (go_at_call 10; (with_reducible refine (D.out _ K0.out).run.mono ?_); rintro e w2 ⟨a1, c1, a2, c2, rfl, k1⟩; have K0 := Lib.hid (ktr K0.out k1); have B0 := Lib.hid (B0.out.kpt k1); have x0 : World.cell? w2 ⟨w.heap.size, 0, none⟩ = some (.int .i64 P) := B0.out.cell 0; have x1 : World.cell? w2 ⟨w.heap.size, 1, none⟩ = some (.int .i64 C) := B0.out.cell 1; have x2 : World.cell? w2 ⟨w.heap.size, 2, none⟩ = some (.int .i64 G) := B0.out.cell 2; have x3 : World.cell? w2 ⟨w.heap.size, 3, none⟩ = some (.int .i64 O) := B0.out.cell 3; clear k1)
    | (go_at_call 11; (with_reducible refine (R.out _ K0.out).run.mono ?_); rintro e w3 ⟨gv, rfl, hs, k1⟩; have GV := Lib.hid hs; have K0 := Lib.hid (ktr K0.out k1); have B0 := Lib.hid (B0.out.kpt k1); have x0 : World.cell? w3 ⟨w.heap.size, 0, none⟩ = some (.int .i64 P) := B0.out.cell 0; have x1 : World.cell? w3 ⟨w.heap.size, 1, none⟩ = some (.int .i64 C) := B0.out.cell 1; have x2 : World.cell? w3 ⟨w.heap.size, 2, none⟩ = some (.int .i64 G) := B0.out.cell 2; have x3 : World.cell? w3 ⟨w.heap.size, 3, none⟩ = some (.int .i64 O) := B0.out.cell 3; clear k1; clear hs)
    | (go_at_call 22; (with_reducible refine (sameF_any _ _ fs _ (GV.out trivial) RR.out).mono ?_); rintro e w4 ⟨rfl, k1⟩; have GV := Lib.hid (fun s => (GV.out s).kpt k1); have RR := Lib.hid (RR.out.kpt k1); have K0 := Lib.hid (ktr K0.out k1); have B0 := Lib.hid (B0.out.kpt k1); have x0 : World.cell? w4 ⟨w.heap.size, 0, none⟩ = some (.int .i64 P) := B0.out.cell 0; have x1 : World.cell? w4 ⟨w.heap.size, 1, none⟩ = some (.int .i64 C) := B0.out.cell 1; have x2 : World.cell? w4 ⟨w.heap.size, 2, none⟩ = some (.int .i64 G) := B0.out.cell 2; have x3 : World.cell? w4 ⟨w.heap.size, 3, none⟩ = some (.int .i64 O) := B0.out.cell 3; clear k1))
  clear D R
  go_loopw [10] (fun i wr => ∃ k : Nat, k ≤ fs.length ∧ i = .int .i64 k ∧ Hid (∀ j, j < k → (fs.getD j []).getD 4 0 ≠ P) ∧ Hid (Kpt w wr) ∧ Hid (Blk wr w.heap.size #[.int .i64 P, .int .i64 C, .int .i64 G, .int .i64 O] 23) ∧ Hid (True → ReadsF wr gv fs)) (fun i _ => fs.length - (intOf i).toNat)
  case atStart => exact ⟨0, Nat.zero_le _, rfl, (fun j hj => absurd hj (Nat.not_lt_zero j)), K0.out, B0.out, GV.out⟩
  case round =>
    obtain ⟨k, hk, rfl, HP, HK, HB, HV⟩ := hrel
    clear K0 B0 GV RR x0 x1 x2 x3
    by_cases hlt : k < fs.length
    · obtain ⟨a', cap', e, -, -, hc⟩ := HR.out
      injection e with e1 e2 e3
      subst e1 e3
      obtain ⟨g, off, rfl, hfl⟩ := hc k hlt
      have c4 : wr.cell? ⟨g, off + k * 10 + 4, none⟩ = _ := hfl.kpt HK.out 4 (by omega)
      have x0 : wr.cell? ⟨w.heap.size, 0, none⟩ = some (.int .i64 P) := HB.out.cell 0
      clear hc hfl e2
      have b0 : (0 : Int) ≤ (k : Int) := by omega
      have b1 : (k : Int) < (fs.length : Int) := by omega
      have HP2 := Lib.hid (fun (q : (fs.getD k []).getD 4 0 ≠ P) j (hj : j < k + 1) => (show (fs.getD j []).getD 4 0 ≠ P by
        rcases Nat.lt_or_ge j k with h | h
        · exact HP.out j h
        · obtain rfl : j = k := by omega
          exact q))
      generalize (fs.getD k []).getD 4 0 = p at *
      by_cases hp : p = P
      · have y : (p == P) = true := beq_iff_eq.2 hp
        clear hp
        go_wp2
        go_quiet (fail)
        go_wp2
        go_ret
        exact ⟨rfl, HK.out.drewN _⟩
      · have y : (p == P) = false := beq_eq_false_iff_ne.2 hp
        have HP3 := Lib.hid (HP2.out hp)
        clear hp HP2
        go_wp2
        go_quiet (fail)
        go_wp2
        go_roundw
        case rel => exact ⟨k + 1, by omega, by go_num, HP3.out, HK.out.drewN _, HB.out.kpt ((Kpt.refl wr).drewN _), fun s => (HV.out s).kpt ((Kpt.refl wr).drewN _)⟩
        case measure => simp [intOf]; omega
    · obtain rfl : k = fs.length := by omega

      have GV := Lib.hid (HV.out trivial)
      have RR := Lib.hid (HR.out.kpt HK.out)
      clear HV HR HP 
      go_wp2_with (go_at_call 22; (with_reducible refine (sameF_any _ _ fs _ GV.out RR.out).mono ?_); rintro e w4 ⟨rfl, k1⟩; have K9 := Lib.hid (ktr HK.out k1); clear k1)
      go_ret
      exact ⟨rfl, K9.out⟩

theorem clmIs_of {P C G O : Int} {a : Option Addr} {cap : Nat} {fs : List (List Int)} {w : World} (hr : ReadsF w (.slice a fs.length cap) fs) (h : cwE P C G O fs = 0) : ClmIs P C G O (.slice a fs.length cap) (duesOf C fs (hit P fs fs.length)).length (pstsOf P G O fs (hit P fs fs.length)).length w := by
  refine (claims_ok P C G O a cap fs w hr h).mono ?_
  rintro e w' ⟨dv, pv, rfl, hd, hp, hk⟩
  obtain ⟨a1, c1, rfl⟩ := hd.form
  obtain ⟨a2, c2, rfl⟩ := hp.form
  exact ⟨a1, c1, a2, c2, rfl, hk⟩
theorem gok_pre {G O : Int} {fs : List (List Int)} {xs : List (Fin fs.length)} (h : GOk G O fs xs) : ¬ ∃ pre x, pre ++ [x] <+: xs ∧ 1073741824 < unL (gro G O fs (pre ++ [x])) x.1 := fun ⟨pre, x, h1, h2⟩ => by have := h pre x h1; omega
theorem grwIs_ok {P C G O : Int} {a : Option Addr} {cap : Nat} {fs : List (List Int)} {S : Prop} {w : World} (hr : ReadsF w (.slice a fs.length cap) fs) (hn : a = none → cap = 0) (h : cwE P C G O fs = 0) (hg : GOk G O fs (hit P fs fs.length))
    (hs : S → ∀ k j, k < fs.length → j < 10 → ((gro G O fs (hit P fs fs.length)).getD k []).getD j 0 = (fs.getD k []).getD j 0) : GrwIs P C G O (.slice a fs.length cap) fs 0 S w := by
  have hb : ∀ l ∈ fs, FlB l := by obtain ⟨_, _, _, _, hb, _⟩ := hr; exact hb
  refine (grow_ok P C G O a cap fs w hr hn h).mono ?_
  rintro e w' ⟨hk, ⟨gv, rfl, ho, -⟩ | ⟨rfl, hx⟩⟩
  · exact ⟨gv, rfl, fun s => ho.readsG (gro_len _ _ _ _) hb (hs s), hk⟩
  · exact absurd hx (gok_pre hg)
theorem grwIs_wide {P C G O : Int} {a : Option Addr} {cap : Nat} {fs : List (List Int)} {S : Prop} {w : World} (hr : ReadsF w (.slice a fs.length cap) fs) (hn : a = none → cap = 0) (h : cwE P C G O fs = 0) (hg : ¬ GOk G O fs (hit P fs fs.length)) (hs : ¬ S) : GrwIs P C G O (.slice a fs.length cap) fs 8 S w := by
  refine (grow_ok P C G O a cap fs w hr hn h).mono ?_
  rintro e w' ⟨hk, ⟨gv, rfl, ho, hg'⟩ | ⟨rfl, hx⟩⟩
  · exact absurd hg' hg
  · exact ⟨_, rfl, fun s => absurd s hs, hk⟩
theorem gok_nil {G O : Int} {fs : List (List Int)} : GOk G O fs [] := fun pre x h => (pre_nil h).elim
theorem gok_still {O : Int} {fs : List (List Int)} (hb : ∀ l ∈ fs, failEL l = 0) (xs : List (Fin fs.length)) (hn : xs.Nodup) : GOk 0 O fs xs := fun pre x h => by
  have hd : (pre ++ [x]).Nodup := List.Nodup.sublist h.sublist hn
  have e := gro_still (O := O) rfl hb (pre ++ [x]) hd x.1 6 x.2 (by decide)
  have := unit_bd (hb _ (getF_mem x.2))
  show ((gro 0 O fs (pre ++ [x])).getD x.1 []).getD 6 0 ≤ 1073741824
  rw [e]; exact this.2
theorem cnone_plain (P C G O : Int) (a : Option Addr) (cap : Nat) (fs : List (List Int)) (w : World) (hr : ReadsF w (.slice a fs.length cap) fs) (hn : a = none → cap = 0) : Calls Try.prog 7 #[.agg #[.int .i64 P, .int .i64 C, .int .i64 G, .int .i64 O], .slice a fs.length cap] w fun e w' => e = .returned (.bool true) ∧ Kpt w w' := by
  by_cases h : cwE P C G O fs = 0
  · obtain ⟨h1, h2⟩ := cwE_0 h
    obtain ⟨-, hb⟩ := checks_all h2
    have D := fun w' (k : Kpt w w') => clmIs_of (P := P) (C := C) (G := G) (O := O) (hr.kpt k) h
    have nd : C = 0 → (duesOf C fs (hit P fs fs.length)).length = 0 := fun e => by rw [e, dues_none]; rfl
    have np : G = 0 → (pstsOf P G O fs (hit P fs fs.length)).length = 0 := fun e => by rw [e, psts_none]; rfl
    have hit0 : (∀ j, j < fs.length → (fs.getD j []).getD 4 0 ≠ P) → hit P fs fs.length = [] := hit_none
    by_cases hG : G = 0
    · subst hG
      have R := fun w' (k : Kpt w w') => grwIs_ok (P := P) (C := C) (G := 0) (O := O) (S := True) (hr.kpt k) hn h (gok_still hb _ (hit_nodup _ _ _)) (fun _ k j hk hj => gro_still rfl hb _ (hit_nodup _ _ _) k j hk hj)
      rw [np rfl] at D
      by_cases hC : C = 0
      · rw [nd hC] at D
        exact cno_11 P C 0 O hC rfl a cap fs w hr D R
      · exact cno_01 P C 0 O _ hC rfl a cap fs w hr (fun q => by rw [hit0 q]; rfl) D R
    · by_cases hg : GOk G O fs (hit P fs fs.length)
      · have R := fun w' (k : Kpt w w') => grwIs_ok (P := P) (C := C) (G := G) (O := O) (S := hit P fs fs.length = []) (hr.kpt k) hn h hg (fun e k j hk hj => by rw [e]; rfl)
        by_cases hC : C = 0
        · rw [nd hC] at D
          exact cno_10 P C G O _ _ _ hC hG a cap fs w hr (fun q => by rw [hit0 q]; exact ⟨rfl, rfl, rfl⟩) D R
        · exact cno_00 P C G O _ _ _ _ hC hG a cap fs w hr (fun q => by rw [hit0 q]; exact ⟨rfl, rfl, rfl, rfl⟩) D R
      · have hne : ¬ hit P fs fs.length = [] := fun e => hg (by rw [e]; exact gok_nil)
        have R := fun w' (k : Kpt w w') => grwIs_wide (P := P) (C := C) (G := G) (O := O) (S := hit P fs fs.length = []) (hr.kpt k) hn h hg hne
        by_cases hC : C = 0
        · rw [nd hC] at D
          exact cno_10 P C G O _ _ _ hC hG a cap fs w hr (fun q => absurd (hit0 q) hne) D R
        · exact cno_00 P C G O _ _ _ _ hC hG a cap fs w hr (fun q => absurd (hit0 q) hne) D R
  · exact cno_bad P C G O _ fs w hr h
theorem cnone_v (P C G O : Int) (v : Value) (fs : List (List Int)) (w : World) (hr : ReadsF w v fs) (hc : ∃ a n cap, v = .slice a n cap ∧ (a = none → cap = 0)) : Calls Try.prog 7 #[.agg #[.int .i64 P, .int .i64 C, .int .i64 G, .int .i64 O], v] w fun e w' => e = .returned (.bool true) ∧ Kpt w w' := by
  obtain ⟨a, n, cap, rfl, hn⟩ := hc
  have e : n = fs.length := by obtain ⟨_, _, e, -⟩ := hr; injection e
  subst e
  exact cnone_plain P C G O a cap fs w hr hn

end Go.Proofs.Ytklaojahocjeiaa
