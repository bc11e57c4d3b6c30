/-
  What Cash, Fresh, checkWith and holdings of package claim do.
-/
import Derived.Test.YtklaojahocjeiaaClmB
namespace Go.Proofs.Ytklaojahocjeiaa
open Go.RowKit
set_option linter.unusedVariables false

theorem hoE_0 {P C G O U : Int} (h : hoE P C G O U = 0) : evE P C G O = 0 ∧ 0 ≤ U ∧ U ≤ 1073741824 := by
  unfold hoE at h
  split at h
  · next a =>
    split at h
    · exact ⟨a, by assumption⟩
    · cases h
  · next a => exact absurd h a
theorem cash_any (P C G O U : Int) (w : World) : Calls Try.prog 8 #[.agg #[.int .i64 P, .int .i64 C, .int .i64 G, .int .i64 O], .int .i64 U] w fun e w' => e = .returned (.tuple #[.int .i64 (if hoE P C G O U = 0 then hoC C U else 0), .int .i64 (hoE P C G O U)]) ∧ Kpt w w' := by
  have HK := Lib.hid (fun w => hcheck_run P C G O U w)
  have KA : Hid (Kpt w ((w.alloc (.cells #[.int .i64 P, .int .i64 C, .int .i64 G, .int .i64 O] 23)).alloc (.cells #[.int .i64 P, .int .i64 C, .int .i64 G, .int .i64 O, .int .i64 U] 58))) := ((Kpt.refl w).alloc _).alloc _
  have BA : Hid (Blk ((w.alloc (.cells #[.int .i64 P, .int .i64 C, .int .i64 G, .int .i64 O] 23)).alloc (.cells #[.int .i64 P, .int .i64 C, .int .i64 G, .int .i64 O, .int .i64 U] 58)) (w.heap.size + 1) #[.int .i64 P, .int .i64 C, .int .i64 G, .int .i64 O, .int .i64 U] 58) := by
    have := Blk.made (w.alloc (.cells #[.int .i64 P, .int .i64 C, .int .i64 G, .int .i64 O] 23)) #[.int .i64 P, .int .i64 C, .int .i64 G, .int .i64 O, .int .i64 U] 58
    rwa [World.size_alloc] at this
  by_cases h : hoE P C G O U = 0
  · rw [if_pos h, h]
    rw [h] at HK
    obtain ⟨h1, h2⟩ := hoE_0 h
    obtain ⟨-, h3, -⟩ := evE_0 h1
    have CA := Lib.hid (fun w => hcash_run P C G O U h3 h2 w)
    clear h h1 h2 h3
    generalize hoC C U = r at *
    go_enter Try.func8, Try.ntmps8
    go_wp2_with (first
      | (go_at_call 28; (with_reducible refine (HK.out _).mono ?_); rintro e w1 ⟨rfl, k1⟩; have K1 := Lib.hid (ktr KA.out k1); have B1 := Lib.hid (BA.out.kpt k1); have c0 : w1.cell? ⟨w.heap.size + 1, 0, none⟩ = some (.int .i64 P) := B1.out.cell 0; have c1 : w1.cell? ⟨w.heap.size + 1, 1, none⟩ = some (.int .i64 C) := B1.out.cell 1; have c2 : w1.cell? ⟨w.heap.size + 1, 2, none⟩ = some (.int .i64 G) := B1.out.cell 2; have c3 : w1.cell? ⟨w.heap.size + 1, 3, none⟩ = some (.int .i64 O) := B1.out.cell 3; have c4 : w1.cell? ⟨w.heap.size + 1, 4, none⟩ = some (.int .i64 U) := B1.out.cell 4; clear k1)
      | (go_at_call 29; (with_reducible refine (CA.out _).mono ?_); rintro e w2 ⟨rfl, k1⟩; have K2 := Lib.hid (ktr K1.out k1); clear k1))
    go_ret2
    exact ⟨rfl, K2.out⟩
  · rw [if_neg h]
    have z : (hoE P C G O U != 0) = true := bne_iff_ne.2 h
    clear h
    generalize hoE P C G O U = E at *
    go_enter Try.func8, Try.ntmps8
    go_wp2_with (go_at_call 28; (with_reducible refine (HK.out _).mono ?_); rintro e w1 ⟨rfl, k1⟩; have K1 := Lib.hid (ktr KA.out k1); clear k1)
    go_ret2
    exact ⟨rfl, K1.out⟩
theorem fresh_any (P C G O U : Int) (w : World) : Calls Try.prog 9 #[.agg #[.int .i64 P, .int .i64 C, .int .i64 G, .int .i64 O], .int .i64 U] w fun e w' => e = .returned (.tuple #[.int .i64 (if hoE P C G O U = 0 then hoN G O U else 0), .int .i64 (if hoE P C G O U = 0 then hoR G O U else 0), .int .i64 (hoE P C G O U)]) ∧ Kpt w w' := by
  have HK := Lib.hid (fun w => hcheck_run P C G O U w)
  have KA : Hid (Kpt w ((w.alloc (.cells #[.int .i64 P, .int .i64 C, .int .i64 G, .int .i64 O] 23)).alloc (.cells #[.int .i64 P, .int .i64 C, .int .i64 G, .int .i64 O, .int .i64 U] 58))) := ((Kpt.refl w).alloc _).alloc _
  have BA : Hid (Blk ((w.alloc (.cells #[.int .i64 P, .int .i64 C, .int .i64 G, .int .i64 O] 23)).alloc (.cells #[.int .i64 P, .int .i64 C, .int .i64 G, .int .i64 O, .int .i64 U] 58)) (w.heap.size + 1) #[.int .i64 P, .int .i64 C, .int .i64 G, .int .i64 O, .int .i64 U] 58) := by
    have := Blk.made (w.alloc (.cells #[.int .i64 P, .int .i64 C, .int .i64 G, .int .i64 O] 23)) #[.int .i64 P, .int .i64 C, .int .i64 G, .int .i64 O, .int .i64 U] 58
    rwa [World.size_alloc] at this
  by_cases h : hoE P C G O U = 0
  · rw [if_pos h, if_pos h, h]
    rw [h] at HK
    obtain ⟨h1, h2⟩ := hoE_0 h
    obtain ⟨-, -, h3, h4, -⟩ := evE_0 h1
    have FA := Lib.hid (fun w => hfresh_run P C G O U h3 h4 h2 w)
    clear h h1 h2 h3 h4
    generalize hoN G O U = r at *
    generalize hoR G O U = s at *
    go_enter Try.func9, Try.ntmps9
    go_wp2_with (first
      | (go_at_call 28; (with_reducible refine (HK.out _).mono ?_); rintro e w1 ⟨rfl, k1⟩; have K1 := Lib.hid (ktr KA.out k1); have B1 := Lib.hid (BA.out.kpt k1); have c0 : w1.cell? ⟨w.heap.size + 1, 0, none⟩ = some (.int .i64 P) := B1.out.cell 0; have c1 : w1.cell? ⟨w.heap.size + 1, 1, none⟩ = some (.int .i64 C) := B1.out.cell 1; have c2 : w1.cell? ⟨w.heap.size + 1, 2, none⟩ = some (.int .i64 G) := B1.out.cell 2; have c3 : w1.cell? ⟨w.heap.size + 1, 3, none⟩ = some (.int .i64 O) := B1.out.cell 3; have c4 : w1.cell? ⟨w.heap.size + 1, 4, none⟩ = some (.int .i64 U) := B1.out.cell 4; clear k1)
      | (go_at_call 30; (with_reducible refine (FA.out _).mono ?_); rintro e w2 ⟨rfl, k1⟩; have K2 := Lib.hid (ktr K1.out k1); clear k1))
    go_ret3
    exact ⟨rfl, K2.out⟩
  · rw [if_neg h, if_neg h]
    have z : (hoE P C G O U != 0) = true := bne_iff_ne.2 h
    clear h
    generalize hoE P C G O U = E at *
    go_enter Try.func9, Try.ntmps9
    go_wp2_with (go_at_call 28; (with_reducible refine (HK.out _).mono ?_); rintro e w1 ⟨rfl, k1⟩; have K1 := Lib.hid (ktr KA.out k1); clear k1)
    go_ret3
    exact ⟨rfl, K1.out⟩
/-- the error of an event and fails -/
def cwE (P C G O : Int) (fs : List (List Int)) : Int := if evE P C G O = 0 then checksE fs else evE P C G O
theorem checkWith_any (P C G O : Int) (v : Value) (fs : List (List Int)) (w : World) (hl : ReadsF w v fs) : Calls Try.prog 31 #[.agg #[.int .i64 P, .int .i64 C, .int .i64 G, .int .i64 O], v] w fun e w' => e = .returned (.int .i64 (cwE P C G O fs)) ∧ Kpt w w' := by
  have EV := Lib.hid (fun w => ev_run P C G O w)
  have CK := Lib.hid (fun w' (k : Kpt w w') => checks_run v fs w' (hl.kpt k))
  have KA : Hid (Kpt w (w.alloc (.cells #[.int .i64 P, .int .i64 C, .int .i64 G, .int .i64 O] 23))) := (Kpt.refl w).alloc _
  unfold cwE
  by_cases h : evE P C G O = 0
  · rw [if_pos h]
    rw [h] at EV
    clear h hl
    generalize checksE fs = E at *
    go_enter Try.func31, Try.ntmps31
    go_wp2_with (first
      | (go_at_call 18; (with_reducible refine (EV.out _).mono ?_); rintro e w1 ⟨rfl, k1⟩; have K1 := Lib.hid (ktr KA.out k1); clear k1)
      | (go_at_call 27; (with_reducible refine (CK.out _ K1.out).mono ?_); rintro e w2 ⟨rfl, k1⟩; have K2 := Lib.hid (ktr K1.out k1); clear k1))
    go_ret
    exact ⟨rfl, K2.out⟩
  · rw [if_neg h]
    have z : (evE P C G O != 0) = true := bne_iff_ne.2 h
    clear h hl
    generalize evE P C G O = E at *
    go_enter Try.func31, Try.ntmps31
    go_wp2_with (go_at_call 18; (with_reducible refine (EV.out _).mono ?_); rintro e w1 ⟨rfl, k1⟩; have K1 := Lib.hid (ktr KA.out k1); clear k1)
    go_ret
    exact ⟨rfl, K1.out⟩
theorem holdings_run (P C G O : Int) (a : Option Addr) (n cap : Nat) (w : World) : Calls Try.prog 32 #[.agg #[.int .i64 P, .int .i64 C, .int .i64 G, .int .i64 O], .slice a n cap] w fun e w' => e = .returned (.func (.func 55) #[] #[.pointer (some ⟨w.heap.size + 1, 0, none⟩), .pointer (some ⟨w.heap.size, 0, none⟩)]) ∧ w' = (w.alloc (.cells #[.int .i64 P, .int .i64 C, .int .i64 G, .int .i64 O] 23)).alloc (.cells #[.slice a n cap] 24) := by
  go_enter Try.func32, Try.ntmps32
  go_wp2
  go_ret
  exact ⟨rfl, rfl⟩

end Go.Proofs.Ytklaojahocjeiaa
