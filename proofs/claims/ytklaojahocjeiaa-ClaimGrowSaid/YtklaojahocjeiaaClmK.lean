/-
  What must be of claims in any case: claimBegun answers true.
-/
import Derived.Test.YtklaojahocjeiaaClmF
import Derived.Test.YtklaojahocjeiaaClmJ
import Derived.Test.YtklaojahocjeiaaFailF
import Derived.Test.YtklaojahocjeiaaSameD
import Derived.Test.YtklaojahocjeiaaSameP
namespace Go.Proofs.Ytklaojahocjeiaa
open Go.RowKit
set_option linter.unusedVariables false

def ck1 : List Int := [7, 1, 2, 0, 3, 739935, 100, 0, 0, 0]
def ckA : Array Value := #[.int .i64 7, .int .i64 1, .int .i64 2, .int .i64 0, .int .i64 3, .int .i64 739935, .int .i64 100, .int .i64 0, .int .i64 0, .int .i64 0]
theorem rf_ck (w : World) : ReadsF (w.alloc (.cells #[.int .i64 7, .int .i64 1, .int .i64 2, .int .i64 0, .int .i64 3, .int .i64 739935, .int .i64 100, .int .i64 0, .int .i64 0, .int .i64 0] 49)) (.slice (some ⟨w.heap.size, 0, none⟩) 1 1) [ck1] := by
  have B := Blk.made w #[.int .i64 7, .int .i64 1, .int .i64 2, .int .i64 0, .int .i64 3, .int .i64 739935, .int .i64 100, .int .i64 0, .int .i64 0, .int .i64 0] 49
  refine ⟨_, 1, rfl, by unfold maxLen; decide, by intro l hl; rw [List.mem_singleton.1 hl]; unfold FlB ck1; decide, fun k hk => ⟨w.heap.size, 0, rfl, fun j hj => ?_⟩⟩
  obtain rfl : k = 0 := by simp at hk; exact hk
  rw [Nat.zero_mul, Nat.zero_add, B.cell]
  rcases (show j = 0 ∨ j = 1 ∨ j = 2 ∨ j = 3 ∨ j = 4 ∨ j = 5 ∨ j = 6 ∨ j = 7 ∨ j = 8 ∨ j = 9 by omega) with rfl | rfl | rfl | rfl | rfl | rfl | rfl | rfl | rfl | rfl <;> rfl
theorem ck_cw : cwE 3 2500 2 3 [ck1] = 0 := by decide +kernel
theorem ck_hit : hit 3 [ck1] [ck1].length = [(⟨0, by decide⟩ : Fin [ck1].length)] := by decide +kernel
theorem ck_d : duesOf 2500 [ck1] [(⟨0, by decide⟩ : Fin [ck1].length)] = [(1, 2, 25)] := by decide +kernel
theorem ck_p : pstsOf 3 2 3 [ck1] [(⟨0, by decide⟩ : Fin [ck1].length)] = [(1, 3, -66), (2, 3, 66)] := by decide +kernel
theorem ck_g : gro 2 3 [ck1] [(⟨0, by decide⟩ : Fin [ck1].length)] = [[7, 1, 2, 0, 3, 739935, 166, 0, 0, 0]] := by decide +kernel
theorem ck_u : unL (gro 2 3 [ck1] [(⟨0, by decide⟩ : Fin [ck1].length)]) 0 = 166 := by decide +kernel
theorem Try.sizeEvt : (Try.prog.info? 23).map (·.size) = some 4 := by kernel_rfl
theorem split_run (w : World) : Calls Try.prog 38 #[] w fun e w' => e = .returned (.agg #[.int .i64 3, .int .i64 2500, .int .i64 2, .int .i64 3]) ∧ Kpt w w' := by
  have R9 := Lib.hid (Blk.made w #[.int .i64 3, .int .i64 2500, .int .i64 2, .int .i64 3] 23)
  go_enter Try.func38, Try.ntmps38
  go_wp2
  exact bodyPost_ret (v := .agg #[.int .i64 3, .int .i64 2500, .int .i64 2, .int .i64 3]) (results_cell_row Try.results38 _ _ w.heap.size _ _ _ _ rfl R9.out Try.underlying23 rfl Try.sizeEvt) rfl ⟨rfl, (Kpt.refl w).alloc _⟩
theorem inp_1 : InP [((1 : Int), (2 : Int), (25 : Int))] := by
  intro p hp; rw [List.mem_singleton.1 hp]; decide
theorem inp_2 : InP [((1 : Int), (3 : Int), (-66 : Int)), (2, 3, 66)] := by
  intro p hp
  rcases List.mem_cons.1 hp with rfl | hp
  · decide
  · rw [List.mem_singleton.1 hp]; decide
theorem ckr_1 {w : World} {g : Nat} {T : TypeId} (h : Blk w g #[.int .i64 1, .int .i64 2, .int .i64 25] T) : ReadsP w (.slice (some ⟨g, 0, none⟩) 1 1) [(1, 2, 25)] := by
  refine ⟨_, 1, rfl, (fun e => by cases e), (by decide), inp_1, fun j hj => ⟨g, 0, rfl, ?_⟩⟩
  obtain rfl : j = 0 := by simpa using hj
  exact ⟨h.cell _, h.cell _, h.cell _⟩
theorem ckr_2 {w : World} {g : Nat} {T : TypeId} (h : Blk w g #[.int .i64 1, .int .i64 3, .int .i64 (-66), .int .i64 2, .int .i64 3, .int .i64 66] T) : ReadsP w (.slice (some ⟨g, 0, none⟩) 2 2) [(1, 3, -66), (2, 3, 66)] := by
  refine ⟨_, 2, rfl, (fun e => by cases e), (by decide), inp_2, fun j hj => ⟨g, 0, rfl, ?_⟩⟩
  rcases (show j = 0 ∨ j = 1 by have : j < 2 := hj; omega) with rfl | rfl
  · exact ⟨h.cell _, h.cell _, h.cell _⟩
  · exact ⟨h.cell _, h.cell _, h.cell _⟩
theorem ck_claims (g : Nat) (w : World) (hr : ReadsF w (.slice (some ⟨g, 0, none⟩) 1 1) [ck1]) : Calls Try.prog 10 #[.agg #[.int .i64 3, .int .i64 2500, .int .i64 2, .int .i64 3], .slice (some ⟨g, 0, none⟩) 1 1] w fun e w' => ∃ dv pv, e = .returned (.tuple #[dv, pv, .int .i64 0]) ∧ ReadsP w' dv [(1, 2, 25)] ∧ ReadsP w' pv [(1, 3, -66), (2, 3, 66)] ∧ Kpt w w' := by
  refine (claims_ok 3 2500 2 3 (some ⟨g, 0, none⟩) 1 [ck1] w hr ck_cw).mono ?_
  rintro e w' ⟨dv, pv, rfl, hd, hp, hk⟩
  rw [ck_hit, ck_d] at hd
  rw [ck_hit, ck_p] at hp
  exact ⟨dv, pv, rfl, hd.reads inp_1, hp.reads inp_2, hk⟩
theorem ck_grow (g : Nat) (w : World) (hr : ReadsF w (.slice (some ⟨g, 0, none⟩) 1 1) [ck1]) : Calls Try.prog 11 #[.agg #[.int .i64 3, .int .i64 2500, .int .i64 2, .int .i64 3], .slice (some ⟨g, 0, none⟩) 1 1] w fun e w' => ∃ b cap, e = .returned (.tuple #[.slice (some ⟨b, 0, none⟩) 1 cap, .int .i64 0]) ∧ w'.cell? ⟨b, 6, none⟩ = some (.int .i64 166) ∧ Kpt w w' := by
  refine (grow_ok 3 2500 2 3 (some ⟨g, 0, none⟩) 1 [ck1] w hr (fun e => by cases e) ck_cw).mono ?_
  rintro e w' ⟨hk, ⟨gv, rfl, ho, -⟩ | ⟨rfl, pre, x, hp, hx⟩⟩
  · rw [ck_hit, ck_g] at ho
    obtain ⟨a, cap, rfl, -, hc⟩ := ho.cells
    obtain ⟨b, rfl, hc'⟩ := hc 0 (by decide)
    exact ⟨b, cap, rfl, hc' 6 (by decide), hk⟩
  · exfalso
    rw [ck_hit] at hp
    have hl := hp.length_le
    simp only [List.length_append, List.length_cons, List.length_nil] at hl
    obtain rfl : pre = [] := List.eq_nil_of_length_eq_zero (by omega)
    rw [List.nil_append] at hp hx
    have hx0 := (List.cons_prefix_cons.1 hp).1
    subst hx0
    rw [show unL (gro 2 3 [ck1] [(⟨0, by decide⟩ : Fin [ck1].length)]) (⟨0, by decide⟩ : Fin [ck1].length).1 = 166 from ck_u] at hx
    omega
theorem ck_c1 : hoE 3 2500 2 3 100 = 0 ∧ hoC 2500 100 = 25 ∧ hoN 2 3 100 = 66 ∧ hoR 2 3 100 = 2 ∧ hoE 3 2500 2 3 (-1) = 3 ∧ evE 1 0 0 0 = 1 := by decide +kernel

set_option maxRecDepth 100000 in
set_option maxHeartbeats 8000000 in
theorem claimBegun (w : World) : Calls Try.prog 17 #[] w fun e w' => e = .returned (.bool true) ∧ Kpt w w' := by
  obtain ⟨c1, c2, c3, c4, c5, c6⟩ := ck_c1
  have A1 := Lib.hid (fun w' => cash_any 3 2500 2 3 100 w')
  rw [c1, if_pos rfl, c2] at A1
  have A2 := Lib.hid (fun w' => cash_any 3 2500 2 3 (-1) w')
  rw [c5, if_neg (by decide)] at A2
  have F1 := Lib.hid (fun w' => fresh_any 3 2500 2 3 100 w')
  rw [c1, if_pos rfl, if_pos rfl, c3, c4] at F1
  have V1 := Lib.hid (fun w' => ev_run 1 0 0 0 w')
  rw [c6] at V1
  clear c1 c2 c3 c4 c5 c6
  have K0 : Hid (Kpt w w) := Kpt.refl w
  go_enter Try.func17, Try.ntmps17
  go_wp2_with (first
    | (go_at_call 38; (with_reducible refine (split_run _).mono ?_); rintro e w1 ⟨rfl, k1⟩; have K0 := Lib.hid (ktr K0.out k1); (try have DR := Lib.hid (DR.out.kpt k1)); (try have PR := Lib.hid (PR.out.kpt k1)); (try have h6 := Kpt.cell k1 h6); clear k1)
    | (go_at_call 8; (with_reducible refine (A1.out _).mono ?_); rintro e w2 ⟨rfl, k1⟩; have K0 := Lib.hid (ktr K0.out k1); clear k1 A1)
    | (go_at_call 8; (with_reducible refine (A2.out _).mono ?_); rintro e w2 ⟨rfl, k1⟩; have K0 := Lib.hid (ktr K0.out k1); have DR := Lib.hid (DR.out.kpt k1); have PR := Lib.hid (PR.out.kpt k1); have h6 := Kpt.cell k1 h6; clear k1 A2)
    | (go_at_call 9; (with_reducible refine (F1.out _).mono ?_); rintro e w3 ⟨rfl, k1⟩; have K0 := Lib.hid (ktr K0.out k1); clear k1 F1)
    | (go_at_call 39; (with_reducible refine (some_run _).mono ?_); rintro e w4 ⟨rfl, k1⟩; have K0 := Lib.hid ((ktr K0.out k1).alloc (.cells #[.int .i64 7, .int .i64 1, .int .i64 2, .int .i64 0, .int .i64 3, .int .i64 739935, .int .i64 100, .int .i64 0, .int .i64 0, .int .i64 0] 49)); have FR := Lib.hid (rf_ck w4); (try have DR := Lib.hid ((DR.out.kpt k1).kpt ((Kpt.refl _).alloc (.cells #[.int .i64 7, .int .i64 1, .int .i64 2, .int .i64 0, .int .i64 3, .int .i64 739935, .int .i64 100, .int .i64 0, .int .i64 0, .int .i64 0] 49)))); (try have PR := Lib.hid ((PR.out.kpt k1).kpt ((Kpt.refl _).alloc (.cells #[.int .i64 7, .int .i64 1, .int .i64 2, .int .i64 0, .int .i64 3, .int .i64 739935, .int .i64 100, .int .i64 0, .int .i64 0, .int .i64 0] 49)))); clear k1)
    | (go_at_call 10; (with_reducible refine (ck_claims _ _ FR.out).mono ?_); rintro e w5 ⟨dv, pv, rfl, hd, hp, k1⟩; have K0 := Lib.hid (ktr K0.out k1); have DR := Lib.hid hd; have PR := Lib.hid hp; clear k1 hd hp FR)
    | (go_at_call 11; (with_reducible refine (ck_grow _ _ FR.out).mono ?_); rintro e w6 ⟨b, cp, rfl, h6, k1⟩; have K0 := Lib.hid (ktr K0.out k1); have DR := Lib.hid (DR.out.kpt k1); have PR := Lib.hid (PR.out.kpt k1); clear k1 FR)
    | (go_at_call 20; (with_reducible refine (sameD_any _ _ _ _ (DR.out.kpt ((Kpt.refl _).alloc _)) (ckr_1 (Blk.made _ _ _))).mono ?_); rintro e w7 ⟨rfl, k1⟩; have K0 := Lib.hid (ktr (K0.out.alloc _) k1); have PR := Lib.hid ((PR.out.kpt ((Kpt.refl _).alloc _)).kpt k1); have h6 := Kpt.cell k1 (((Kpt.refl _).alloc _).cell h6); clear k1 DR)
    | (go_at_call 21; (with_reducible refine (sameP_any _ _ _ _ (PR.out.kpt ((Kpt.refl _).alloc _)) (ckr_2 (Blk.made _ _ _))).mono ?_); rintro e w8 ⟨rfl, k1⟩; have K0 := Lib.hid (ktr (K0.out.alloc _) k1); have h6 := Kpt.cell k1 (((Kpt.refl _).alloc _).cell h6); clear k1 PR)
    | (go_at_call 18; (with_reducible refine (V1.out _).mono ?_); rintro e w9 ⟨rfl, k1⟩; have K0 := Lib.hid (ktr K0.out k1); clear k1))
  go_ret
  exact ⟨rfl, K0.out⟩

end Go.Proofs.Ytklaojahocjeiaa
