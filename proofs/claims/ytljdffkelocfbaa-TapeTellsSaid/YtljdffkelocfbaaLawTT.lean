/-
  TapeTorn: the law answers true.
-/
import Derived.Test.YtljdffkelocfbaaLawTB
namespace Go.Proofs.Ytljdffkelocfbaa
open Go.RowKit
set_option linter.unusedVariables false

/-- what Torn answers where nothing is in the way -/
theorem tornC (v : Value) (t : List Nat) (K : Nat) (w : World) (hv : ReadsU w v t) (h4 : t.length ≤ 4000) (hK : K ≤ t.length) : Calls Try.prog 12 #[v, .int .i64 (K : Int)] w fun e w' => ∃ a c, e = .returned (.tuple #[.slice a K c, .int .i64 0]) ∧ ReadsU w' (.slice a K c) (t.take K) ∧ Kpt w w' := by
  have e0 : torE t.length (K : Int) = 0 := by unfold torE; rw [if_pos h4, if_pos ⟨by omega, by omega⟩]
  refine (torn_run v t K w hv).mono ?_
  rintro e w' ⟨v', rfl, ho, hk⟩
  rw [if_pos e0, Int.toNat_natCast] at ho
  have hr := ho.reads (fun x hx => hv.isB x (List.mem_of_mem_take hx)) (by rw [List.length_take]; omega)
  obtain ⟨a, c, rfl, -⟩ := hr.form
  have hl : (t.take K).length = K := by rw [List.length_take]; omega
  rw [hl] at hr
  exact ⟨a, c, by rw [e0, hl], hr, hk⟩
theorem tornB (v : Value) (t : List Nat) (k : Int) (w : World) (hv : ReadsU w v t) (he : torE t.length k ≠ 0) : Calls Try.prog 12 #[v, .int .i64 k] w fun e w' => ∃ a c, e = .returned (.tuple #[.slice a 0 c, .int .i64 (torE t.length k)]) ∧ Kpt w w' := by
  refine (torn_run v t k w hv).mono ?_
  rintro e w' ⟨v', rfl, ho, hk⟩
  rw [if_neg he] at ho
  obtain ⟨a, c, rfl, -⟩ := (ho.reads (fun x hx => by cases hx) (by simp)).form
  exact ⟨a, c, rfl, hk⟩
theorem getA (v : Value) (t : List Nat) (w : World) (hr : ReadsU w v t) : Calls Try.prog 11 #[v] w fun e w' => ∃ (a : Option Addr) (n c : Nat) (p q : Int), e = .returned (.tuple #[.slice a n c, .int .i64 p, .int .i64 q]) ∧ Kpt w w' := by
  by_cases h4 : t.length ≤ 4000
  · refine (getC v t w hr h4).mono ?_
    rintro e w' ⟨a, c, rfl, -, k⟩
    exact ⟨_, _, _, _, _, rfl, k⟩
  · obtain ⟨a, c, rfl, -⟩ := hr.form
    refine (get_bad a t.length c w (by omega)).mono ?_
    rintro e w' ⟨rfl, k⟩
    exact ⟨_, _, _, _, _, rfl, k⟩

theorem ttorn_bad (a : Option Addr) (c : Nat) (t : List Nat) (k : Int) (w : World) (hv : ReadsU w (.slice a t.length c) t) (he : torE t.length k ≠ 0) : Calls Try.prog 5 #[.slice a t.length c, .int .i64 k] w fun e w' => e = .returned (.bool true) ∧ Kpt w w' := by
  have T := Lib.hid (tornB _ t k w hv he)
  have G := Lib.hid (fun w' (k : Kpt w w') => getA _ t w' (hv.kpt k))
  generalize torE t.length k = E at *
  have y : (E != 0) = true := bne_iff_ne.2 he
  clear hv he
  go_enter Try.func5, Try.ntmps5
  go_wp2_with (first
    | (go_at_call 12; (with_reducible refine T.out.mono ?_); rintro e w1 ⟨ac, cc, rfl, k1⟩; have K1 := Lib.hid k1; clear k1)
    | (go_at_call 11; (with_reducible refine (G.out _ K1.out).mono ?_); rintro e w2 ⟨al, nl, cl, p, q, rfl, k1⟩; have K2 := Lib.hid (ktr K1.out k1); clear k1)
    | (go_at_call 16; (with_reducible refine (tapeBegun _).mono ?_); rintro e w3 ⟨rfl, k1⟩; have K3 := Lib.hid (ktr K2.out k1); clear k1))
  go_ret
  exact ⟨rfl, K3.out⟩
set_option maxHeartbeats 1000000 in
theorem ttorn_all (a : Option Addr) (c : Nat) (t : List Nat) (K : Nat) (w : World) (hv : ReadsU w (.slice a t.length c) t) (h4 : t.length ≤ 4000) (hK : K ≤ t.length) (hat : ends (recs t) ≤ K) (hm : recs (t.take K) = recs t) : Calls Try.prog 5 #[.slice a t.length c, .int .i64 (K : Int)] w fun e w' => e = .returned (.bool true) ∧ Kpt w w' := by
  have T := Lib.hid (tornC _ t K w hv h4 hK)
  have G := Lib.hid (fun w' (k : Kpt w w') => getC _ t w' (hv.kpt k) h4)
  have G2 := Lib.hid (fun v w' (h : ReadsU w' v (t.take K)) => getC v _ w' h (by rw [List.length_take]; omega))
  rw [hm] at G2
  have y1 : decide ((K : Int) < ((ends (recs t) : Nat) : Int)) = false := decide_eq_false (by omega)
  have y2 : decide (((ends (recs t) : Nat) : Int) ≤ (K : Int)) = true := decide_eq_true (by omega)
  have y3 : decide (((recs t).length : Int) < ((recs t).length : Int)) = false := decide_eq_false (by omega)
  have z1 : decide (K < ends (recs t)) = false := decide_eq_false (by omega)
  have z2 : decide (ends (recs t) ≤ K) = true := decide_eq_true (by omega)
  have n0 : (0 : Int) ≤ ((recs t).length : Int) := by omega
  clear hv hm h4 hK hat
  generalize t.take K = s at *
  generalize ends (recs t) = E at *
  generalize recs t = L at *
  go_enter Try.func5, Try.ntmps5
  go_wp2_with (first
    | (go_at_call 12; (with_reducible refine T.out.mono ?_); rintro e w1 ⟨ac, cc, rfl, r1, k1⟩; have K1 := Lib.hid k1; have R1 := Lib.hid r1; clear k1 r1)
    | (go_at_call 11; (with_reducible refine (G.out _ K1.out).mono ?_); rintro e w2 ⟨al, cl, rfl, r2, k1⟩; have K2 := Lib.hid (ktr K1.out k1); have R1 := Lib.hid (R1.out.kpt k1); have R2 := Lib.hid r2; clear k1 r2)
    | (go_at_call 16; (with_reducible refine (tapeBegun _).mono ?_); rintro e w3 ⟨rfl, k1⟩; have K3 := Lib.hid (ktr K2.out k1); have R1 := Lib.hid (R1.out.kpt k1); have R2 := Lib.hid (R2.out.kpt k1); clear k1)
    | (go_at_call 11; (with_reducible refine (G2.out _ _ R1.out).mono ?_); rintro e w4 ⟨am, cm, rfl, r3, k1⟩; have K4 := Lib.hid (ktr K3.out k1); have R3 := Lib.hid r3; have R2 := Lib.hid (R2.out.kpt k1); have hcm : L.length ≤ cl := (by obtain ⟨a5, c5, e5, h5, -⟩ := R2.out.form; injection e5 with _ _ e6; omega); have hci : (L.length : Int) ≤ (cl : Int) := (by omega); clear k1 r3)
    | (go_at_call 18; (with_reducible refine (samS_run _ _ _ _ R3.out R2.out).mono ?_); rintro e w5 ⟨rfl, k1⟩; have K5 := Lib.hid (ktr K4.out k1); clear k1))
  go_ret
  exact ⟨rfl, K5.out⟩
set_option maxHeartbeats 1000000 in
theorem ttorn_some (a : Option Addr) (c : Nat) (t : List Nat) (K j : Nat) (w : World) (hv : ReadsU w (.slice a t.length c) t) (h4 : t.length ≤ 4000) (hK : K ≤ t.length) (hj : j < (recs t).length) (hm : recs (t.take K) = (recs t).take j) (he : ends ((recs t).take j) ≤ K) (hat : K < ends ((recs t).take j) + ((recs t).getD j []).length + 6) (hE : K < ends (recs t)) : Calls Try.prog 5 #[.slice a t.length c, .int .i64 (K : Int)] w fun e w' => e = .returned (.bool true) ∧ Kpt w w' := by
  have T := Lib.hid (tornC _ t K w hv h4 hK)
  have G := Lib.hid (fun w' (k : Kpt w w') => getC _ t w' (hv.kpt k) h4)
  have G2 := Lib.hid (fun v w' (h : ReadsU w' v (t.take K)) => getC v _ w' h (by rw [List.length_take]; omega))
  have hl : ((recs t).take j).length = j := by rw [List.length_take]; omega
  rw [hm, hl] at G2
  have hb := recL_len j hj
  obtain ⟨q, hq⟩ : ∃ q, ((recs t).getD j []).length = q := ⟨_, rfl⟩
  rw [hq] at hb hat
  have hf := recs_few t
  have y1 : decide ((K : Int) < ((ends ((recs t).take j) : Nat) : Int)) = false := decide_eq_false (by omega)
  have y2 : decide (((ends (recs t) : Nat) : Int) ≤ (K : Int)) = false := decide_eq_false (by omega)
  have y3 : decide (((recs t).length : Int) < (j : Int)) = false := decide_eq_false (by omega)
  have y4 : decide ((j : Int) < ((recs t).length : Int)) = true := decide_eq_true (by omega)
  have y5 : decide ((K : Int) < ((ends ((recs t).take j) : Nat) : Int) + 6 + (q : Int)) = true := decide_eq_true (by omega)
  have z1 : decide (K < ends ((recs t).take j)) = false := decide_eq_false (by omega)
  have z2 : decide (ends (recs t) ≤ K) = false := decide_eq_false (by omega)
  have z3 : decide ((recs t).length < j) = false := decide_eq_false (by omega)
  have z4 : decide (j < (recs t).length) = true := decide_eq_true (by omega)
  have z5 : decide (K < ends ((recs t).take j) + 6 + q) = true := decide_eq_true (by omega)
  have n0 : (0 : Int) ≤ (j : Int) := by omega
  have n1 : (j : Int) < ((recs t).length : Int) := by omega
  have m1 : IntKind.i64.wrap (((ends ((recs t).take j) : Nat) : Int) + 6) = ((ends ((recs t).take j) : Nat) : Int) + 6 := IntWalk.i64_in _ (by omega)
  have m2 : IntKind.i64.wrap (((ends ((recs t).take j) : Nat) : Int) + 6 + (q : Int)) = ((ends ((recs t).take j) : Nat) : Int) + 6 + (q : Int) := IntWalk.i64_in _ (by omega)
  have HJ := Lib.hid hj
  have HQ := Lib.hid hq
  clear hq hv hm h4 hK hat hb hf hl he hE
  generalize t.take K = s at *
  generalize ends (recs t) = E at *
  generalize recs t = L at *
  generalize ends (L.take j) = E' at *
  go_enter Try.func5, Try.ntmps5
  go_wp2_with (first
    | (go_at_call 12; (with_reducible refine T.out.mono ?_); rintro e w1 ⟨ac, cc, rfl, r1, k1⟩; have K1 := Lib.hid k1; have R1 := Lib.hid r1; clear k1 r1)
    | (go_at_call 11; (with_reducible refine (G.out _ K1.out).mono ?_); rintro e w2 ⟨al, cl, rfl, r2, k1⟩; have K2 := Lib.hid (ktr K1.out k1); have R1 := Lib.hid (R1.out.kpt k1); have R2 := Lib.hid r2; clear k1 r2)
    | (go_at_call 16; (with_reducible refine (tapeBegun _).mono ?_); rintro e w3 ⟨rfl, k1⟩; have K3 := Lib.hid (ktr K2.out k1); have R1 := Lib.hid (R1.out.kpt k1); have R2 := Lib.hid (R2.out.kpt k1); clear k1)
    | (go_at_call 11; (with_reducible refine (G2.out _ _ R1.out).mono ?_); rintro e w4 ⟨am, cm, rfl, r3, k1⟩; have K4 := Lib.hid (ktr K3.out k1); have R3 := Lib.hid r3; have R2 := Lib.hid (R2.out.kpt k1); have hcm : L.length ≤ cl := (by obtain ⟨a5, c5, e5, h5, -⟩ := R2.out.form; injection e5 with _ _ e6; omega); have hcn : j ≤ cl := (by have := HJ.out; omega); have hci : (j : Int) ≤ (cl : Int) := (by omega); have R4 := Lib.hid (R2.out.take (n := j) (by have := HJ.out; omega)); clear k1 r3)
    | (go_at_call 18; (with_reducible refine (samS_run _ _ _ _ R3.out R4.out).mono ?_); rintro e w5 ⟨rfl, k1⟩; have K5 := Lib.hid (ktr K4.out k1); obtain ⟨bm, om, um, rfl, cx, rx⟩ := (R2.out.kpt k1).at_ HJ.out; obtain ⟨ax, ccx, rfl, -⟩ := rx.form; rw [HQ.out] at cx; clear k1 rx))
  go_ret
  exact ⟨rfl, K5.out⟩
theorem ttorn_plain (v : Value) (k : Int) (t : List Nat) (w : World) (hv : ReadsU w v t) : Calls Try.prog 5 #[v, .int .i64 k] w fun e w' => e = .returned (.bool true) ∧ Kpt w w' := by
  obtain ⟨a, c, rfl, -⟩ := hv.form
  by_cases he : torE t.length k = 0
  · have h : t.length ≤ 4000 ∧ 0 ≤ k ∧ k ≤ t.length := by
      unfold torE at he
      split at he
      · next h4 => split at he
                   · next hk => exact ⟨h4, hk⟩
                   · cases he
      · cases he
    obtain ⟨h4, h0, hk⟩ := h
    obtain ⟨K, rfl⟩ : ∃ K : Nat, k = (K : Int) := ⟨k.toNat, by omega⟩
    obtain ⟨j, j1, j2, j3, j4⟩ := recs_cut t K
    by_cases hj : j = (recs t).length
    · rw [hj, List.take_length] at j2 j3
      exact ttorn_all a c t K w hv h4 (by omega) j3 j2
    · have hj' : j < (recs t).length := by omega
      have j5 : K < ends ((recs t).take (j + 1)) := by omega
      have e5 := take_ends hj'
      have e6 := ends_mono (recs t) (j + 1)
      exact ttorn_some a c t K j w hv h4 (by omega) hj' j2 j3 (by omega) (by omega)
  · exact ttorn_bad a c t k w hv he

end Go.Proofs.Ytljdffkelocfbaa
