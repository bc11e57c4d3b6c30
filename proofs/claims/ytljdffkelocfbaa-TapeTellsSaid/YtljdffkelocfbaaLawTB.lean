/-
  TapeBack: the law answers true.
-/
import Derived.Test.YtljdffkelocfbaaTapK
import Derived.Test.YtljdffkelocfbaaTapL
namespace Go.Proofs.Ytljdffkelocfbaa
open Go.RowKit
set_option linter.unusedVariables false

/-- what Get answers of a tape that is no longer than it may be -/
theorem getC (v : Value) (t : List Nat) (w : World) (hr : ReadsU w v t) (h4 : t.length ≤ 4000) : Calls Try.prog 11 #[v] w fun e w' => ∃ a c, e = .returned (.tuple #[.slice a (recs t).length c, .int .i64 ((ends (recs t) : Nat) : Int), .int .i64 0]) ∧ ReadsS w' (.slice a (recs t).length c) (recs t) ∧ Kpt w w' := by
  refine (get_reads v t w hr h4).mono ?_
  rintro e w' ⟨l, rfl, h1, hk⟩
  obtain ⟨a, c, rfl, -⟩ := h1.form
  exact ⟨a, c, rfl, h1, hk⟩
/-- what Put answers where nothing is in the way -/
theorem putC (t b : List Nat) (v u : Value) (w : World) (hv : ReadsU w v t) (hu : ReadsU w u b) (h : putE t b = 0) : Calls Try.prog 10 #[v, u] w fun e w' => ∃ a c, e = .returned (.tuple #[.slice a (t ++ rcd b).length c, .int .i64 0]) ∧ ReadsU w' (.slice a (t ++ rcd b).length c) (t ++ rcd b) ∧ Kpt w w' := by
  obtain ⟨h1, h2, h3⟩ := putE_0 h
  refine (put_ok t b v u w hv hu h).mono ?_
  rintro e w' ⟨v', rfl, ho, hk⟩
  have hr := ho.reads (isB_app.2 ⟨hv.isB, rcd_is hu.isB⟩) (by rw [List.length_append, rcd_len]; omega)
  obtain ⟨a, c, rfl, -⟩ := hr.form
  exact ⟨a, c, rfl, hr, hk⟩

theorem tback_long (a a' : Option Addr) (c c' : Nat) (t b : List Nat) (w : World) (hv : ReadsU w (.slice a t.length c) t) (hu : ReadsU w (.slice a' b.length c') b) (h4 : 4000 < t.length) : Calls Try.prog 4 #[.slice a t.length c, .slice a' b.length c'] w fun e w' => e = .returned (.bool true) ∧ Kpt w w' := by
  have e0 : putE t b = 2 := by unfold putE; rw [if_neg (by omega)]
  have P := Lib.hid (fun w' (k : Kpt w w') => put_bad t b _ _ w' (hv.kpt k) (hu.kpt k) (by rw [e0]; decide))
  rw [e0] at P
  have G := Lib.hid (fun w' => get_bad a t.length c w' h4)
  clear hv hu e0
  go_enter Try.func4, Try.ntmps4
  go_wp2_with (first
    | (go_at_call 11; (with_reducible refine (G.out _).mono ?_); rintro e w1 ⟨rfl, k1⟩; have K1 := Lib.hid k1; clear k1)
    | (go_at_call 10; (with_reducible refine (P.out _ K1.out).mono ?_); rintro e w2 ⟨rfl, k1⟩; have K2 := Lib.hid (ktr K1.out k1); clear k1)
    | (go_at_call 16; (with_reducible refine (tapeBegun _).mono ?_); rintro e w3 ⟨rfl, k1⟩; have K3 := Lib.hid (ktr K2.out k1); clear k1))
  go_ret
  exact ⟨rfl, K3.out⟩
theorem tback_bad (a a' : Option Addr) (c c' : Nat) (t b : List Nat) (w : World) (hv : ReadsU w (.slice a t.length c) t) (hu : ReadsU w (.slice a' b.length c') b) (h4 : t.length ≤ 4000) (hp : putE t b ≠ 0) : Calls Try.prog 4 #[.slice a t.length c, .slice a' b.length c'] w fun e w' => e = .returned (.bool true) ∧ Kpt w w' := by
  have P := Lib.hid (fun w' (k : Kpt w w') => put_bad t b _ _ w' (hv.kpt k) (hu.kpt k) hp)
  have G := Lib.hid (fun w' (k : Kpt w w') => getC _ t w' (hv.kpt k) h4)
  generalize putE t b = E at *
  have y : (E != 0) = true := bne_iff_ne.2 hp
  clear hv hu hp
  go_enter Try.func4, Try.ntmps4
  go_wp2_with (first
    | (go_at_call 11; (with_reducible refine (G.out _ (Kpt.refl w)).mono ?_); rintro e w1 ⟨al, cl, rfl, -, k1⟩; have K1 := Lib.hid k1; clear k1)
    | (go_at_call 10; (with_reducible refine (P.out _ K1.out).mono ?_); rintro e w2 ⟨rfl, k1⟩; have K2 := Lib.hid (ktr K1.out k1); clear k1)
    | (go_at_call 16; (with_reducible refine (tapeBegun _).mono ?_); rintro e w3 ⟨rfl, k1⟩; have K3 := Lib.hid (ktr K2.out k1); clear k1))
  go_ret
  exact ⟨rfl, K3.out⟩
set_option maxHeartbeats 1000000 in
theorem tback_part (a a' : Option Addr) (c c' : Nat) (t b : List Nat) (w : World) (hv : ReadsU w (.slice a t.length c) t) (hu : ReadsU w (.slice a' b.length c') b) (h4 : t.length ≤ 4000) (hp : putE t b = 0) (hat : ends (recs t) < t.length) : Calls Try.prog 4 #[.slice a t.length c, .slice a' b.length c'] w fun e w' => e = .returned (.bool true) ∧ Kpt w w' := by
  obtain ⟨-, p2, p3⟩ := putE_0 hp
  have hpl : (t ++ rcd b).length ≤ 4000 := by rw [List.length_append, rcd_len]; omega
  have P := Lib.hid (fun w' (k : Kpt w w') => putC t b _ _ w' (hv.kpt k) (hu.kpt k) hp)
  have G := Lib.hid (fun w' (k : Kpt w w') => getC _ t w' (hv.kpt k) h4)
  have G2 := Lib.hid (fun v w' (h : ReadsU w' v (t ++ rcd b)) => getC v _ w' h hpl)
  have hM := recs_app t (rcd b)
  have hn : (recs t).length ≤ (recs (t ++ rcd b)).length := by rw [hM, List.length_append]; omega
  have ht : Hid ((recs (t ++ rcd b)).take (recs t).length = recs t) := by unfold Hid; rw [hM, List.take_append_of_le_length (Nat.le_refl _), List.take_length]
  have y1 : decide (((ends (recs t) : Nat) : Int) < (t.length : Int)) = true := decide_eq_true (by omega)
  have y2 : decide (((recs (t ++ rcd b)).length : Int) < ((recs t).length : Int)) = false := decide_eq_false (by omega)
  have y3 : decide ((recs (t ++ rcd b)).length < (recs t).length) = false := decide_eq_false (by omega)
  have n0 : (0 : Int) ≤ ((recs t).length : Int) := by omega
  have HN := Lib.hid hn
  clear hv hu hp hM hn hpl
  generalize recs (t ++ rcd b) = M at *
  generalize ends M = EM at *
  generalize ends (recs t) = E at *
  generalize recs t = L at *
  generalize t ++ rcd b = p at *
  go_enter Try.func4, Try.ntmps4
  go_wp2_with (first
    | (go_at_call 11; (with_reducible refine (G.out _ (Kpt.refl w)).mono ?_); rintro e w1 ⟨al, cl, rfl, r1, k1⟩; have K1 := Lib.hid k1; have R1 := Lib.hid r1; clear k1 r1)
    | (go_at_call 10; (with_reducible refine (P.out _ K1.out).mono ?_); rintro e w2 ⟨ap, cp, rfl, r2, k1⟩; have K2 := Lib.hid (ktr K1.out k1); have R1 := Lib.hid (R1.out.kpt k1); have R2 := Lib.hid r2; clear k1 r2)
    | (go_at_call 16; (with_reducible refine (tapeBegun _).mono ?_); rintro e w3 ⟨rfl, k1⟩; have K3 := Lib.hid (ktr K2.out k1); have R1 := Lib.hid (R1.out.kpt k1); have R2 := Lib.hid (R2.out.kpt k1); clear k1)
    | (go_at_call 11; (with_reducible refine (G2.out _ _ R2.out).mono ?_); rintro e w4 ⟨am, cm, rfl, r3, k1⟩; have K4 := Lib.hid (ktr K3.out k1); have R1 := Lib.hid (R1.out.kpt k1); have R3 := Lib.hid r3; have hcm : (L.length : Int) ≤ (cm : Int) := (by obtain ⟨a5, c5, e5, h5, -⟩ := r3.form; injection e5 with _ _ e6; have := HN.out; omega); have hcn : L.length ≤ cm := (by omega); have R4 := Lib.hid (r3.take HN.out); rw [ht.out] at R4; clear k1 r3)
    | (go_at_call 18; (with_reducible refine (samS_run _ _ _ _ R4.out R1.out).mono ?_); rintro e w5 ⟨rfl, k1⟩; have K5 := Lib.hid (ktr K4.out k1); clear k1))
  go_ret
  exact ⟨rfl, K5.out⟩
set_option maxHeartbeats 1000000 in
theorem tback_full (a a' : Option Addr) (c c' : Nat) (t b : List Nat) (w : World) (hv : ReadsU w (.slice a t.length c) t) (hu : ReadsU w (.slice a' b.length c') b) (h4 : t.length ≤ 4000) (hp : putE t b = 0) (hat : ends (recs t) = t.length) : Calls Try.prog 4 #[.slice a t.length c, .slice a' b.length c'] w fun e w' => e = .returned (.bool true) ∧ Kpt w w' := by
  obtain ⟨-, p2, p3⟩ := putE_0 hp
  have hpl : (t ++ rcd b).length ≤ 4000 := by rw [List.length_append, rcd_len]; omega
  have P := Lib.hid (fun w' (k : Kpt w w') => putC t b _ _ w' (hv.kpt k) (hu.kpt k) hp)
  have G := Lib.hid (fun w' (k : Kpt w w') => getC _ t w' (hv.kpt k) h4)
  have G2 := Lib.hid (fun v w' (h : ReadsU w' v (t ++ rcd b)) => getC v _ w' h hpl)
  have hM := recs_put hat p2 (by omega)
  have hE := ends_put hat p2 (by omega)
  have hn : (recs (t ++ rcd b)).length = (recs t).length + 1 := by rw [hM]; simp
  have hlm := recs_few (t ++ rcd b)
  have ht : Hid ((recs (t ++ rcd b)).take (recs t).length = recs t) := by unfold Hid; rw [hM, List.take_append_of_le_length (Nat.le_refl _), List.take_length]
  have hx : Hid ((recs (t ++ rcd b)).getD (recs t).length [] = b) := by unfold Hid; rw [hM, List.getD_eq_getElem?_getD, List.getElem?_append_right (Nat.le_refl _)]; simp
  have y1 : decide (((ends (recs t) : Nat) : Int) < (t.length : Int)) = false := decide_eq_false (by omega)
  have y6 : decide (ends (recs t) < t.length) = false := decide_eq_false (by omega)
  have y7 : ((recs (t ++ rcd b)).length == (recs t).length + 1) = true := beq_iff_eq.2 hn
  have y8 : (ends (recs (t ++ rcd b)) == (t ++ rcd b).length) = true := beq_iff_eq.2 hE
  have y9 : (recs t).length < (recs (t ++ rcd b)).length := by omega
  have y2 : decide (((recs (t ++ rcd b)).length : Int) < ((recs t).length : Int)) = false := decide_eq_false (by omega)
  have y3 : decide ((recs (t ++ rcd b)).length < (recs t).length) = false := decide_eq_false (by omega)
  have y4 : (((recs (t ++ rcd b)).length : Int) == ((recs t).length : Int) + 1) = true := beq_iff_eq.2 (by omega)
  have y5 : (((ends (recs (t ++ rcd b)) : Nat) : Int) == ((t ++ rcd b).length : Int)) = true := beq_iff_eq.2 (by omega)
  have m1 : IntKind.i64.wrap (((recs t).length : Int) + 1) = ((recs t).length : Int) + 1 := IntWalk.i64_in _ (by omega)
  have n0 : (0 : Int) ≤ ((recs t).length : Int) := by omega
  have n1 : ((recs t).length : Int) < ((recs (t ++ rcd b)).length : Int) := by omega
  have HN := Lib.hid hn
  have HU := Lib.hid hu
  clear hv hu hp hM hn hpl hE hat hlm p2 p3
  generalize recs (t ++ rcd b) = M at *
  generalize ends M = EM at *
  generalize ends (recs t) = E at *
  generalize recs t = L at *
  generalize t ++ rcd b = p at *
  go_enter Try.func4, Try.ntmps4
  go_wp2_with (first
    | (go_at_call 11; (with_reducible refine (G.out _ (Kpt.refl w)).mono ?_); rintro e w1 ⟨al, cl, rfl, r1, k1⟩; have K1 := Lib.hid k1; have R1 := Lib.hid r1; clear k1 r1)
    | (go_at_call 10; (with_reducible refine (P.out _ K1.out).mono ?_); rintro e w2 ⟨ap, cp, rfl, r2, k1⟩; have K2 := Lib.hid (ktr K1.out k1); have R1 := Lib.hid (R1.out.kpt k1); have R2 := Lib.hid r2; clear k1 r2)
    | (go_at_call 16; (with_reducible refine (tapeBegun _).mono ?_); rintro e w3 ⟨rfl, k1⟩; have K3 := Lib.hid (ktr K2.out k1); have R1 := Lib.hid (R1.out.kpt k1); have R2 := Lib.hid (R2.out.kpt k1); clear k1)
    | (go_at_call 11; (with_reducible refine (G2.out _ _ R2.out).mono ?_); rintro e w4 ⟨am, cm, rfl, r3, k1⟩; have K4 := Lib.hid (ktr K3.out k1); have R1 := Lib.hid (R1.out.kpt k1); have R3 := Lib.hid r3; have hcm : (L.length : Int) ≤ (cm : Int) := (by obtain ⟨a5, c5, e5, h5, -⟩ := r3.form; injection e5 with _ _ e6; have := HN.out; omega); have hcn : L.length ≤ cm := (by omega); have R4 := Lib.hid (r3.take (n := L.length) (by have := HN.out; omega)); rw [ht.out] at R4; obtain ⟨bm, om, um, rfl, cx, rx⟩ := r3.at_ (k := L.length) (by have := HN.out; omega); rw [hx.out] at rx; have RX := Lib.hid rx; have CX := Lib.hid cx; clear k1 r3 rx cx)
    | (go_at_call 18; (with_reducible refine (samS_run _ _ _ _ R4.out R1.out).mono ?_); rintro e w5 ⟨rfl, k1⟩; have K5 := Lib.hid (ktr K4.out k1); have cx := Kpt.cell k1 CX.out; have RX := Lib.hid (RX.out.kpt k1); clear k1)
    | (go_at_call 17; (with_reducible refine (samU_run _ _ _ _ RX.out (HU.out.kpt K5.out)).mono ?_); rintro e w6 ⟨rfl, rfl⟩))
  go_ret
  exact ⟨rfl, K5.out⟩
theorem tback_plain (v u : Value) (t b : List Nat) (w : World) (hv : ReadsU w v t) (hu : ReadsU w u b) : Calls Try.prog 4 #[v, u] w fun e w' => e = .returned (.bool true) ∧ Kpt w w' := by
  obtain ⟨a, c, rfl, -⟩ := hv.form
  obtain ⟨a', c', rfl, -⟩ := hu.form
  by_cases h4 : t.length ≤ 4000
  · by_cases hp : putE t b = 0
    · have := recs_ends t
      by_cases hat : ends (recs t) = t.length
      · exact tback_full a a' c c' t b w hv hu h4 hp hat
      · exact tback_part a a' c c' t b w hv hu h4 hp (by omega)
    · exact tback_bad a a' c c' t b w hv hu h4 hp
  · exact tback_long a a' c c' t b w hv hu (by omega)

end Go.Proofs.Ytljdffkelocfbaa
