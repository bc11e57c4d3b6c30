/-
  TapeCut: the law answers true.
-/
import Derived.Test.YtljdffkelocfbaaLawTT
namespace Go.Proofs.Ytljdffkelocfbaa
open Go.RowKit
set_option linter.unusedVariables false

theorem tcut_bad (a a' : Option Addr) (c c' : Nat) (t b : List Nat) (k : Int) (w : World) (hv : ReadsU w (.slice a t.length c) t) (hu : ReadsU w (.slice a' b.length c') b) (he : torE t.length k ≠ 0) : Calls Try.prog 7 #[.slice a t.length c, .slice a' b.length c', .int .i64 k] w fun e w' => e = .returned (.bool true) ∧ Kpt w w' := by
  have T := Lib.hid (tornB _ t k w hv he)
  generalize torE t.length k = E at *
  have y : (E != 0) = true := bne_iff_ne.2 he
  clear hv hu he
  go_enter Try.func7, Try.ntmps7
  go_wp2_with (first
    | (go_at_call 12; (with_reducible refine T.out.mono ?_); rintro e w1 ⟨ac, cc, rfl, k1⟩; have K1 := Lib.hid k1; clear k1)
    | (go_at_call 16; (with_reducible refine (tapeBegun _).mono ?_); rintro e w3 ⟨rfl, k1⟩; have K3 := Lib.hid (ktr K1.out k1); clear k1))
  go_ret
  exact ⟨rfl, K3.out⟩
/-- a tape cut where its records end: what it has -/
theorem cut_facts (s : List Nat) : recs (s.take (ends (recs s))) = recs s ∧ (s.take (ends (recs s))).length = ends (recs s) := by
  have := recs_ends s
  exact ⟨recs_end s, by rw [List.length_take]; omega⟩
set_option maxHeartbeats 1000000 in
theorem tcut_put (a a' : Option Addr) (c c' : Nat) (t b s d : List Nat) (K E : Nat) (w : World) (hv : ReadsU w (.slice a t.length c) t) (hu : ReadsU w (.slice a' b.length c') b) (h4 : t.length ≤ 4000) (hK : K ≤ t.length) (hs : t.take K = s) (hE : ends (recs s) = E) (hd : s.take E = d) (hp : putE d b ≠ 0) : Calls Try.prog 7 #[.slice a t.length c, .slice a' b.length c', .int .i64 (K : Int)] w fun e w' => e = .returned (.bool true) ∧ Kpt w w' := by
  have hsl : s.length = K := by rw [← hs, List.length_take]; omega
  have hEs : E ≤ s.length := by rw [← hE]; exact recs_ends s
  have T := Lib.hid (tornC _ t K w hv h4 hK)
  rw [hs] at T
  have G := Lib.hid (fun v w' (h : ReadsU w' v s) => getC v s w' h (by omega))
  rw [hE] at G
  have T2 := Lib.hid (fun v w' (h : ReadsU w' v s) => tornC v s E w' h (by omega) hEs)
  rw [hd] at T2
  have P := Lib.hid (fun v w' (h : ReadsU w' v d) (k : Kpt w w') => put_bad d b v _ w' h (hu.kpt k) hp)
  generalize putE d b = F at *
  have y : (F != 0) = true := bne_iff_ne.2 hp
  have y' : (F == 0) = false := beq_eq_false_iff_ne.2 hp
  clear hv hu hp hs hd hE hEs
  generalize recs s = L at *
  go_enter Try.func7, Try.ntmps7
  go_wp2_with (first
    | (go_at_call 12; (with_reducible refine T.out.mono ?_); rintro e w1 ⟨ac, cc, rfl, r1, k1⟩; have K1 := Lib.hid k1; have R1 := Lib.hid r1; clear k1 r1)
    | (go_at_call 16; (with_reducible refine (tapeBegun _).mono ?_); rintro e w3 ⟨rfl, k1⟩; have K3 := Lib.hid (ktr K1.out k1); have R1 := Lib.hid (R1.out.kpt k1); clear k1)
    | (go_at_call 11; (with_reducible refine (G.out _ _ R1.out).mono ?_); rintro e w2 ⟨al, cl, rfl, r2, k1⟩; have K2 := Lib.hid (ktr K3.out k1); have R1 := Lib.hid (R1.out.kpt k1); have R2 := Lib.hid r2; clear k1 r2)
    | (go_at_call 12; (with_reducible refine (T2.out _ _ R1.out).mono ?_); rintro e w4 ⟨ad, cd, rfl, r3, k1⟩; have K4 := Lib.hid (ktr K2.out k1); have R3 := Lib.hid r3; have R2 := Lib.hid (R2.out.kpt k1); clear k1 r3)
    | (go_at_call 10; (with_reducible refine (P.out _ _ R3.out K4.out).mono ?_); rintro e w5 ⟨rfl, k1⟩; have K5 := Lib.hid (ktr K4.out k1); clear k1))
  go_ret
  exact ⟨rfl, K5.out⟩
set_option maxHeartbeats 1000000 in
theorem tcut_ok (a a' : Option Addr) (c c' : Nat) (t b s d : List Nat) (K E : Nat) (w : World) (hv : ReadsU w (.slice a t.length c) t) (hu : ReadsU w (.slice a' b.length c') b) (h4 : t.length ≤ 4000) (hK : K ≤ t.length) (hs : t.take K = s) (hE : ends (recs s) = E) (hd : s.take E = d) (hp : putE d b = 0) : Calls Try.prog 7 #[.slice a t.length c, .slice a' b.length c', .int .i64 (K : Int)] w fun e w' => e = .returned (.bool true) ∧ Kpt w w' := by
  have hsl : s.length = K := by rw [← hs, List.length_take]; omega
  have hEs : E ≤ s.length := by rw [← hE]; exact recs_ends s
  obtain ⟨-, p2, p3⟩ := putE_0 hp
  have hdr : recs d = recs s := by rw [← hd, ← hE]; exact recs_end s
  have hdl : d.length = E := by rw [← hd, List.length_take]; omega
  have hpl : (d ++ rcd b).length ≤ 4000 := by rw [List.length_append, rcd_len]; omega
  have hde : ends (recs d) = d.length := by rw [hdr, hE, hdl]
  have hM := recs_put hde p2 (by omega)
  have hEM := ends_put hde p2 (by omega)
  rw [hdr] at hM
  have hlm := recs_few (d ++ rcd b)
  have hn : (recs (d ++ rcd b)).length = (recs s).length + 1 := by rw [hM]; simp
  have T := Lib.hid (tornC _ t K w hv h4 hK)
  rw [hs] at T
  have G := Lib.hid (fun v w' (h : ReadsU w' v s) => getC v s w' h (by omega))
  rw [hE] at G
  have T2 := Lib.hid (fun v w' (h : ReadsU w' v s) => tornC v s E w' h (by omega) hEs)
  rw [hd] at T2
  have P := Lib.hid (fun v w' (h : ReadsU w' v d) (k : Kpt w w') => putC d b v _ w' h (hu.kpt k) hp)
  have G2 := Lib.hid (fun v w' (h : ReadsU w' v (d ++ rcd b)) => getC v _ w' h hpl)
  rw [hEM] at G2
  have ht : Hid ((recs (d ++ rcd b)).take (recs s).length = recs s) := by unfold Hid; rw [hM, List.take_append_of_le_length (Nat.le_refl _), List.take_length]
  have hx : Hid ((recs (d ++ rcd b)).getD (recs s).length [] = b) := by unfold Hid; rw [hM, List.getD_eq_getElem?_getD, List.getElem?_append_right (Nat.le_refl _)]; simp
  have y7 : ((recs (d ++ rcd b)).length == (recs s).length + 1) = true := beq_iff_eq.2 hn
  have y9 : (recs s).length < (recs (d ++ rcd b)).length := by omega
  have y4 : (((recs (d ++ rcd b)).length : Int) == ((recs s).length : Int) + 1) = true := beq_iff_eq.2 (by omega)
  have m1 : IntKind.i64.wrap (((recs s).length : Int) + 1) = ((recs s).length : Int) + 1 := IntWalk.i64_in _ (by omega)
  have n0 : (0 : Int) ≤ ((recs s).length : Int) := by omega
  have n1 : ((recs s).length : Int) < ((recs (d ++ rcd b)).length : Int) := by omega
  have HN := Lib.hid hn
  have HU := Lib.hid hu
  clear hv hu hp hM hn hpl hE hs hd hlm p2 p3 hsl hEs hdr hdl hde hEM
  generalize recs (d ++ rcd b) = M at *
  generalize recs s = L at *
  generalize d ++ rcd b = p at *
  go_enter Try.func7, Try.ntmps7
  go_wp2_with (first
    | (go_at_call 12; (with_reducible refine T.out.mono ?_); rintro e w1 ⟨ac, cc, rfl, r1, k1⟩; have K1 := Lib.hid k1; have R1 := Lib.hid r1; clear k1 r1)
    | (go_at_call 16; (with_reducible refine (tapeBegun _).mono ?_); rintro e w3 ⟨rfl, k1⟩; have K3 := Lib.hid (ktr K1.out k1); have R1 := Lib.hid (R1.out.kpt k1); clear k1)
    | (go_at_call 11; (with_reducible refine (G.out _ _ R1.out).mono ?_); rintro e w2 ⟨al, cl, rfl, r2, k1⟩; have K2 := Lib.hid (ktr K3.out k1); have R1 := Lib.hid (R1.out.kpt k1); have R2 := Lib.hid r2; clear k1 r2)
    | (go_at_call 12; (with_reducible refine (T2.out _ _ R1.out).mono ?_); rintro e w4 ⟨ad, cd, rfl, r3, k1⟩; have K4 := Lib.hid (ktr K2.out k1); have R3 := Lib.hid r3; have R2 := Lib.hid (R2.out.kpt k1); clear k1 r3)
    | (go_at_call 10; (with_reducible refine (P.out _ _ R3.out K4.out).mono ?_); rintro e w5 ⟨ap, cp, rfl, r4, k1⟩; have K5 := Lib.hid (ktr K4.out k1); have R4 := Lib.hid r4; have R2 := Lib.hid (R2.out.kpt k1); clear k1 r4)
    | (go_at_call 11; (with_reducible refine (G2.out _ _ R4.out).mono ?_); rintro e w6 ⟨am, cm, rfl, r3, k1⟩; have K6 := Lib.hid (ktr K5.out k1); have R2 := Lib.hid (R2.out.kpt k1); have hcm : (L.length : Int) ≤ (cm : Int) := (by obtain ⟨a5, c5, e5, h5, -⟩ := r3.form; injection e5 with _ _ e6; have := HN.out; omega); have hcn : L.length ≤ cm := (by omega); have R5 := Lib.hid (r3.take (n := L.length) (by have := HN.out; omega)); rw [ht.out] at R5; obtain ⟨bm, om, um, rfl, cx, rx⟩ := r3.at_ (k := L.length) (by have := HN.out; omega); rw [hx.out] at rx; have RX := Lib.hid rx; have CX := Lib.hid cx; clear k1 r3 rx cx)
    | (go_at_call 18; (with_reducible refine (samS_run _ _ _ _ R5.out R2.out).mono ?_); rintro e w7 ⟨rfl, k1⟩; have K7 := Lib.hid (ktr K6.out k1); have cx := Kpt.cell k1 CX.out; have RX := Lib.hid (RX.out.kpt k1); clear k1)
    | (go_at_call 17; (with_reducible refine (samU_run _ _ _ _ RX.out (HU.out.kpt K7.out)).mono ?_); rintro e w8 ⟨rfl, rfl⟩))
  go_ret
  exact ⟨rfl, K7.out⟩
theorem tcut_plain (v u : Value) (k : Int) (t b : List Nat) (w : World) (hv : ReadsU w v t) (hu : ReadsU w u b) : Calls Try.prog 7 #[v, u, .int .i64 k] w fun e w' => e = .returned (.bool true) ∧ Kpt w w' := by
  obtain ⟨a, c, rfl, -⟩ := hv.form
  obtain ⟨a', c', rfl, -⟩ := hu.form
  by_cases he : torE t.length k = 0
  · have h : t.length ≤ 4000 ∧ 0 ≤ k ∧ k ≤ t.length := by
      unfold torE at he
      split at he
      · next h4 => split at he
                   · next hk => exact ⟨h4, hk⟩
                   · cases he
      · cases he
    obtain ⟨h4, h0, hk⟩ := h
    obtain ⟨K, rfl⟩ : ∃ K : Nat, k = (K : Int) := ⟨k.toNat, by omega⟩
    by_cases hp : putE ((t.take K).take (ends (recs (t.take K)))) b = 0
    · exact tcut_ok a a' c c' t b _ _ K _ w hv hu h4 (by omega) rfl rfl rfl hp
    · exact tcut_put a a' c c' t b _ _ K _ w hv hu h4 (by omega) rfl rfl rfl hp
  · exact tcut_bad a a' c c' t b k w hv hu he

end Go.Proofs.Ytljdffkelocfbaa
