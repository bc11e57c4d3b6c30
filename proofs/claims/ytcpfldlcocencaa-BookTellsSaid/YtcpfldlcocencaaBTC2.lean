/-
  BookTells: the walk where the postings have a fault.
-/
import Derived.Test.YtcpfldlcocencaaLawBTells
import Derived.Deep.RegionHeld3
import Derived.Deep.AppendLies
namespace Go.Proofs.Ytcpfldlcocencaa
open Go.RowKit
set_option linter.unusedVariables false

set_option maxRecDepth 100000 in
set_option maxHeartbeats 8000000 in
theorem bookTells_P0C2 (v t : Value) (a u : Int) (b l : List (Int × Int × Int)) (w : World) (hb : ReadsP w v b) (hl : ReadsP w t l) (hp : linE b ≠ 0) (hc : chkE l ≠ 0 ∧ 0 < l.length) : Calls Try.prog 3 #[v, t, .int .i64 a, .int .i64 u] w fun e w' => e = .returned (.bool true) ∧ Kpt w w' := by
  obtain ⟨R, E, hpost⟩ := postRes_ex b l
  have PO := Lib.hid (fun w hb hl => post_twin v t b l R E w hb hl hpost)
  have RPO := Lib.hid (fun w hb hl => rpost_twin v t b l R E w hb hl hpost)
  have TR := Lib.hid (fun w hb => trial_twin v b w hb)
  have RTR := Lib.hid (fun w hb => rtrial_twin v b w hb)
  have TN := Lib.hid (fun w hl => turn_twin t l w hl)
  have CK := Lib.hid (fun w hl => bookCheck_any t l w hl)
  have RCK := Lib.hid (fun w hl => rchk_any t l w hl)
  have RB := Lib.hid hb; have RL := Lib.hid hl
  have hlen := hl.len
  unfold maxLen at hlen
  have G := Lib.hid (Kpt.refl w)
  have EQ1 : (linE b == 0) = false := beq_eq_false_iff_ne.2 hp
  have LB := Lib.hid (fun w hr => lines_is v b w hr rfl)
  have RLB := Lib.hid (fun w hr => rlines_any v b w hr)
  have BAL := Lib.hid (fun w hr => bal_err v b a u w hr hp)
  clear hp
  generalize linE b = EL at *
  obtain ⟨hc, l0⟩ := hc
  have TT := Lib.hid (turnR_e hc)
  have cq : (chkE l == 0) = false := beq_eq_false_iff_ne.2 hc
  obtain ⟨al, cl, rfl, -, -, -, hcc⟩ := id hl
  clear hc hcc hb hl hpost
  generalize chkE l = CE at *
  have li : (0 : Int) ≤ (l.length : Int) - 1 := by omega
  have lj : (1 : Int) ≤ (l.length : Int) := by omega
  go_enter Try.func3, Try.ntmps3
  go_wp2_with (first
    | (go_at_call 10; (with_reducible refine (PO.out _ RB.out RL.out).mono ?_); rintro e w1 ⟨k1, a1, n1, c1, rfl, P1⟩; (try replace P1 := Lib.hid (P1.out.kpt k1.out)); (try replace T3 := Lib.hid (T3.out.kpt k1.out)); (try replace S4 := Lib.hid (S4.out.kpt k1.out)); (try replace P5 := Lib.hid (P5.out.kpt k1.out)); (try replace TU := Lib.hid (TU.out.kpt k1.out)); (try replace S9 := Lib.hid (S9.out.kpt k1.out)); replace G := Lib.hid (ktr G.out k1.out); clear k1)
    | (go_at_call 11; (with_reducible refine (BAL.out _ (RB.out.kpt G.out)).mono ?_); rintro e w2 ⟨rfl, k2⟩; (try replace P1 := Lib.hid (P1.out.kpt k2)); (try replace T3 := Lib.hid (T3.out.kpt k2)); (try replace S4 := Lib.hid (S4.out.kpt k2)); (try replace P5 := Lib.hid (P5.out.kpt k2)); (try replace TU := Lib.hid (TU.out.kpt k2)); (try replace S9 := Lib.hid (S9.out.kpt k2)); replace G := Lib.hid (ktr G.out k2); clear k2)
    | (go_at_call 12; (with_reducible refine (TN.out _ (RL.out.kpt G.out)).mono ?_); rintro e w3 ⟨a3, n3, c3, rfl, T3', k3⟩; (try replace P1 := Lib.hid (P1.out.kpt k3.out)); (try replace T3 := Lib.hid (T3.out.kpt k3.out)); (try replace S4 := Lib.hid (S4.out.kpt k3.out)); (try replace P5 := Lib.hid (P5.out.kpt k3.out)); (try replace TU := Lib.hid (TU.out.kpt k3.out)); (try replace S9 := Lib.hid (S9.out.kpt k3.out)); replace G := Lib.hid (ktr G.out k3.out); have T3 := T3'; clear k3 T3')
    | (go_at_call 13; (with_reducible refine (TR.out _ (RB.out.kpt G.out)).mono ?_); rintro e w4 ⟨k4, v4, rfl, S4'⟩; (try replace P1 := Lib.hid (P1.out.kpt k4.out)); (try replace T3 := Lib.hid (T3.out.kpt k4.out)); (try replace S4 := Lib.hid (S4.out.kpt k4.out)); (try replace P5 := Lib.hid (P5.out.kpt k4.out)); (try replace TU := Lib.hid (TU.out.kpt k4.out)); (try replace S9 := Lib.hid (S9.out.kpt k4.out)); replace G := Lib.hid (ktr G.out k4.out); have S4 := S4'; clear k4 S4')
    | (go_at_call 14; (with_reducible refine (RPO.out _ (RB.out.kpt G.out) (RL.out.kpt G.out)).mono ?_); rintro e w5 ⟨k5, a5, n5, c5, rfl, P5'⟩; (try replace P1 := Lib.hid (P1.out.kpt k5.out)); (try replace T3 := Lib.hid (T3.out.kpt k5.out)); (try replace S4 := Lib.hid (S4.out.kpt k5.out)); (try replace P5 := Lib.hid (P5.out.kpt k5.out)); (try replace TU := Lib.hid (TU.out.kpt k5.out)); (try replace S9 := Lib.hid (S9.out.kpt k5.out)); replace G := Lib.hid (ktr G.out k5.out); have P5 := P5'; clear k5 P5')
    | (go_at_call 15; (with_reducible refine (RLB.out _ (RB.out.kpt G.out)).mono ?_); rintro e w6 ⟨rfl, k6⟩; (try replace P1 := Lib.hid (P1.out.kpt k6)); (try replace T3 := Lib.hid (T3.out.kpt k6)); (try replace S4 := Lib.hid (S4.out.kpt k6)); (try replace P5 := Lib.hid (P5.out.kpt k6)); (try replace TU := Lib.hid (TU.out.kpt k6)); (try replace S9 := Lib.hid (S9.out.kpt k6)); replace G := Lib.hid (ktr G.out k6); clear k6)
    | (go_at_call 17; (with_reducible refine (RCK.out _ (RL.out.kpt G.out)).mono ?_); rintro e w8 ⟨rfl, k8⟩; (try replace P1 := Lib.hid (P1.out.kpt k8)); (try replace T3 := Lib.hid (T3.out.kpt k8)); (try replace S4 := Lib.hid (S4.out.kpt k8)); (try replace P5 := Lib.hid (P5.out.kpt k8)); (try replace TU := Lib.hid (TU.out.kpt k8)); (try replace S9 := Lib.hid (S9.out.kpt k8)); replace G := Lib.hid (ktr G.out k8); clear k8))
  have TU : Hid (ReadsP w8 (.slice none 0 0) (turnR l)) := by unfold Hid; rw [TT.out]; exact readsP_nil _ _ _ fun _ => rfl
  go_loopw [22, 23] (fun m i wr => m = .slice none 0 0 ∧ i = .int .i64 ((l.length : Int) - 1) ∧ Hid (Kpt w8 wr)) (fun _ _ _ => 0)
  case atStart => exact ⟨rfl, rfl, Kpt.refl _⟩
  case round =>
    obtain ⟨rfl, rfl, HJ⟩ := hrel
    (try replace P1 := Lib.hid (P1.out.kpt HJ.out))
    (try replace T3 := Lib.hid (T3.out.kpt HJ.out))
    (try replace S4 := Lib.hid (S4.out.kpt HJ.out))
    (try replace P5 := Lib.hid (P5.out.kpt HJ.out))
    (try replace TU := Lib.hid (TU.out.kpt HJ.out))
    replace G := Lib.hid (ktr G.out HJ.out)
    clear HJ
    go_wp2_with (first
      | (go_at_call 18; (with_reducible refine (RTR.out _ (RB.out.kpt G.out)).mono ?_); rintro e w9 ⟨k9, v9, rfl, S9'⟩; (try replace P1 := Lib.hid (P1.out.kpt k9.out)); (try replace T3 := Lib.hid (T3.out.kpt k9.out)); (try replace S4 := Lib.hid (S4.out.kpt k9.out)); (try replace P5 := Lib.hid (P5.out.kpt k9.out)); (try replace TU := Lib.hid (TU.out.kpt k9.out)); (try replace S9 := Lib.hid (S9.out.kpt k9.out)); replace G := Lib.hid (ktr G.out k9.out); have S9 := S9'; clear k9 S9')
      | (go_at_call 19; (with_reducible refine (bookBegun _).mono ?_); rintro e w10 ⟨rfl, k10⟩; (try replace P1 := Lib.hid (P1.out.kpt k10)); (try replace T3 := Lib.hid (T3.out.kpt k10)); (try replace S4 := Lib.hid (S4.out.kpt k10)); (try replace P5 := Lib.hid (P5.out.kpt k10)); (try replace TU := Lib.hid (TU.out.kpt k10)); (try replace S9 := Lib.hid (S9.out.kpt k10)); replace G := Lib.hid (ktr G.out k10); clear k10)
      | (go_at_call 20; (with_reducible refine (CK.out _ (RL.out.kpt G.out)).mono ?_); rintro e w11 ⟨rfl, k11⟩; (try replace P1 := Lib.hid (P1.out.kpt k11.kpt)); (try replace T3 := Lib.hid (T3.out.kpt k11.kpt)); (try replace S4 := Lib.hid (S4.out.kpt k11.kpt)); (try replace P5 := Lib.hid (P5.out.kpt k11.kpt)); (try replace TU := Lib.hid (TU.out.kpt k11.kpt)); (try replace S9 := Lib.hid (S9.out.kpt k11.kpt)); replace G := Lib.hid (ktr G.out k11.kpt); clear k11)
      | (go_at_call 21; (with_reducible refine (LB.out _ (RB.out.kpt G.out)).mono ?_); rintro e w12 ⟨rfl, k12⟩; (try replace P1 := Lib.hid (P1.out.kpt k12)); (try replace T3 := Lib.hid (T3.out.kpt k12)); (try replace S4 := Lib.hid (S4.out.kpt k12)); (try replace P5 := Lib.hid (P5.out.kpt k12)); (try replace TU := Lib.hid (TU.out.kpt k12)); (try replace S9 := Lib.hid (S9.out.kpt k12)); replace G := Lib.hid (ktr G.out k12); clear k12)
      | (go_at_call 15; (with_reducible refine (RLB.out _ (RB.out.kpt G.out)).mono ?_); rintro e w13 ⟨rfl, k13⟩; (try replace P1 := Lib.hid (P1.out.kpt k13)); (try replace T3 := Lib.hid (T3.out.kpt k13)); (try replace S4 := Lib.hid (S4.out.kpt k13)); (try replace P5 := Lib.hid (P5.out.kpt k13)); (try replace TU := Lib.hid (TU.out.kpt k13)); (try replace S9 := Lib.hid (S9.out.kpt k13)); replace G := Lib.hid (ktr G.out k13); clear k13)
      | (go_at_call 22; (with_reducible refine (same_any _ _ R _ P1.out P5.out).mono ?_); rintro e w14 ⟨rfl, k14⟩; clear P1 P5; (try replace P1 := Lib.hid (P1.out.kpt k14)); (try replace T3 := Lib.hid (T3.out.kpt k14)); (try replace S4 := Lib.hid (S4.out.kpt k14)); (try replace P5 := Lib.hid (P5.out.kpt k14)); (try replace TU := Lib.hid (TU.out.kpt k14)); (try replace S9 := Lib.hid (S9.out.kpt k14)); replace G := Lib.hid (ktr G.out k14); clear k14)
      | (go_at_call 22; (with_reducible refine (same_any _ _ (turnR l) _ T3.out TU.out).mono ?_); rintro e w15 ⟨rfl, k15⟩; (try replace P1 := Lib.hid (P1.out.kpt k15)); (try replace T3 := Lib.hid (T3.out.kpt k15)); (try replace S4 := Lib.hid (S4.out.kpt k15)); (try replace P5 := Lib.hid (P5.out.kpt k15)); (try replace TU := Lib.hid (TU.out.kpt k15)); (try replace S9 := Lib.hid (S9.out.kpt k15)); replace G := Lib.hid (ktr G.out k15); clear k15)
      | (go_at_call 23; (with_reducible refine (sameI_run _ _ (triR b) _ S4.out S9.out).mono ?_); rintro e w16 ⟨rfl, k16⟩; (try replace P1 := Lib.hid (P1.out.kpt k16)); (try replace T3 := Lib.hid (T3.out.kpt k16)); (try replace S4 := Lib.hid (S4.out.kpt k16)); (try replace P5 := Lib.hid (P5.out.kpt k16)); (try replace TU := Lib.hid (TU.out.kpt k16)); (try replace S9 := Lib.hid (S9.out.kpt k16)); replace G := Lib.hid (ktr G.out k16); clear k16))
    go_ret
    exact ⟨rfl, G.out⟩

set_option maxRecDepth 100000 in
set_option maxHeartbeats 8000000 in
theorem bookTells_P1C2 (v t : Value) (a u : Int) (b l : List (Int × Int × Int)) (w : World) (hb : ReadsP w v b) (hl : ReadsP w t l) (hp : linE b = 0 ∧ a < 0) (hc : chkE l ≠ 0 ∧ 0 < l.length) : Calls Try.prog 3 #[v, t, .int .i64 a, .int .i64 u] w fun e w' => e = .returned (.bool true) ∧ Kpt w w' := by
  obtain ⟨R, E, hpost⟩ := postRes_ex b l
  have PO := Lib.hid (fun w hb hl => post_twin v t b l R E w hb hl hpost)
  have RPO := Lib.hid (fun w hb hl => rpost_twin v t b l R E w hb hl hpost)
  have TR := Lib.hid (fun w hb => trial_twin v b w hb)
  have RTR := Lib.hid (fun w hb => rtrial_twin v b w hb)
  have TN := Lib.hid (fun w hl => turn_twin t l w hl)
  have CK := Lib.hid (fun w hl => bookCheck_any t l w hl)
  have RCK := Lib.hid (fun w hl => rchk_any t l w hl)
  have RB := Lib.hid hb; have RL := Lib.hid hl
  have hlen := hl.len
  unfold maxLen at hlen
  have G := Lib.hid (Kpt.refl w)
  obtain ⟨hp, g1⟩ := hp
  have hpl : plB a u = false := decide_eq_false (by omega)
  have LB := Lib.hid (fun w hr => lines_is v b w hr hp)
  have RLB := Lib.hid (fun w hr => (hp ▸ rlines_any v b w hr : Calls Try.prog 15 #[v] w fun e w' => e = .returned (.int .i64 0) ∧ Kpt w w'))
  have BAL := Lib.hid (fun w hr => bal_out v b a u w hr hp hpl)
  clear hp hpl
  obtain ⟨hc, l0⟩ := hc
  have TT := Lib.hid (turnR_e hc)
  have cq : (chkE l == 0) = false := beq_eq_false_iff_ne.2 hc
  obtain ⟨al, cl, rfl, -, -, -, hcc⟩ := id hl
  clear hc hcc hb hl hpost
  generalize chkE l = CE at *
  have li : (0 : Int) ≤ (l.length : Int) - 1 := by omega
  have lj : (1 : Int) ≤ (l.length : Int) := by omega
  go_enter Try.func3, Try.ntmps3
  go_wp2_with (first
    | (go_at_call 10; (with_reducible refine (PO.out _ RB.out RL.out).mono ?_); rintro e w1 ⟨k1, a1, n1, c1, rfl, P1⟩; (try replace P1 := Lib.hid (P1.out.kpt k1.out)); (try replace T3 := Lib.hid (T3.out.kpt k1.out)); (try replace S4 := Lib.hid (S4.out.kpt k1.out)); (try replace P5 := Lib.hid (P5.out.kpt k1.out)); (try replace TU := Lib.hid (TU.out.kpt k1.out)); (try replace S9 := Lib.hid (S9.out.kpt k1.out)); replace G := Lib.hid (ktr G.out k1.out); clear k1)
    | (go_at_call 11; (with_reducible refine (BAL.out _ (RB.out.kpt G.out)).mono ?_); rintro e w2 ⟨rfl, k2⟩; (try replace P1 := Lib.hid (P1.out.kpt k2)); (try replace T3 := Lib.hid (T3.out.kpt k2)); (try replace S4 := Lib.hid (S4.out.kpt k2)); (try replace P5 := Lib.hid (P5.out.kpt k2)); (try replace TU := Lib.hid (TU.out.kpt k2)); (try replace S9 := Lib.hid (S9.out.kpt k2)); replace G := Lib.hid (ktr G.out k2); clear k2)
    | (go_at_call 12; (with_reducible refine (TN.out _ (RL.out.kpt G.out)).mono ?_); rintro e w3 ⟨a3, n3, c3, rfl, T3', k3⟩; (try replace P1 := Lib.hid (P1.out.kpt k3.out)); (try replace T3 := Lib.hid (T3.out.kpt k3.out)); (try replace S4 := Lib.hid (S4.out.kpt k3.out)); (try replace P5 := Lib.hid (P5.out.kpt k3.out)); (try replace TU := Lib.hid (TU.out.kpt k3.out)); (try replace S9 := Lib.hid (S9.out.kpt k3.out)); replace G := Lib.hid (ktr G.out k3.out); have T3 := T3'; clear k3 T3')
    | (go_at_call 13; (with_reducible refine (TR.out _ (RB.out.kpt G.out)).mono ?_); rintro e w4 ⟨k4, v4, rfl, S4'⟩; (try replace P1 := Lib.hid (P1.out.kpt k4.out)); (try replace T3 := Lib.hid (T3.out.kpt k4.out)); (try replace S4 := Lib.hid (S4.out.kpt k4.out)); (try replace P5 := Lib.hid (P5.out.kpt k4.out)); (try replace TU := Lib.hid (TU.out.kpt k4.out)); (try replace S9 := Lib.hid (S9.out.kpt k4.out)); replace G := Lib.hid (ktr G.out k4.out); have S4 := S4'; clear k4 S4')
    | (go_at_call 14; (with_reducible refine (RPO.out _ (RB.out.kpt G.out) (RL.out.kpt G.out)).mono ?_); rintro e w5 ⟨k5, a5, n5, c5, rfl, P5'⟩; (try replace P1 := Lib.hid (P1.out.kpt k5.out)); (try replace T3 := Lib.hid (T3.out.kpt k5.out)); (try replace S4 := Lib.hid (S4.out.kpt k5.out)); (try replace P5 := Lib.hid (P5.out.kpt k5.out)); (try replace TU := Lib.hid (TU.out.kpt k5.out)); (try replace S9 := Lib.hid (S9.out.kpt k5.out)); replace G := Lib.hid (ktr G.out k5.out); have P5 := P5'; clear k5 P5')
    | (go_at_call 15; (with_reducible refine (RLB.out _ (RB.out.kpt G.out)).mono ?_); rintro e w6 ⟨rfl, k6⟩; (try replace P1 := Lib.hid (P1.out.kpt k6)); (try replace T3 := Lib.hid (T3.out.kpt k6)); (try replace S4 := Lib.hid (S4.out.kpt k6)); (try replace P5 := Lib.hid (P5.out.kpt k6)); (try replace TU := Lib.hid (TU.out.kpt k6)); (try replace S9 := Lib.hid (S9.out.kpt k6)); replace G := Lib.hid (ktr G.out k6); clear k6)
    | (go_at_call 17; (with_reducible refine (RCK.out _ (RL.out.kpt G.out)).mono ?_); rintro e w8 ⟨rfl, k8⟩; (try replace P1 := Lib.hid (P1.out.kpt k8)); (try replace T3 := Lib.hid (T3.out.kpt k8)); (try replace S4 := Lib.hid (S4.out.kpt k8)); (try replace P5 := Lib.hid (P5.out.kpt k8)); (try replace TU := Lib.hid (TU.out.kpt k8)); (try replace S9 := Lib.hid (S9.out.kpt k8)); replace G := Lib.hid (ktr G.out k8); clear k8))
  have TU : Hid (ReadsP w8 (.slice none 0 0) (turnR l)) := by unfold Hid; rw [TT.out]; exact readsP_nil _ _ _ fun _ => rfl
  go_loopw [22, 23] (fun m i wr => m = .slice none 0 0 ∧ i = .int .i64 ((l.length : Int) - 1) ∧ Hid (Kpt w8 wr)) (fun _ _ _ => 0)
  case atStart => exact ⟨rfl, rfl, Kpt.refl _⟩
  case round =>
    obtain ⟨rfl, rfl, HJ⟩ := hrel
    (try replace P1 := Lib.hid (P1.out.kpt HJ.out))
    (try replace T3 := Lib.hid (T3.out.kpt HJ.out))
    (try replace S4 := Lib.hid (S4.out.kpt HJ.out))
    (try replace P5 := Lib.hid (P5.out.kpt HJ.out))
    (try replace TU := Lib.hid (TU.out.kpt HJ.out))
    replace G := Lib.hid (ktr G.out HJ.out)
    clear HJ
    go_wp2_with (first
      | (go_at_call 18; (with_reducible refine (RTR.out _ (RB.out.kpt G.out)).mono ?_); rintro e w9 ⟨k9, v9, rfl, S9'⟩; (try replace P1 := Lib.hid (P1.out.kpt k9.out)); (try replace T3 := Lib.hid (T3.out.kpt k9.out)); (try replace S4 := Lib.hid (S4.out.kpt k9.out)); (try replace P5 := Lib.hid (P5.out.kpt k9.out)); (try replace TU := Lib.hid (TU.out.kpt k9.out)); (try replace S9 := Lib.hid (S9.out.kpt k9.out)); replace G := Lib.hid (ktr G.out k9.out); have S9 := S9'; clear k9 S9')
      | (go_at_call 19; (with_reducible refine (bookBegun _).mono ?_); rintro e w10 ⟨rfl, k10⟩; (try replace P1 := Lib.hid (P1.out.kpt k10)); (try replace T3 := Lib.hid (T3.out.kpt k10)); (try replace S4 := Lib.hid (S4.out.kpt k10)); (try replace P5 := Lib.hid (P5.out.kpt k10)); (try replace TU := Lib.hid (TU.out.kpt k10)); (try replace S9 := Lib.hid (S9.out.kpt k10)); replace G := Lib.hid (ktr G.out k10); clear k10)
      | (go_at_call 20; (with_reducible refine (CK.out _ (RL.out.kpt G.out)).mono ?_); rintro e w11 ⟨rfl, k11⟩; (try replace P1 := Lib.hid (P1.out.kpt k11.kpt)); (try replace T3 := Lib.hid (T3.out.kpt k11.kpt)); (try replace S4 := Lib.hid (S4.out.kpt k11.kpt)); (try replace P5 := Lib.hid (P5.out.kpt k11.kpt)); (try replace TU := Lib.hid (TU.out.kpt k11.kpt)); (try replace S9 := Lib.hid (S9.out.kpt k11.kpt)); replace G := Lib.hid (ktr G.out k11.kpt); clear k11)
      | (go_at_call 21; (with_reducible refine (LB.out _ (RB.out.kpt G.out)).mono ?_); rintro e w12 ⟨rfl, k12⟩; (try replace P1 := Lib.hid (P1.out.kpt k12)); (try replace T3 := Lib.hid (T3.out.kpt k12)); (try replace S4 := Lib.hid (S4.out.kpt k12)); (try replace P5 := Lib.hid (P5.out.kpt k12)); (try replace TU := Lib.hid (TU.out.kpt k12)); (try replace S9 := Lib.hid (S9.out.kpt k12)); replace G := Lib.hid (ktr G.out k12); clear k12)
      | (go_at_call 15; (with_reducible refine (RLB.out _ (RB.out.kpt G.out)).mono ?_); rintro e w13 ⟨rfl, k13⟩; (try replace P1 := Lib.hid (P1.out.kpt k13)); (try replace T3 := Lib.hid (T3.out.kpt k13)); (try replace S4 := Lib.hid (S4.out.kpt k13)); (try replace P5 := Lib.hid (P5.out.kpt k13)); (try replace TU := Lib.hid (TU.out.kpt k13)); (try replace S9 := Lib.hid (S9.out.kpt k13)); replace G := Lib.hid (ktr G.out k13); clear k13)
      | (go_at_call 22; (with_reducible refine (same_any _ _ R _ P1.out P5.out).mono ?_); rintro e w14 ⟨rfl, k14⟩; clear P1 P5; (try replace P1 := Lib.hid (P1.out.kpt k14)); (try replace T3 := Lib.hid (T3.out.kpt k14)); (try replace S4 := Lib.hid (S4.out.kpt k14)); (try replace P5 := Lib.hid (P5.out.kpt k14)); (try replace TU := Lib.hid (TU.out.kpt k14)); (try replace S9 := Lib.hid (S9.out.kpt k14)); replace G := Lib.hid (ktr G.out k14); clear k14)
      | (go_at_call 22; (with_reducible refine (same_any _ _ (turnR l) _ T3.out TU.out).mono ?_); rintro e w15 ⟨rfl, k15⟩; (try replace P1 := Lib.hid (P1.out.kpt k15)); (try replace T3 := Lib.hid (T3.out.kpt k15)); (try replace S4 := Lib.hid (S4.out.kpt k15)); (try replace P5 := Lib.hid (P5.out.kpt k15)); (try replace TU := Lib.hid (TU.out.kpt k15)); (try replace S9 := Lib.hid (S9.out.kpt k15)); replace G := Lib.hid (ktr G.out k15); clear k15)
      | (go_at_call 23; (with_reducible refine (sameI_run _ _ (triR b) _ S4.out S9.out).mono ?_); rintro e w16 ⟨rfl, k16⟩; (try replace P1 := Lib.hid (P1.out.kpt k16)); (try replace T3 := Lib.hid (T3.out.kpt k16)); (try replace S4 := Lib.hid (S4.out.kpt k16)); (try replace P5 := Lib.hid (P5.out.kpt k16)); (try replace TU := Lib.hid (TU.out.kpt k16)); (try replace S9 := Lib.hid (S9.out.kpt k16)); replace G := Lib.hid (ktr G.out k16); clear k16))
    go_ret
    exact ⟨rfl, G.out⟩

set_option maxRecDepth 100000 in
set_option maxHeartbeats 8000000 in
theorem bookTells_P2C2 (v t : Value) (a u : Int) (b l : List (Int × Int × Int)) (w : World) (hb : ReadsP w v b) (hl : ReadsP w t l) (hp : linE b = 0 ∧ ¬ a < 0 ∧ 100 < a) (hc : chkE l ≠ 0 ∧ 0 < l.length) : Calls Try.prog 3 #[v, t, .int .i64 a, .int .i64 u] w fun e w' => e = .returned (.bool true) ∧ Kpt w w' := by
  obtain ⟨R, E, hpost⟩ := postRes_ex b l
  have PO := Lib.hid (fun w hb hl => post_twin v t b l R E w hb hl hpost)
  have RPO := Lib.hid (fun w hb hl => rpost_twin v t b l R E w hb hl hpost)
  have TR := Lib.hid (fun w hb => trial_twin v b w hb)
  have RTR := Lib.hid (fun w hb => rtrial_twin v b w hb)
  have TN := Lib.hid (fun w hl => turn_twin t l w hl)
  have CK := Lib.hid (fun w hl => bookCheck_any t l w hl)
  have RCK := Lib.hid (fun w hl => rchk_any t l w hl)
  have RB := Lib.hid hb; have RL := Lib.hid hl
  have hlen := hl.len
  unfold maxLen at hlen
  have G := Lib.hid (Kpt.refl w)
  obtain ⟨hp, g1, g2⟩ := hp
  have g3 : decide (a < 0) = false := decide_eq_false g1
  have hpl : plB a u = false := decide_eq_false (by omega)
  have LB := Lib.hid (fun w hr => lines_is v b w hr hp)
  have RLB := Lib.hid (fun w hr => (hp ▸ rlines_any v b w hr : Calls Try.prog 15 #[v] w fun e w' => e = .returned (.int .i64 0) ∧ Kpt w w'))
  have BAL := Lib.hid (fun w hr => bal_out v b a u w hr hp hpl)
  clear hp hpl
  obtain ⟨hc, l0⟩ := hc
  have TT := Lib.hid (turnR_e hc)
  have cq : (chkE l == 0) = false := beq_eq_false_iff_ne.2 hc
  obtain ⟨al, cl, rfl, -, -, -, hcc⟩ := id hl
  clear hc hcc hb hl hpost
  generalize chkE l = CE at *
  have li : (0 : Int) ≤ (l.length : Int) - 1 := by omega
  have lj : (1 : Int) ≤ (l.length : Int) := by omega
  go_enter Try.func3, Try.ntmps3
  go_wp2_with (first
    | (go_at_call 10; (with_reducible refine (PO.out _ RB.out RL.out).mono ?_); rintro e w1 ⟨k1, a1, n1, c1, rfl, P1⟩; (try replace P1 := Lib.hid (P1.out.kpt k1.out)); (try replace T3 := Lib.hid (T3.out.kpt k1.out)); (try replace S4 := Lib.hid (S4.out.kpt k1.out)); (try replace P5 := Lib.hid (P5.out.kpt k1.out)); (try replace TU := Lib.hid (TU.out.kpt k1.out)); (try replace S9 := Lib.hid (S9.out.kpt k1.out)); replace G := Lib.hid (ktr G.out k1.out); clear k1)
    | (go_at_call 11; (with_reducible refine (BAL.out _ (RB.out.kpt G.out)).mono ?_); rintro e w2 ⟨rfl, k2⟩; (try replace P1 := Lib.hid (P1.out.kpt k2)); (try replace T3 := Lib.hid (T3.out.kpt k2)); (try replace S4 := Lib.hid (S4.out.kpt k2)); (try replace P5 := Lib.hid (P5.out.kpt k2)); (try replace TU := Lib.hid (TU.out.kpt k2)); (try replace S9 := Lib.hid (S9.out.kpt k2)); replace G := Lib.hid (ktr G.out k2); clear k2)
    | (go_at_call 12; (with_reducible refine (TN.out _ (RL.out.kpt G.out)).mono ?_); rintro e w3 ⟨a3, n3, c3, rfl, T3', k3⟩; (try replace P1 := Lib.hid (P1.out.kpt k3.out)); (try replace T3 := Lib.hid (T3.out.kpt k3.out)); (try replace S4 := Lib.hid (S4.out.kpt k3.out)); (try replace P5 := Lib.hid (P5.out.kpt k3.out)); (try replace TU := Lib.hid (TU.out.kpt k3.out)); (try replace S9 := Lib.hid (S9.out.kpt k3.out)); replace G := Lib.hid (ktr G.out k3.out); have T3 := T3'; clear k3 T3')
    | (go_at_call 13; (with_reducible refine (TR.out _ (RB.out.kpt G.out)).mono ?_); rintro e w4 ⟨k4, v4, rfl, S4'⟩; (try replace P1 := Lib.hid (P1.out.kpt k4.out)); (try replace T3 := Lib.hid (T3.out.kpt k4.out)); (try replace S4 := Lib.hid (S4.out.kpt k4.out)); (try replace P5 := Lib.hid (P5.out.kpt k4.out)); (try replace TU := Lib.hid (TU.out.kpt k4.out)); (try replace S9 := Lib.hid (S9.out.kpt k4.out)); replace G := Lib.hid (ktr G.out k4.out); have S4 := S4'; clear k4 S4')
    | (go_at_call 14; (with_reducible refine (RPO.out _ (RB.out.kpt G.out) (RL.out.kpt G.out)).mono ?_); rintro e w5 ⟨k5, a5, n5, c5, rfl, P5'⟩; (try replace P1 := Lib.hid (P1.out.kpt k5.out)); (try replace T3 := Lib.hid (T3.out.kpt k5.out)); (try replace S4 := Lib.hid (S4.out.kpt k5.out)); (try replace P5 := Lib.hid (P5.out.kpt k5.out)); (try replace TU := Lib.hid (TU.out.kpt k5.out)); (try replace S9 := Lib.hid (S9.out.kpt k5.out)); replace G := Lib.hid (ktr G.out k5.out); have P5 := P5'; clear k5 P5')
    | (go_at_call 15; (with_reducible refine (RLB.out _ (RB.out.kpt G.out)).mono ?_); rintro e w6 ⟨rfl, k6⟩; (try replace P1 := Lib.hid (P1.out.kpt k6)); (try replace T3 := Lib.hid (T3.out.kpt k6)); (try replace S4 := Lib.hid (S4.out.kpt k6)); (try replace P5 := Lib.hid (P5.out.kpt k6)); (try replace TU := Lib.hid (TU.out.kpt k6)); (try replace S9 := Lib.hid (S9.out.kpt k6)); replace G := Lib.hid (ktr G.out k6); clear k6)
    | (go_at_call 17; (with_reducible refine (RCK.out _ (RL.out.kpt G.out)).mono ?_); rintro e w8 ⟨rfl, k8⟩; (try replace P1 := Lib.hid (P1.out.kpt k8)); (try replace T3 := Lib.hid (T3.out.kpt k8)); (try replace S4 := Lib.hid (S4.out.kpt k8)); (try replace P5 := Lib.hid (P5.out.kpt k8)); (try replace TU := Lib.hid (TU.out.kpt k8)); (try replace S9 := Lib.hid (S9.out.kpt k8)); replace G := Lib.hid (ktr G.out k8); clear k8))
  have TU : Hid (ReadsP w8 (.slice none 0 0) (turnR l)) := by unfold Hid; rw [TT.out]; exact readsP_nil _ _ _ fun _ => rfl
  go_loopw [22, 23] (fun m i wr => m = .slice none 0 0 ∧ i = .int .i64 ((l.length : Int) - 1) ∧ Hid (Kpt w8 wr)) (fun _ _ _ => 0)
  case atStart => exact ⟨rfl, rfl, Kpt.refl _⟩
  case round =>
    obtain ⟨rfl, rfl, HJ⟩ := hrel
    (try replace P1 := Lib.hid (P1.out.kpt HJ.out))
    (try replace T3 := Lib.hid (T3.out.kpt HJ.out))
    (try replace S4 := Lib.hid (S4.out.kpt HJ.out))
    (try replace P5 := Lib.hid (P5.out.kpt HJ.out))
    (try replace TU := Lib.hid (TU.out.kpt HJ.out))
    replace G := Lib.hid (ktr G.out HJ.out)
    clear HJ
    go_wp2_with (first
      | (go_at_call 18; (with_reducible refine (RTR.out _ (RB.out.kpt G.out)).mono ?_); rintro e w9 ⟨k9, v9, rfl, S9'⟩; (try replace P1 := Lib.hid (P1.out.kpt k9.out)); (try replace T3 := Lib.hid (T3.out.kpt k9.out)); (try replace S4 := Lib.hid (S4.out.kpt k9.out)); (try replace P5 := Lib.hid (P5.out.kpt k9.out)); (try replace TU := Lib.hid (TU.out.kpt k9.out)); (try replace S9 := Lib.hid (S9.out.kpt k9.out)); replace G := Lib.hid (ktr G.out k9.out); have S9 := S9'; clear k9 S9')
      | (go_at_call 19; (with_reducible refine (bookBegun _).mono ?_); rintro e w10 ⟨rfl, k10⟩; (try replace P1 := Lib.hid (P1.out.kpt k10)); (try replace T3 := Lib.hid (T3.out.kpt k10)); (try replace S4 := Lib.hid (S4.out.kpt k10)); (try replace P5 := Lib.hid (P5.out.kpt k10)); (try replace TU := Lib.hid (TU.out.kpt k10)); (try replace S9 := Lib.hid (S9.out.kpt k10)); replace G := Lib.hid (ktr G.out k10); clear k10)
      | (go_at_call 20; (with_reducible refine (CK.out _ (RL.out.kpt G.out)).mono ?_); rintro e w11 ⟨rfl, k11⟩; (try replace P1 := Lib.hid (P1.out.kpt k11.kpt)); (try replace T3 := Lib.hid (T3.out.kpt k11.kpt)); (try replace S4 := Lib.hid (S4.out.kpt k11.kpt)); (try replace P5 := Lib.hid (P5.out.kpt k11.kpt)); (try replace TU := Lib.hid (TU.out.kpt k11.kpt)); (try replace S9 := Lib.hid (S9.out.kpt k11.kpt)); replace G := Lib.hid (ktr G.out k11.kpt); clear k11)
      | (go_at_call 21; (with_reducible refine (LB.out _ (RB.out.kpt G.out)).mono ?_); rintro e w12 ⟨rfl, k12⟩; (try replace P1 := Lib.hid (P1.out.kpt k12)); (try replace T3 := Lib.hid (T3.out.kpt k12)); (try replace S4 := Lib.hid (S4.out.kpt k12)); (try replace P5 := Lib.hid (P5.out.kpt k12)); (try replace TU := Lib.hid (TU.out.kpt k12)); (try replace S9 := Lib.hid (S9.out.kpt k12)); replace G := Lib.hid (ktr G.out k12); clear k12)
      | (go_at_call 15; (with_reducible refine (RLB.out _ (RB.out.kpt G.out)).mono ?_); rintro e w13 ⟨rfl, k13⟩; (try replace P1 := Lib.hid (P1.out.kpt k13)); (try replace T3 := Lib.hid (T3.out.kpt k13)); (try replace S4 := Lib.hid (S4.out.kpt k13)); (try replace P5 := Lib.hid (P5.out.kpt k13)); (try replace TU := Lib.hid (TU.out.kpt k13)); (try replace S9 := Lib.hid (S9.out.kpt k13)); replace G := Lib.hid (ktr G.out k13); clear k13)
      | (go_at_call 22; (with_reducible refine (same_any _ _ R _ P1.out P5.out).mono ?_); rintro e w14 ⟨rfl, k14⟩; clear P1 P5; (try replace P1 := Lib.hid (P1.out.kpt k14)); (try replace T3 := Lib.hid (T3.out.kpt k14)); (try replace S4 := Lib.hid (S4.out.kpt k14)); (try replace P5 := Lib.hid (P5.out.kpt k14)); (try replace TU := Lib.hid (TU.out.kpt k14)); (try replace S9 := Lib.hid (S9.out.kpt k14)); replace G := Lib.hid (ktr G.out k14); clear k14)
      | (go_at_call 22; (with_reducible refine (same_any _ _ (turnR l) _ T3.out TU.out).mono ?_); rintro e w15 ⟨rfl, k15⟩; (try replace P1 := Lib.hid (P1.out.kpt k15)); (try replace T3 := Lib.hid (T3.out.kpt k15)); (try replace S4 := Lib.hid (S4.out.kpt k15)); (try replace P5 := Lib.hid (P5.out.kpt k15)); (try replace TU := Lib.hid (TU.out.kpt k15)); (try replace S9 := Lib.hid (S9.out.kpt k15)); replace G := Lib.hid (ktr G.out k15); clear k15)
      | (go_at_call 23; (with_reducible refine (sameI_run _ _ (triR b) _ S4.out S9.out).mono ?_); rintro e w16 ⟨rfl, k16⟩; (try replace P1 := Lib.hid (P1.out.kpt k16)); (try replace T3 := Lib.hid (T3.out.kpt k16)); (try replace S4 := Lib.hid (S4.out.kpt k16)); (try replace P5 := Lib.hid (P5.out.kpt k16)); (try replace TU := Lib.hid (TU.out.kpt k16)); (try replace S9 := Lib.hid (S9.out.kpt k16)); replace G := Lib.hid (ktr G.out k16); clear k16))
    go_ret
    exact ⟨rfl, G.out⟩

set_option maxRecDepth 100000 in
set_option maxHeartbeats 8000000 in
theorem bookTells_P3C2 (v t : Value) (a u : Int) (b l : List (Int × Int × Int)) (w : World) (hb : ReadsP w v b) (hl : ReadsP w t l) (hp : linE b = 0 ∧ ¬ a < 0 ∧ ¬ 100 < a ∧ u < 0) (hc : chkE l ≠ 0 ∧ 0 < l.length) : Calls Try.prog 3 #[v, t, .int .i64 a, .int .i64 u] w fun e w' => e = .returned (.bool true) ∧ Kpt w w' := by
  obtain ⟨R, E, hpost⟩ := postRes_ex b l
  have PO := Lib.hid (fun w hb hl => post_twin v t b l R E w hb hl hpost)
  have RPO := Lib.hid (fun w hb hl => rpost_twin v t b l R E w hb hl hpost)
  have TR := Lib.hid (fun w hb => trial_twin v b w hb)
  have RTR := Lib.hid (fun w hb => rtrial_twin v b w hb)
  have TN := Lib.hid (fun w hl => turn_twin t l w hl)
  have CK := Lib.hid (fun w hl => bookCheck_any t l w hl)
  have RCK := Lib.hid (fun w hl => rchk_any t l w hl)
  have RB := Lib.hid hb; have RL := Lib.hid hl
  have hlen := hl.len
  unfold maxLen at hlen
  have G := Lib.hid (Kpt.refl w)
  obtain ⟨hp, g1, g2, g5⟩ := hp
  have g3 : decide (a < 0) = false := decide_eq_false g1
  have g4 : decide (100 < a) = false := decide_eq_false g2
  have hpl : plB a u = false := decide_eq_false (by omega)
  have LB := Lib.hid (fun w hr => lines_is v b w hr hp)
  have RLB := Lib.hid (fun w hr => (hp ▸ rlines_any v b w hr : Calls Try.prog 15 #[v] w fun e w' => e = .returned (.int .i64 0) ∧ Kpt w w'))
  have BAL := Lib.hid (fun w hr => bal_out v b a u w hr hp hpl)
  clear hp hpl
  obtain ⟨hc, l0⟩ := hc
  have TT := Lib.hid (turnR_e hc)
  have cq : (chkE l == 0) = false := beq_eq_false_iff_ne.2 hc
  obtain ⟨al, cl, rfl, -, -, -, hcc⟩ := id hl
  clear hc hcc hb hl hpost
  generalize chkE l = CE at *
  have li : (0 : Int) ≤ (l.length : Int) - 1 := by omega
  have lj : (1 : Int) ≤ (l.length : Int) := by omega
  go_enter Try.func3, Try.ntmps3
  go_wp2_with (first
    | (go_at_call 10; (with_reducible refine (PO.out _ RB.out RL.out).mono ?_); rintro e w1 ⟨k1, a1, n1, c1, rfl, P1⟩; (try replace P1 := Lib.hid (P1.out.kpt k1.out)); (try replace T3 := Lib.hid (T3.out.kpt k1.out)); (try replace S4 := Lib.hid (S4.out.kpt k1.out)); (try replace P5 := Lib.hid (P5.out.kpt k1.out)); (try replace TU := Lib.hid (TU.out.kpt k1.out)); (try replace S9 := Lib.hid (S9.out.kpt k1.out)); replace G := Lib.hid (ktr G.out k1.out); clear k1)
    | (go_at_call 11; (with_reducible refine (BAL.out _ (RB.out.kpt G.out)).mono ?_); rintro e w2 ⟨rfl, k2⟩; (try replace P1 := Lib.hid (P1.out.kpt k2)); (try replace T3 := Lib.hid (T3.out.kpt k2)); (try replace S4 := Lib.hid (S4.out.kpt k2)); (try replace P5 := Lib.hid (P5.out.kpt k2)); (try replace TU := Lib.hid (TU.out.kpt k2)); (try replace S9 := Lib.hid (S9.out.kpt k2)); replace G := Lib.hid (ktr G.out k2); clear k2)
    | (go_at_call 12; (with_reducible refine (TN.out _ (RL.out.kpt G.out)).mono ?_); rintro e w3 ⟨a3, n3, c3, rfl, T3', k3⟩; (try replace P1 := Lib.hid (P1.out.kpt k3.out)); (try replace T3 := Lib.hid (T3.out.kpt k3.out)); (try replace S4 := Lib.hid (S4.out.kpt k3.out)); (try replace P5 := Lib.hid (P5.out.kpt k3.out)); (try replace TU := Lib.hid (TU.out.kpt k3.out)); (try replace S9 := Lib.hid (S9.out.kpt k3.out)); replace G := Lib.hid (ktr G.out k3.out); have T3 := T3'; clear k3 T3')
    | (go_at_call 13; (with_reducible refine (TR.out _ (RB.out.kpt G.out)).mono ?_); rintro e w4 ⟨k4, v4, rfl, S4'⟩; (try replace P1 := Lib.hid (P1.out.kpt k4.out)); (try replace T3 := Lib.hid (T3.out.kpt k4.out)); (try replace S4 := Lib.hid (S4.out.kpt k4.out)); (try replace P5 := Lib.hid (P5.out.kpt k4.out)); (try replace TU := Lib.hid (TU.out.kpt k4.out)); (try replace S9 := Lib.hid (S9.out.kpt k4.out)); replace G := Lib.hid (ktr G.out k4.out); have S4 := S4'; clear k4 S4')
    | (go_at_call 14; (with_reducible refine (RPO.out _ (RB.out.kpt G.out) (RL.out.kpt G.out)).mono ?_); rintro e w5 ⟨k5, a5, n5, c5, rfl, P5'⟩; (try replace P1 := Lib.hid (P1.out.kpt k5.out)); (try replace T3 := Lib.hid (T3.out.kpt k5.out)); (try replace S4 := Lib.hid (S4.out.kpt k5.out)); (try replace P5 := Lib.hid (P5.out.kpt k5.out)); (try replace TU := Lib.hid (TU.out.kpt k5.out)); (try replace S9 := Lib.hid (S9.out.kpt k5.out)); replace G := Lib.hid (ktr G.out k5.out); have P5 := P5'; clear k5 P5')
    | (go_at_call 15; (with_reducible refine (RLB.out _ (RB.out.kpt G.out)).mono ?_); rintro e w6 ⟨rfl, k6⟩; (try replace P1 := Lib.hid (P1.out.kpt k6)); (try replace T3 := Lib.hid (T3.out.kpt k6)); (try replace S4 := Lib.hid (S4.out.kpt k6)); (try replace P5 := Lib.hid (P5.out.kpt k6)); (try replace TU := Lib.hid (TU.out.kpt k6)); (try replace S9 := Lib.hid (S9.out.kpt k6)); replace G := Lib.hid (ktr G.out k6); clear k6)
    | (go_at_call 17; (with_reducible refine (RCK.out _ (RL.out.kpt G.out)).mono ?_); rintro e w8 ⟨rfl, k8⟩; (try replace P1 := Lib.hid (P1.out.kpt k8)); (try replace T3 := Lib.hid (T3.out.kpt k8)); (try replace S4 := Lib.hid (S4.out.kpt k8)); (try replace P5 := Lib.hid (P5.out.kpt k8)); (try replace TU := Lib.hid (TU.out.kpt k8)); (try replace S9 := Lib.hid (S9.out.kpt k8)); replace G := Lib.hid (ktr G.out k8); clear k8))
  have TU : Hid (ReadsP w8 (.slice none 0 0) (turnR l)) := by unfold Hid; rw [TT.out]; exact readsP_nil _ _ _ fun _ => rfl
  go_loopw [22, 23] (fun m i wr => m = .slice none 0 0 ∧ i = .int .i64 ((l.length : Int) - 1) ∧ Hid (Kpt w8 wr)) (fun _ _ _ => 0)
  case atStart => exact ⟨rfl, rfl, Kpt.refl _⟩
  case round =>
    obtain ⟨rfl, rfl, HJ⟩ := hrel
    (try replace P1 := Lib.hid (P1.out.kpt HJ.out))
    (try replace T3 := Lib.hid (T3.out.kpt HJ.out))
    (try replace S4 := Lib.hid (S4.out.kpt HJ.out))
    (try replace P5 := Lib.hid (P5.out.kpt HJ.out))
    (try replace TU := Lib.hid (TU.out.kpt HJ.out))
    replace G := Lib.hid (ktr G.out HJ.out)
    clear HJ
    go_wp2_with (first
      | (go_at_call 18; (with_reducible refine (RTR.out _ (RB.out.kpt G.out)).mono ?_); rintro e w9 ⟨k9, v9, rfl, S9'⟩; (try replace P1 := Lib.hid (P1.out.kpt k9.out)); (try replace T3 := Lib.hid (T3.out.kpt k9.out)); (try replace S4 := Lib.hid (S4.out.kpt k9.out)); (try replace P5 := Lib.hid (P5.out.kpt k9.out)); (try replace TU := Lib.hid (TU.out.kpt k9.out)); (try replace S9 := Lib.hid (S9.out.kpt k9.out)); replace G := Lib.hid (ktr G.out k9.out); have S9 := S9'; clear k9 S9')
      | (go_at_call 19; (with_reducible refine (bookBegun _).mono ?_); rintro e w10 ⟨rfl, k10⟩; (try replace P1 := Lib.hid (P1.out.kpt k10)); (try replace T3 := Lib.hid (T3.out.kpt k10)); (try replace S4 := Lib.hid (S4.out.kpt k10)); (try replace P5 := Lib.hid (P5.out.kpt k10)); (try replace TU := Lib.hid (TU.out.kpt k10)); (try replace S9 := Lib.hid (S9.out.kpt k10)); replace G := Lib.hid (ktr G.out k10); clear k10)
      | (go_at_call 20; (with_reducible refine (CK.out _ (RL.out.kpt G.out)).mono ?_); rintro e w11 ⟨rfl, k11⟩; (try replace P1 := Lib.hid (P1.out.kpt k11.kpt)); (try replace T3 := Lib.hid (T3.out.kpt k11.kpt)); (try replace S4 := Lib.hid (S4.out.kpt k11.kpt)); (try replace P5 := Lib.hid (P5.out.kpt k11.kpt)); (try replace TU := Lib.hid (TU.out.kpt k11.kpt)); (try replace S9 := Lib.hid (S9.out.kpt k11.kpt)); replace G := Lib.hid (ktr G.out k11.kpt); clear k11)
      | (go_at_call 21; (with_reducible refine (LB.out _ (RB.out.kpt G.out)).mono ?_); rintro e w12 ⟨rfl, k12⟩; (try replace P1 := Lib.hid (P1.out.kpt k12)); (try replace T3 := Lib.hid (T3.out.kpt k12)); (try replace S4 := Lib.hid (S4.out.kpt k12)); (try replace P5 := Lib.hid (P5.out.kpt k12)); (try replace TU := Lib.hid (TU.out.kpt k12)); (try replace S9 := Lib.hid (S9.out.kpt k12)); replace G := Lib.hid (ktr G.out k12); clear k12)
      | (go_at_call 15; (with_reducible refine (RLB.out _ (RB.out.kpt G.out)).mono ?_); rintro e w13 ⟨rfl, k13⟩; (try replace P1 := Lib.hid (P1.out.kpt k13)); (try replace T3 := Lib.hid (T3.out.kpt k13)); (try replace S4 := Lib.hid (S4.out.kpt k13)); (try replace P5 := Lib.hid (P5.out.kpt k13)); (try replace TU := Lib.hid (TU.out.kpt k13)); (try replace S9 := Lib.hid (S9.out.kpt k13)); replace G := Lib.hid (ktr G.out k13); clear k13)
      | (go_at_call 22; (with_reducible refine (same_any _ _ R _ P1.out P5.out).mono ?_); rintro e w14 ⟨rfl, k14⟩; clear P1 P5; (try replace P1 := Lib.hid (P1.out.kpt k14)); (try replace T3 := Lib.hid (T3.out.kpt k14)); (try replace S4 := Lib.hid (S4.out.kpt k14)); (try replace P5 := Lib.hid (P5.out.kpt k14)); (try replace TU := Lib.hid (TU.out.kpt k14)); (try replace S9 := Lib.hid (S9.out.kpt k14)); replace G := Lib.hid (ktr G.out k14); clear k14)
      | (go_at_call 22; (with_reducible refine (same_any _ _ (turnR l) _ T3.out TU.out).mono ?_); rintro e w15 ⟨rfl, k15⟩; (try replace P1 := Lib.hid (P1.out.kpt k15)); (try replace T3 := Lib.hid (T3.out.kpt k15)); (try replace S4 := Lib.hid (S4.out.kpt k15)); (try replace P5 := Lib.hid (P5.out.kpt k15)); (try replace TU := Lib.hid (TU.out.kpt k15)); (try replace S9 := Lib.hid (S9.out.kpt k15)); replace G := Lib.hid (ktr G.out k15); clear k15)
      | (go_at_call 23; (with_reducible refine (sameI_run _ _ (triR b) _ S4.out S9.out).mono ?_); rintro e w16 ⟨rfl, k16⟩; (try replace P1 := Lib.hid (P1.out.kpt k16)); (try replace T3 := Lib.hid (T3.out.kpt k16)); (try replace S4 := Lib.hid (S4.out.kpt k16)); (try replace P5 := Lib.hid (P5.out.kpt k16)); (try replace TU := Lib.hid (TU.out.kpt k16)); (try replace S9 := Lib.hid (S9.out.kpt k16)); replace G := Lib.hid (ktr G.out k16); clear k16))
    go_ret
    exact ⟨rfl, G.out⟩

set_option maxRecDepth 100000 in
set_option maxHeartbeats 8000000 in
theorem bookTells_P4C2 (v t : Value) (a u : Int) (b l : List (Int × Int × Int)) (w : World) (hb : ReadsP w v b) (hl : ReadsP w t l) (hp : linE b = 0 ∧ ¬ a < 0 ∧ ¬ 100 < a ∧ ¬ u < 0 ∧ 20 < u) (hc : chkE l ≠ 0 ∧ 0 < l.length) : Calls Try.prog 3 #[v, t, .int .i64 a, .int .i64 u] w fun e w' => e = .returned (.bool true) ∧ Kpt w w' := by
  obtain ⟨R, E, hpost⟩ := postRes_ex b l
  have PO := Lib.hid (fun w hb hl => post_twin v t b l R E w hb hl hpost)
  have RPO := Lib.hid (fun w hb hl => rpost_twin v t b l R E w hb hl hpost)
  have TR := Lib.hid (fun w hb => trial_twin v b w hb)
  have RTR := Lib.hid (fun w hb => rtrial_twin v b w hb)
  have TN := Lib.hid (fun w hl => turn_twin t l w hl)
  have CK := Lib.hid (fun w hl => bookCheck_any t l w hl)
  have RCK := Lib.hid (fun w hl => rchk_any t l w hl)
  have RB := Lib.hid hb; have RL := Lib.hid hl
  have hlen := hl.len
  unfold maxLen at hlen
  have G := Lib.hid (Kpt.refl w)
  obtain ⟨hp, g1, g2, g5, g6⟩ := hp
  have g3 : decide (a < 0) = false := decide_eq_false g1
  have g4 : decide (100 < a) = false := decide_eq_false g2
  have g7 : decide (u < 0) = false := decide_eq_false g5
  have hpl : plB a u = false := decide_eq_false (by omega)
  have LB := Lib.hid (fun w hr => lines_is v b w hr hp)
  have RLB := Lib.hid (fun w hr => (hp ▸ rlines_any v b w hr : Calls Try.prog 15 #[v] w fun e w' => e = .returned (.int .i64 0) ∧ Kpt w w'))
  have BAL := Lib.hid (fun w hr => bal_out v b a u w hr hp hpl)
  clear hp hpl
  obtain ⟨hc, l0⟩ := hc
  have TT := Lib.hid (turnR_e hc)
  have cq : (chkE l == 0) = false := beq_eq_false_iff_ne.2 hc
  obtain ⟨al, cl, rfl, -, -, -, hcc⟩ := id hl
  clear hc hcc hb hl hpost
  generalize chkE l = CE at *
  have li : (0 : Int) ≤ (l.length : Int) - 1 := by omega
  have lj : (1 : Int) ≤ (l.length : Int) := by omega
  go_enter Try.func3, Try.ntmps3
  go_wp2_with (first
    | (go_at_call 10; (with_reducible refine (PO.out _ RB.out RL.out).mono ?_); rintro e w1 ⟨k1, a1, n1, c1, rfl, P1⟩; (try replace P1 := Lib.hid (P1.out.kpt k1.out)); (try replace T3 := Lib.hid (T3.out.kpt k1.out)); (try replace S4 := Lib.hid (S4.out.kpt k1.out)); (try replace P5 := Lib.hid (P5.out.kpt k1.out)); (try replace TU := Lib.hid (TU.out.kpt k1.out)); (try replace S9 := Lib.hid (S9.out.kpt k1.out)); replace G := Lib.hid (ktr G.out k1.out); clear k1)
    | (go_at_call 11; (with_reducible refine (BAL.out _ (RB.out.kpt G.out)).mono ?_); rintro e w2 ⟨rfl, k2⟩; (try replace P1 := Lib.hid (P1.out.kpt k2)); (try replace T3 := Lib.hid (T3.out.kpt k2)); (try replace S4 := Lib.hid (S4.out.kpt k2)); (try replace P5 := Lib.hid (P5.out.kpt k2)); (try replace TU := Lib.hid (TU.out.kpt k2)); (try replace S9 := Lib.hid (S9.out.kpt k2)); replace G := Lib.hid (ktr G.out k2); clear k2)
    | (go_at_call 12; (with_reducible refine (TN.out _ (RL.out.kpt G.out)).mono ?_); rintro e w3 ⟨a3, n3, c3, rfl, T3', k3⟩; (try replace P1 := Lib.hid (P1.out.kpt k3.out)); (try replace T3 := Lib.hid (T3.out.kpt k3.out)); (try replace S4 := Lib.hid (S4.out.kpt k3.out)); (try replace P5 := Lib.hid (P5.out.kpt k3.out)); (try replace TU := Lib.hid (TU.out.kpt k3.out)); (try replace S9 := Lib.hid (S9.out.kpt k3.out)); replace G := Lib.hid (ktr G.out k3.out); have T3 := T3'; clear k3 T3')
    | (go_at_call 13; (with_reducible refine (TR.out _ (RB.out.kpt G.out)).mono ?_); rintro e w4 ⟨k4, v4, rfl, S4'⟩; (try replace P1 := Lib.hid (P1.out.kpt k4.out)); (try replace T3 := Lib.hid (T3.out.kpt k4.out)); (try replace S4 := Lib.hid (S4.out.kpt k4.out)); (try replace P5 := Lib.hid (P5.out.kpt k4.out)); (try replace TU := Lib.hid (TU.out.kpt k4.out)); (try replace S9 := Lib.hid (S9.out.kpt k4.out)); replace G := Lib.hid (ktr G.out k4.out); have S4 := S4'; clear k4 S4')
    | (go_at_call 14; (with_reducible refine (RPO.out _ (RB.out.kpt G.out) (RL.out.kpt G.out)).mono ?_); rintro e w5 ⟨k5, a5, n5, c5, rfl, P5'⟩; (try replace P1 := Lib.hid (P1.out.kpt k5.out)); (try replace T3 := Lib.hid (T3.out.kpt k5.out)); (try replace S4 := Lib.hid (S4.out.kpt k5.out)); (try replace P5 := Lib.hid (P5.out.kpt k5.out)); (try replace TU := Lib.hid (TU.out.kpt k5.out)); (try replace S9 := Lib.hid (S9.out.kpt k5.out)); replace G := Lib.hid (ktr G.out k5.out); have P5 := P5'; clear k5 P5')
    | (go_at_call 15; (with_reducible refine (RLB.out _ (RB.out.kpt G.out)).mono ?_); rintro e w6 ⟨rfl, k6⟩; (try replace P1 := Lib.hid (P1.out.kpt k6)); (try replace T3 := Lib.hid (T3.out.kpt k6)); (try replace S4 := Lib.hid (S4.out.kpt k6)); (try replace P5 := Lib.hid (P5.out.kpt k6)); (try replace TU := Lib.hid (TU.out.kpt k6)); (try replace S9 := Lib.hid (S9.out.kpt k6)); replace G := Lib.hid (ktr G.out k6); clear k6)
    | (go_at_call 17; (with_reducible refine (RCK.out _ (RL.out.kpt G.out)).mono ?_); rintro e w8 ⟨rfl, k8⟩; (try replace P1 := Lib.hid (P1.out.kpt k8)); (try replace T3 := Lib.hid (T3.out.kpt k8)); (try replace S4 := Lib.hid (S4.out.kpt k8)); (try replace P5 := Lib.hid (P5.out.kpt k8)); (try replace TU := Lib.hid (TU.out.kpt k8)); (try replace S9 := Lib.hid (S9.out.kpt k8)); replace G := Lib.hid (ktr G.out k8); clear k8))
  have TU : Hid (ReadsP w8 (.slice none 0 0) (turnR l)) := by unfold Hid; rw [TT.out]; exact readsP_nil _ _ _ fun _ => rfl
  go_loopw [22, 23] (fun m i wr => m = .slice none 0 0 ∧ i = .int .i64 ((l.length : Int) - 1) ∧ Hid (Kpt w8 wr)) (fun _ _ _ => 0)
  case atStart => exact ⟨rfl, rfl, Kpt.refl _⟩
  case round =>
    obtain ⟨rfl, rfl, HJ⟩ := hrel
    (try replace P1 := Lib.hid (P1.out.kpt HJ.out))
    (try replace T3 := Lib.hid (T3.out.kpt HJ.out))
    (try replace S4 := Lib.hid (S4.out.kpt HJ.out))
    (try replace P5 := Lib.hid (P5.out.kpt HJ.out))
    (try replace TU := Lib.hid (TU.out.kpt HJ.out))
    replace G := Lib.hid (ktr G.out HJ.out)
    clear HJ
    go_wp2_with (first
      | (go_at_call 18; (with_reducible refine (RTR.out _ (RB.out.kpt G.out)).mono ?_); rintro e w9 ⟨k9, v9, rfl, S9'⟩; (try replace P1 := Lib.hid (P1.out.kpt k9.out)); (try replace T3 := Lib.hid (T3.out.kpt k9.out)); (try replace S4 := Lib.hid (S4.out.kpt k9.out)); (try replace P5 := Lib.hid (P5.out.kpt k9.out)); (try replace TU := Lib.hid (TU.out.kpt k9.out)); (try replace S9 := Lib.hid (S9.out.kpt k9.out)); replace G := Lib.hid (ktr G.out k9.out); have S9 := S9'; clear k9 S9')
      | (go_at_call 19; (with_reducible refine (bookBegun _).mono ?_); rintro e w10 ⟨rfl, k10⟩; (try replace P1 := Lib.hid (P1.out.kpt k10)); (try replace T3 := Lib.hid (T3.out.kpt k10)); (try replace S4 := Lib.hid (S4.out.kpt k10)); (try replace P5 := Lib.hid (P5.out.kpt k10)); (try replace TU := Lib.hid (TU.out.kpt k10)); (try replace S9 := Lib.hid (S9.out.kpt k10)); replace G := Lib.hid (ktr G.out k10); clear k10)
      | (go_at_call 20; (with_reducible refine (CK.out _ (RL.out.kpt G.out)).mono ?_); rintro e w11 ⟨rfl, k11⟩; (try replace P1 := Lib.hid (P1.out.kpt k11.kpt)); (try replace T3 := Lib.hid (T3.out.kpt k11.kpt)); (try replace S4 := Lib.hid (S4.out.kpt k11.kpt)); (try replace P5 := Lib.hid (P5.out.kpt k11.kpt)); (try replace TU := Lib.hid (TU.out.kpt k11.kpt)); (try replace S9 := Lib.hid (S9.out.kpt k11.kpt)); replace G := Lib.hid (ktr G.out k11.kpt); clear k11)
      | (go_at_call 21; (with_reducible refine (LB.out _ (RB.out.kpt G.out)).mono ?_); rintro e w12 ⟨rfl, k12⟩; (try replace P1 := Lib.hid (P1.out.kpt k12)); (try replace T3 := Lib.hid (T3.out.kpt k12)); (try replace S4 := Lib.hid (S4.out.kpt k12)); (try replace P5 := Lib.hid (P5.out.kpt k12)); (try replace TU := Lib.hid (TU.out.kpt k12)); (try replace S9 := Lib.hid (S9.out.kpt k12)); replace G := Lib.hid (ktr G.out k12); clear k12)
      | (go_at_call 15; (with_reducible refine (RLB.out _ (RB.out.kpt G.out)).mono ?_); rintro e w13 ⟨rfl, k13⟩; (try replace P1 := Lib.hid (P1.out.kpt k13)); (try replace T3 := Lib.hid (T3.out.kpt k13)); (try replace S4 := Lib.hid (S4.out.kpt k13)); (try replace P5 := Lib.hid (P5.out.kpt k13)); (try replace TU := Lib.hid (TU.out.kpt k13)); (try replace S9 := Lib.hid (S9.out.kpt k13)); replace G := Lib.hid (ktr G.out k13); clear k13)
      | (go_at_call 22; (with_reducible refine (same_any _ _ R _ P1.out P5.out).mono ?_); rintro e w14 ⟨rfl, k14⟩; clear P1 P5; (try replace P1 := Lib.hid (P1.out.kpt k14)); (try replace T3 := Lib.hid (T3.out.kpt k14)); (try replace S4 := Lib.hid (S4.out.kpt k14)); (try replace P5 := Lib.hid (P5.out.kpt k14)); (try replace TU := Lib.hid (TU.out.kpt k14)); (try replace S9 := Lib.hid (S9.out.kpt k14)); replace G := Lib.hid (ktr G.out k14); clear k14)
      | (go_at_call 22; (with_reducible refine (same_any _ _ (turnR l) _ T3.out TU.out).mono ?_); rintro e w15 ⟨rfl, k15⟩; (try replace P1 := Lib.hid (P1.out.kpt k15)); (try replace T3 := Lib.hid (T3.out.kpt k15)); (try replace S4 := Lib.hid (S4.out.kpt k15)); (try replace P5 := Lib.hid (P5.out.kpt k15)); (try replace TU := Lib.hid (TU.out.kpt k15)); (try replace S9 := Lib.hid (S9.out.kpt k15)); replace G := Lib.hid (ktr G.out k15); clear k15)
      | (go_at_call 23; (with_reducible refine (sameI_run _ _ (triR b) _ S4.out S9.out).mono ?_); rintro e w16 ⟨rfl, k16⟩; (try replace P1 := Lib.hid (P1.out.kpt k16)); (try replace T3 := Lib.hid (T3.out.kpt k16)); (try replace S4 := Lib.hid (S4.out.kpt k16)); (try replace P5 := Lib.hid (P5.out.kpt k16)); (try replace TU := Lib.hid (TU.out.kpt k16)); (try replace S9 := Lib.hid (S9.out.kpt k16)); replace G := Lib.hid (ktr G.out k16); clear k16))
    go_ret
    exact ⟨rfl, G.out⟩

set_option maxRecDepth 100000 in
set_option maxHeartbeats 8000000 in
theorem bookTells_P5C2 (v t : Value) (a u : Int) (b l : List (Int × Int × Int)) (w : World) (hb : ReadsP w v b) (hl : ReadsP w t l) (hp : linE b = 0 ∧ ¬ a < 0 ∧ ¬ 100 < a ∧ ¬ u < 0 ∧ ¬ 20 < u) (hc : chkE l ≠ 0 ∧ 0 < l.length) : Calls Try.prog 3 #[v, t, .int .i64 a, .int .i64 u] w fun e w' => e = .returned (.bool true) ∧ Kpt w w' := by
  obtain ⟨R, E, hpost⟩ := postRes_ex b l
  have PO := Lib.hid (fun w hb hl => post_twin v t b l R E w hb hl hpost)
  have RPO := Lib.hid (fun w hb hl => rpost_twin v t b l R E w hb hl hpost)
  have TR := Lib.hid (fun w hb => trial_twin v b w hb)
  have RTR := Lib.hid (fun w hb => rtrial_twin v b w hb)
  have TN := Lib.hid (fun w hl => turn_twin t l w hl)
  have CK := Lib.hid (fun w hl => bookCheck_any t l w hl)
  have RCK := Lib.hid (fun w hl => rchk_any t l w hl)
  have RB := Lib.hid hb; have RL := Lib.hid hl
  have hlen := hl.len
  unfold maxLen at hlen
  have G := Lib.hid (Kpt.refl w)
  obtain ⟨hp, g1, g2, g5, g6⟩ := hp
  have g3 : decide (a < 0) = false := decide_eq_false g1
  have g4 : decide (100 < a) = false := decide_eq_false g2
  have g7 : decide (u < 0) = false := decide_eq_false g5
  have g8 : decide (20 < u) = false := decide_eq_false g6
  have hpl : plB a u = true := decide_eq_true (by omega)
  have LB := Lib.hid (fun w hr => lines_is v b w hr hp)
  have RLB := Lib.hid (fun w hr => (hp ▸ rlines_any v b w hr : Calls Try.prog 15 #[v] w fun e w' => e = .returned (.int .i64 0) ∧ Kpt w w'))
  have BAL := Lib.hid (fun w hr => bal_in v b a u w hr hp hpl)
  have RAM := Lib.hid (fun w hr => (bal_sum (lin_0 hp).2.1 a u ▸ ramt_run v b a u w hr : Calls Try.prog 16 #[v, .int .i64 a, .int .i64 u] w fun e w' => e = .returned (.int .i64 (sumAt b a u)) ∧ Kpt w w'))
  clear hp hpl
  generalize sumAt b a u = SA at *
  obtain ⟨hc, l0⟩ := hc
  have TT := Lib.hid (turnR_e hc)
  have cq : (chkE l == 0) = false := beq_eq_false_iff_ne.2 hc
  obtain ⟨al, cl, rfl, -, -, -, hcc⟩ := id hl
  clear hc hcc hb hl hpost
  generalize chkE l = CE at *
  have li : (0 : Int) ≤ (l.length : Int) - 1 := by omega
  have lj : (1 : Int) ≤ (l.length : Int) := by omega
  go_enter Try.func3, Try.ntmps3
  go_wp2_with (first
    | (go_at_call 10; (with_reducible refine (PO.out _ RB.out RL.out).mono ?_); rintro e w1 ⟨k1, a1, n1, c1, rfl, P1⟩; (try replace P1 := Lib.hid (P1.out.kpt k1.out)); (try replace T3 := Lib.hid (T3.out.kpt k1.out)); (try replace S4 := Lib.hid (S4.out.kpt k1.out)); (try replace P5 := Lib.hid (P5.out.kpt k1.out)); (try replace TU := Lib.hid (TU.out.kpt k1.out)); (try replace S9 := Lib.hid (S9.out.kpt k1.out)); replace G := Lib.hid (ktr G.out k1.out); clear k1)
    | (go_at_call 11; (with_reducible refine (BAL.out _ (RB.out.kpt G.out)).mono ?_); rintro e w2 ⟨rfl, k2⟩; (try replace P1 := Lib.hid (P1.out.kpt k2)); (try replace T3 := Lib.hid (T3.out.kpt k2)); (try replace S4 := Lib.hid (S4.out.kpt k2)); (try replace P5 := Lib.hid (P5.out.kpt k2)); (try replace TU := Lib.hid (TU.out.kpt k2)); (try replace S9 := Lib.hid (S9.out.kpt k2)); replace G := Lib.hid (ktr G.out k2); clear k2)
    | (go_at_call 12; (with_reducible refine (TN.out _ (RL.out.kpt G.out)).mono ?_); rintro e w3 ⟨a3, n3, c3, rfl, T3', k3⟩; (try replace P1 := Lib.hid (P1.out.kpt k3.out)); (try replace T3 := Lib.hid (T3.out.kpt k3.out)); (try replace S4 := Lib.hid (S4.out.kpt k3.out)); (try replace P5 := Lib.hid (P5.out.kpt k3.out)); (try replace TU := Lib.hid (TU.out.kpt k3.out)); (try replace S9 := Lib.hid (S9.out.kpt k3.out)); replace G := Lib.hid (ktr G.out k3.out); have T3 := T3'; clear k3 T3')
    | (go_at_call 13; (with_reducible refine (TR.out _ (RB.out.kpt G.out)).mono ?_); rintro e w4 ⟨k4, v4, rfl, S4'⟩; (try replace P1 := Lib.hid (P1.out.kpt k4.out)); (try replace T3 := Lib.hid (T3.out.kpt k4.out)); (try replace S4 := Lib.hid (S4.out.kpt k4.out)); (try replace P5 := Lib.hid (P5.out.kpt k4.out)); (try replace TU := Lib.hid (TU.out.kpt k4.out)); (try replace S9 := Lib.hid (S9.out.kpt k4.out)); replace G := Lib.hid (ktr G.out k4.out); have S4 := S4'; clear k4 S4')
    | (go_at_call 14; (with_reducible refine (RPO.out _ (RB.out.kpt G.out) (RL.out.kpt G.out)).mono ?_); rintro e w5 ⟨k5, a5, n5, c5, rfl, P5'⟩; (try replace P1 := Lib.hid (P1.out.kpt k5.out)); (try replace T3 := Lib.hid (T3.out.kpt k5.out)); (try replace S4 := Lib.hid (S4.out.kpt k5.out)); (try replace P5 := Lib.hid (P5.out.kpt k5.out)); (try replace TU := Lib.hid (TU.out.kpt k5.out)); (try replace S9 := Lib.hid (S9.out.kpt k5.out)); replace G := Lib.hid (ktr G.out k5.out); have P5 := P5'; clear k5 P5')
    | (go_at_call 15; (with_reducible refine (RLB.out _ (RB.out.kpt G.out)).mono ?_); rintro e w6 ⟨rfl, k6⟩; (try replace P1 := Lib.hid (P1.out.kpt k6)); (try replace T3 := Lib.hid (T3.out.kpt k6)); (try replace S4 := Lib.hid (S4.out.kpt k6)); (try replace P5 := Lib.hid (P5.out.kpt k6)); (try replace TU := Lib.hid (TU.out.kpt k6)); (try replace S9 := Lib.hid (S9.out.kpt k6)); replace G := Lib.hid (ktr G.out k6); clear k6)
    | (go_at_call 16; (with_reducible refine (RAM.out _ (RB.out.kpt G.out)).mono ?_); rintro e w7 ⟨rfl, k7⟩; (try replace P1 := Lib.hid (P1.out.kpt k7)); (try replace T3 := Lib.hid (T3.out.kpt k7)); (try replace S4 := Lib.hid (S4.out.kpt k7)); (try replace P5 := Lib.hid (P5.out.kpt k7)); (try replace TU := Lib.hid (TU.out.kpt k7)); (try replace S9 := Lib.hid (S9.out.kpt k7)); replace G := Lib.hid (ktr G.out k7); clear k7)
    | (go_at_call 17; (with_reducible refine (RCK.out _ (RL.out.kpt G.out)).mono ?_); rintro e w8 ⟨rfl, k8⟩; (try replace P1 := Lib.hid (P1.out.kpt k8)); (try replace T3 := Lib.hid (T3.out.kpt k8)); (try replace S4 := Lib.hid (S4.out.kpt k8)); (try replace P5 := Lib.hid (P5.out.kpt k8)); (try replace TU := Lib.hid (TU.out.kpt k8)); (try replace S9 := Lib.hid (S9.out.kpt k8)); replace G := Lib.hid (ktr G.out k8); clear k8))
  have TU : Hid (ReadsP w8 (.slice none 0 0) (turnR l)) := by unfold Hid; rw [TT.out]; exact readsP_nil _ _ _ fun _ => rfl
  go_loopw [22, 23] (fun m i wr => m = .slice none 0 0 ∧ i = .int .i64 ((l.length : Int) - 1) ∧ Hid (Kpt w8 wr)) (fun _ _ _ => 0)
  case atStart => exact ⟨rfl, rfl, Kpt.refl _⟩
  case round =>
    obtain ⟨rfl, rfl, HJ⟩ := hrel
    (try replace P1 := Lib.hid (P1.out.kpt HJ.out))
    (try replace T3 := Lib.hid (T3.out.kpt HJ.out))
    (try replace S4 := Lib.hid (S4.out.kpt HJ.out))
    (try replace P5 := Lib.hid (P5.out.kpt HJ.out))
    (try replace TU := Lib.hid (TU.out.kpt HJ.out))
    replace G := Lib.hid (ktr G.out HJ.out)
    clear HJ
    go_wp2_with (first
      | (go_at_call 18; (with_reducible refine (RTR.out _ (RB.out.kpt G.out)).mono ?_); rintro e w9 ⟨k9, v9, rfl, S9'⟩; (try replace P1 := Lib.hid (P1.out.kpt k9.out)); (try replace T3 := Lib.hid (T3.out.kpt k9.out)); (try replace S4 := Lib.hid (S4.out.kpt k9.out)); (try replace P5 := Lib.hid (P5.out.kpt k9.out)); (try replace TU := Lib.hid (TU.out.kpt k9.out)); (try replace S9 := Lib.hid (S9.out.kpt k9.out)); replace G := Lib.hid (ktr G.out k9.out); have S9 := S9'; clear k9 S9')
      | (go_at_call 19; (with_reducible refine (bookBegun _).mono ?_); rintro e w10 ⟨rfl, k10⟩; (try replace P1 := Lib.hid (P1.out.kpt k10)); (try replace T3 := Lib.hid (T3.out.kpt k10)); (try replace S4 := Lib.hid (S4.out.kpt k10)); (try replace P5 := Lib.hid (P5.out.kpt k10)); (try replace TU := Lib.hid (TU.out.kpt k10)); (try replace S9 := Lib.hid (S9.out.kpt k10)); replace G := Lib.hid (ktr G.out k10); clear k10)
      | (go_at_call 20; (with_reducible refine (CK.out _ (RL.out.kpt G.out)).mono ?_); rintro e w11 ⟨rfl, k11⟩; (try replace P1 := Lib.hid (P1.out.kpt k11.kpt)); (try replace T3 := Lib.hid (T3.out.kpt k11.kpt)); (try replace S4 := Lib.hid (S4.out.kpt k11.kpt)); (try replace P5 := Lib.hid (P5.out.kpt k11.kpt)); (try replace TU := Lib.hid (TU.out.kpt k11.kpt)); (try replace S9 := Lib.hid (S9.out.kpt k11.kpt)); replace G := Lib.hid (ktr G.out k11.kpt); clear k11)
      | (go_at_call 21; (with_reducible refine (LB.out _ (RB.out.kpt G.out)).mono ?_); rintro e w12 ⟨rfl, k12⟩; (try replace P1 := Lib.hid (P1.out.kpt k12)); (try replace T3 := Lib.hid (T3.out.kpt k12)); (try replace S4 := Lib.hid (S4.out.kpt k12)); (try replace P5 := Lib.hid (P5.out.kpt k12)); (try replace TU := Lib.hid (TU.out.kpt k12)); (try replace S9 := Lib.hid (S9.out.kpt k12)); replace G := Lib.hid (ktr G.out k12); clear k12)
      | (go_at_call 15; (with_reducible refine (RLB.out _ (RB.out.kpt G.out)).mono ?_); rintro e w13 ⟨rfl, k13⟩; (try replace P1 := Lib.hid (P1.out.kpt k13)); (try replace T3 := Lib.hid (T3.out.kpt k13)); (try replace S4 := Lib.hid (S4.out.kpt k13)); (try replace P5 := Lib.hid (P5.out.kpt k13)); (try replace TU := Lib.hid (TU.out.kpt k13)); (try replace S9 := Lib.hid (S9.out.kpt k13)); replace G := Lib.hid (ktr G.out k13); clear k13)
      | (go_at_call 22; (with_reducible refine (same_any _ _ R _ P1.out P5.out).mono ?_); rintro e w14 ⟨rfl, k14⟩; clear P1 P5; (try replace P1 := Lib.hid (P1.out.kpt k14)); (try replace T3 := Lib.hid (T3.out.kpt k14)); (try replace S4 := Lib.hid (S4.out.kpt k14)); (try replace P5 := Lib.hid (P5.out.kpt k14)); (try replace TU := Lib.hid (TU.out.kpt k14)); (try replace S9 := Lib.hid (S9.out.kpt k14)); replace G := Lib.hid (ktr G.out k14); clear k14)
      | (go_at_call 22; (with_reducible refine (same_any _ _ (turnR l) _ T3.out TU.out).mono ?_); rintro e w15 ⟨rfl, k15⟩; (try replace P1 := Lib.hid (P1.out.kpt k15)); (try replace T3 := Lib.hid (T3.out.kpt k15)); (try replace S4 := Lib.hid (S4.out.kpt k15)); (try replace P5 := Lib.hid (P5.out.kpt k15)); (try replace TU := Lib.hid (TU.out.kpt k15)); (try replace S9 := Lib.hid (S9.out.kpt k15)); replace G := Lib.hid (ktr G.out k15); clear k15)
      | (go_at_call 23; (with_reducible refine (sameI_run _ _ (triR b) _ S4.out S9.out).mono ?_); rintro e w16 ⟨rfl, k16⟩; (try replace P1 := Lib.hid (P1.out.kpt k16)); (try replace T3 := Lib.hid (T3.out.kpt k16)); (try replace S4 := Lib.hid (S4.out.kpt k16)); (try replace P5 := Lib.hid (P5.out.kpt k16)); (try replace TU := Lib.hid (TU.out.kpt k16)); (try replace S9 := Lib.hid (S9.out.kpt k16)); replace G := Lib.hid (ktr G.out k16); clear k16))
    go_ret
    exact ⟨rfl, G.out⟩

end Go.Proofs.Ytcpfldlcocencaa
