/-
  BookTells: the walk where the postings may be posted.
-/
import Derived.Test.YtcpfldlcocencaaLawBTells
import Derived.Deep.RegionHeld3
import Derived.Deep.AppendLies
namespace Go.Proofs.Ytcpfldlcocencaa
open Go.RowKit
set_option linter.unusedVariables false

set_option maxRecDepth 100000 in
set_option maxHeartbeats 8000000 in
theorem bookTells_P0C0 (v t : Value) (a u : Int) (b l : List (Int × Int × Int)) (w : World) (hb : ReadsP w v b) (hl : ReadsP w t l) (hp : linE b ≠ 0) (hc : chkE l = 0) : Calls Try.prog 3 #[v, t, .int .i64 a, .int .i64 u] w fun e w' => e = .returned (.bool true) ∧ Kpt w w' := by
  obtain ⟨R, E, hpost⟩ := postRes_ex b l
  have PO := Lib.hid (fun w hb hl => post_twin v t b l R E w hb hl hpost)
  have RPO := Lib.hid (fun w hb hl => rpost_twin v t b l R E w hb hl hpost)
  have TR := Lib.hid (fun w hb => trial_twin v b w hb)
  have RTR := Lib.hid (fun w hb => rtrial_twin v b w hb)
  have RB := Lib.hid hb; have RL := Lib.hid hl
  have hlen := hl.len
  unfold maxLen at hlen
  have G := Lib.hid (Kpt.refl w)
  have EQ1 : (linE b == 0) = false := beq_eq_false_iff_ne.2 hp
  have LB := Lib.hid (fun w hr => lines_is v b w hr rfl)
  have RLB := Lib.hid (fun w hr => rlines_any v b w hr)
  have BAL := Lib.hid (fun w hr => bal_err v b a u w hr hp)
  clear hp
  generalize linE b = EL at *
  have l0 := (chk_0 hc).1
  have l60 := (chk_0 hc).2.1
  have PT := Lib.hid (chk_0 hc).2.2.1
  have TT := Lib.hid (turnR_0 hc)
  have TN : Hid (∀ w, ReadsP w t l → Calls Try.prog 12 #[t] w fun e w' => ∃ a n c, e = .returned (.tuple #[.slice a n c, .int .i64 0]) ∧ Hid (ReadsP w' (.slice a n c) (turnR l)) ∧ Hid (Kpt w w')) := fun w hl => by have := turn_twin t l w hl; rwa [hc] at this
  have CK : Hid (∀ w, ReadsP w t l → Calls Try.prog 20 #[t] w fun e w' => e = .returned (.int .i64 0) ∧ Grew w w') := fun w hl => by have := bookCheck_any t l w hl; rwa [hc] at this
  have RCK : Hid (∀ w, ReadsP w t l → Calls Try.prog 17 #[t] w fun e w' => e = .returned (.int .i64 0) ∧ Kpt w w') := fun w hl => by have := rchk_any t l w hl; rwa [hc] at this
  obtain ⟨al, cl, rfl, -, -, -, hcc⟩ := id hl
  have HC := Lib.hid hcc
  clear hc hcc hb hl hpost
  go_enter Try.func3, Try.ntmps3
  go_wp2_with (first
    | (go_at_call 10; (with_reducible refine (PO.out _ RB.out RL.out).mono ?_); rintro e w1 ⟨k1, a1, n1, c1, rfl, P1⟩; (try replace P1 := Lib.hid (P1.out.kpt k1.out)); (try replace T3 := Lib.hid (T3.out.kpt k1.out)); (try replace S4 := Lib.hid (S4.out.kpt k1.out)); (try replace P5 := Lib.hid (P5.out.kpt k1.out)); (try replace TU := Lib.hid (TU.out.kpt k1.out)); (try replace S9 := Lib.hid (S9.out.kpt k1.out)); replace G := Lib.hid (ktr G.out k1.out); clear k1)
    | (go_at_call 11; (with_reducible refine (BAL.out _ (RB.out.kpt G.out)).mono ?_); rintro e w2 ⟨rfl, k2⟩; (try replace P1 := Lib.hid (P1.out.kpt k2)); (try replace T3 := Lib.hid (T3.out.kpt k2)); (try replace S4 := Lib.hid (S4.out.kpt k2)); (try replace P5 := Lib.hid (P5.out.kpt k2)); (try replace TU := Lib.hid (TU.out.kpt k2)); (try replace S9 := Lib.hid (S9.out.kpt k2)); replace G := Lib.hid (ktr G.out k2); clear k2)
    | (go_at_call 12; (with_reducible refine (TN.out _ (RL.out.kpt G.out)).mono ?_); rintro e w3 ⟨a3, n3, c3, rfl, T3', k3⟩; (try replace P1 := Lib.hid (P1.out.kpt k3.out)); (try replace T3 := Lib.hid (T3.out.kpt k3.out)); (try replace S4 := Lib.hid (S4.out.kpt k3.out)); (try replace P5 := Lib.hid (P5.out.kpt k3.out)); (try replace TU := Lib.hid (TU.out.kpt k3.out)); (try replace S9 := Lib.hid (S9.out.kpt k3.out)); replace G := Lib.hid (ktr G.out k3.out); have T3 := T3'; clear k3 T3')
    | (go_at_call 13; (with_reducible refine (TR.out _ (RB.out.kpt G.out)).mono ?_); rintro e w4 ⟨k4, v4, rfl, S4'⟩; (try replace P1 := Lib.hid (P1.out.kpt k4.out)); (try replace T3 := Lib.hid (T3.out.kpt k4.out)); (try replace S4 := Lib.hid (S4.out.kpt k4.out)); (try replace P5 := Lib.hid (P5.out.kpt k4.out)); (try replace TU := Lib.hid (TU.out.kpt k4.out)); (try replace S9 := Lib.hid (S9.out.kpt k4.out)); replace G := Lib.hid (ktr G.out k4.out); have S4 := S4'; clear k4 S4')
    | (go_at_call 14; (with_reducible refine (RPO.out _ (RB.out.kpt G.out) (RL.out.kpt G.out)).mono ?_); rintro e w5 ⟨k5, a5, n5, c5, rfl, P5'⟩; (try replace P1 := Lib.hid (P1.out.kpt k5.out)); (try replace T3 := Lib.hid (T3.out.kpt k5.out)); (try replace S4 := Lib.hid (S4.out.kpt k5.out)); (try replace P5 := Lib.hid (P5.out.kpt k5.out)); (try replace TU := Lib.hid (TU.out.kpt k5.out)); (try replace S9 := Lib.hid (S9.out.kpt k5.out)); replace G := Lib.hid (ktr G.out k5.out); have P5 := P5'; clear k5 P5')
    | (go_at_call 15; (with_reducible refine (RLB.out _ (RB.out.kpt G.out)).mono ?_); rintro e w6 ⟨rfl, k6⟩; (try replace P1 := Lib.hid (P1.out.kpt k6)); (try replace T3 := Lib.hid (T3.out.kpt k6)); (try replace S4 := Lib.hid (S4.out.kpt k6)); (try replace P5 := Lib.hid (P5.out.kpt k6)); (try replace TU := Lib.hid (TU.out.kpt k6)); (try replace S9 := Lib.hid (S9.out.kpt k6)); replace G := Lib.hid (ktr G.out k6); clear k6)
    | (go_at_call 17; (with_reducible refine (RCK.out _ (RL.out.kpt G.out)).mono ?_); rintro e w8 ⟨rfl, k8⟩; (try replace P1 := Lib.hid (P1.out.kpt k8)); (try replace T3 := Lib.hid (T3.out.kpt k8)); (try replace S4 := Lib.hid (S4.out.kpt k8)); (try replace P5 := Lib.hid (P5.out.kpt k8)); (try replace TU := Lib.hid (TU.out.kpt k8)); (try replace S9 := Lib.hid (S9.out.kpt k8)); replace G := Lib.hid (ktr G.out k8); clear k8))
  go_loopw [22, 23] (fun m i wr => ∃ k : Nat, k ≤ l.length ∧ i = .int .i64 ((k : Int) - 1) ∧ Hid (OwnsP wr w8.heap.size m (turnP (l.drop k))) ∧ Hid (Kpt w8 wr)) (fun _ i _ => (intOf i + 1).toNat)
  case atStart => exact ⟨l.length, Nat.le_refl _, rfl, (by unfold Hid; rw [List.drop_eq_nil_of_le (Nat.le_refl _)]; exact OwnsP.nil _ _), Kpt.refl _⟩
  case round =>
    obtain ⟨k, hk, rfl, HO, HJ⟩ := hrel
    by_cases hk0 : k = 0
    · subst hk0
      have TU : Hid (ReadsP wr u22 (turnR l)) := by unfold Hid; rw [TT.out]; exact HO.out.reads (inP_of (turn_pt PT.out))
      obtain ⟨au, nu, cu, hu, -⟩ := (show ∃ a n c, u22 = .slice a n c ∧ True from by obtain ⟨x, y, e⟩ := HO.out.form; exact ⟨x, _, y, e, trivial⟩)
      subst hu
      clear HO
      (try replace P1 := Lib.hid (P1.out.kpt HJ.out))
      (try replace T3 := Lib.hid (T3.out.kpt HJ.out))
      (try replace S4 := Lib.hid (S4.out.kpt HJ.out))
      (try replace P5 := Lib.hid (P5.out.kpt HJ.out))
      replace G := Lib.hid (ktr G.out HJ.out)
      clear HJ
      go_wp2_with (first
        | (go_at_call 18; (with_reducible refine (RTR.out _ (RB.out.kpt G.out)).mono ?_); rintro e w9 ⟨k9, v9, rfl, S9'⟩; (try replace P1 := Lib.hid (P1.out.kpt k9.out)); (try replace T3 := Lib.hid (T3.out.kpt k9.out)); (try replace S4 := Lib.hid (S4.out.kpt k9.out)); (try replace P5 := Lib.hid (P5.out.kpt k9.out)); (try replace TU := Lib.hid (TU.out.kpt k9.out)); (try replace S9 := Lib.hid (S9.out.kpt k9.out)); replace G := Lib.hid (ktr G.out k9.out); have S9 := S9'; clear k9 S9')
        | (go_at_call 19; (with_reducible refine (bookBegun _).mono ?_); rintro e w10 ⟨rfl, k10⟩; (try replace P1 := Lib.hid (P1.out.kpt k10)); (try replace T3 := Lib.hid (T3.out.kpt k10)); (try replace S4 := Lib.hid (S4.out.kpt k10)); (try replace P5 := Lib.hid (P5.out.kpt k10)); (try replace TU := Lib.hid (TU.out.kpt k10)); (try replace S9 := Lib.hid (S9.out.kpt k10)); replace G := Lib.hid (ktr G.out k10); clear k10)
        | (go_at_call 20; (with_reducible refine (CK.out _ (RL.out.kpt G.out)).mono ?_); rintro e w11 ⟨rfl, k11⟩; (try replace P1 := Lib.hid (P1.out.kpt k11.kpt)); (try replace T3 := Lib.hid (T3.out.kpt k11.kpt)); (try replace S4 := Lib.hid (S4.out.kpt k11.kpt)); (try replace P5 := Lib.hid (P5.out.kpt k11.kpt)); (try replace TU := Lib.hid (TU.out.kpt k11.kpt)); (try replace S9 := Lib.hid (S9.out.kpt k11.kpt)); replace G := Lib.hid (ktr G.out k11.kpt); clear k11)
        | (go_at_call 21; (with_reducible refine (LB.out _ (RB.out.kpt G.out)).mono ?_); rintro e w12 ⟨rfl, k12⟩; (try replace P1 := Lib.hid (P1.out.kpt k12)); (try replace T3 := Lib.hid (T3.out.kpt k12)); (try replace S4 := Lib.hid (S4.out.kpt k12)); (try replace P5 := Lib.hid (P5.out.kpt k12)); (try replace TU := Lib.hid (TU.out.kpt k12)); (try replace S9 := Lib.hid (S9.out.kpt k12)); replace G := Lib.hid (ktr G.out k12); clear k12)
        | (go_at_call 15; (with_reducible refine (RLB.out _ (RB.out.kpt G.out)).mono ?_); rintro e w13 ⟨rfl, k13⟩; (try replace P1 := Lib.hid (P1.out.kpt k13)); (try replace T3 := Lib.hid (T3.out.kpt k13)); (try replace S4 := Lib.hid (S4.out.kpt k13)); (try replace P5 := Lib.hid (P5.out.kpt k13)); (try replace TU := Lib.hid (TU.out.kpt k13)); (try replace S9 := Lib.hid (S9.out.kpt k13)); replace G := Lib.hid (ktr G.out k13); clear k13)
        | (go_at_call 22; (with_reducible refine (same_any _ _ R _ P1.out P5.out).mono ?_); rintro e w14 ⟨rfl, k14⟩; clear P1 P5; (try replace P1 := Lib.hid (P1.out.kpt k14)); (try replace T3 := Lib.hid (T3.out.kpt k14)); (try replace S4 := Lib.hid (S4.out.kpt k14)); (try replace P5 := Lib.hid (P5.out.kpt k14)); (try replace TU := Lib.hid (TU.out.kpt k14)); (try replace S9 := Lib.hid (S9.out.kpt k14)); replace G := Lib.hid (ktr G.out k14); clear k14)
        | (go_at_call 22; (with_reducible refine (same_any _ _ (turnR l) _ T3.out TU.out).mono ?_); rintro e w15 ⟨rfl, k15⟩; (try replace P1 := Lib.hid (P1.out.kpt k15)); (try replace T3 := Lib.hid (T3.out.kpt k15)); (try replace S4 := Lib.hid (S4.out.kpt k15)); (try replace P5 := Lib.hid (P5.out.kpt k15)); (try replace TU := Lib.hid (TU.out.kpt k15)); (try replace S9 := Lib.hid (S9.out.kpt k15)); replace G := Lib.hid (ktr G.out k15); clear k15)
        | (go_at_call 23; (with_reducible refine (sameI_run _ _ (triR b) _ S4.out S9.out).mono ?_); rintro e w16 ⟨rfl, k16⟩; (try replace P1 := Lib.hid (P1.out.kpt k16)); (try replace T3 := Lib.hid (T3.out.kpt k16)); (try replace S4 := Lib.hid (S4.out.kpt k16)); (try replace P5 := Lib.hid (P5.out.kpt k16)); (try replace TU := Lib.hid (TU.out.kpt k16)); (try replace S9 := Lib.hid (S9.out.kpt k16)); replace G := Lib.hid (ktr G.out k16); clear k16))
      go_ret
      exact ⟨rfl, G.out⟩
    · obtain ⟨m, hkm⟩ : ∃ m, k = m + 1 := ⟨k - 1, by omega⟩
      subst hkm
      have e : ((m + 1 : Nat) : Int) - 1 = (m : Int) := by omega
      rw [e]
      obtain ⟨x, off, rfl, hq⟩ := HC.out m (by omega)
      obtain ⟨c0, c1, c2⟩ := (hq.kpt G.out).kpt HJ.out
      have xl : x < w8.heap.size := cell_in (hq.kpt G.out).1
      have st := turn_step (l := l) (k := m) (by omega)
      have pm := PT.out _ (getP_mem (show m < l.length by omega))
      clear hq e
      generalize l.getD m default = q at c0 c1 c2 st pm
      have pb := pt_t pm
      obtain ⟨A, U, N⟩ := q
      simp only at c0 c1 c2 pb
      obtain ⟨-, -, -, -, -, b0, b1⟩ := pb
      have ST : Hid (turnP (l.drop m) = turnP (l.drop (m + 1)) ++ [(A, U, -N)]) := st
      have IN : Hid (InP [(A, U, -N)]) := inP_of fun p hp => by rw [List.mem_singleton.1 hp]; exact neg_pt pm
      have LT : Hid ((turnP (l.drop (m + 1))).length ≤ 60) := by unfold Hid; rw [turn_len, List.length_drop]; omega
      have m0 : (0 : Int) ≤ (m : Int) := by omega
      have m1 : (m : Int) < (l.length : Int) := by omega
      clear st pm
      obtain ⟨i0, hi0, hz0, hz1, hz2⟩ := info_parts Try.infoPost
      have HOW : Hid (OwnsP (wr.alloc (.cells #[.int .i64 A, .int .i64 U, .int .i64 (-N)] 35)).drew w8.heap.size u22 (turnP (l.drop (m + 1)))) := (HO.out.alloc _).kpt (show Kpt _ (World.drew _) from Below.drew (Kpt.refl _))
      have BS := HJ.out.size
      have lx : x < wr.heap.size := cell_in c0
      have AG : Hid (u22.ownBlock ≠ some x) := fun e => by
        have h1 := HO.out.ge x e
        omega
      have hneg : IntKind.i64.wrap (-N) = -N := IntWalk.i64_in _ (by omega)
      have ln : (turnP (l.drop (m + 1))).length + 1 ≤ maxLen := by have := LT.out; unfold maxLen; omega
      have lb' : ((turnP (l.drop (m + 1))).length + 1) * 24 ≤ 140737488355328 := by have := LT.out; omega
      go_wp2_with fail
      go_region_held3 (fun w' => w'.cell? ⟨x, off + m * 3, none⟩ = some (.int .i64 A) ∧ w'.cell? ⟨x, off + m * 3 + 1, none⟩ = some (.int .i64 U) ∧ w'.cell? ⟨x, off + m * 3 + 2, none⟩ = some (.int .i64 N))
        (first
          | go_keep
          | (go_split_ands
             refine ⟨?_, ?_, ?_⟩
             · (rw [hgrow.cell_far _ (by simp; omega) (Ne.symm AG.out)]; assumption)
             · (rw [hgrow.cell_far _ (by simp; omega) (Ne.symm AG.out)]; assumption)
             · (rw [hgrow.cell_far _ (by simp; omega) (Ne.symm AG.out)]; assumption)))
        ((refine step_append_lies _ (by rfl) _ _ _ (by rfl) w8.heap.size 35 i0 _ 3 24 Try.underlying22 hi0 hz0 hz1 hz2 rfl (by omega) u22 (turnP (l.drop (m + 1))).length (flatP (turnP (l.drop (m + 1)))) (by rfl) HOW.out
            ⟨wr.heap.size, 0, none⟩ 1 1 [.int .i64 A, .int .i64 U, .int .i64 (-N)] (by rfl) (by rfl) (World.news_of_block (cs := #[.int .i64 A, .int .i64 U, .int .i64 (-N)]) (t := 35) (fr := (0, 0)) (heap_alloc_new wr _)) (by simp [Value.oneCell'])
            (by omega) ln lb' (by simp; omega) (wr.heap.size + 1) (by simp) ?_; intro gg cap w1 hown1 hgrow hat hlt))
      have HO1 : Hid (OwnsP w1 w8.heap.size (.slice (some ⟨gg, 0, none⟩) ((turnP (l.drop (m + 1))).length + 1) cap) (turnP (l.drop m))) := by
        unfold Hid OwnsP
        rw [ST.out, List.length_append, flatP_append]
        exact hown1
      have HK1 : Hid (Kpt w8 w1) := Below.grown (show Kpt w8 (wr.alloc _).drew from Below.drew (HJ.out.alloc _)) hgrow (by simp; omega) HOW.out.ge
      clear hown1 hgrow hat hlt
      go_wp2
      go_roundw
      case rel => exact ⟨m, by omega, rfl, HO1.out, HK1.out⟩
      case measure => simp [intOf]

set_option maxRecDepth 100000 in
set_option maxHeartbeats 8000000 in
theorem bookTells_P1C0 (v t : Value) (a u : Int) (b l : List (Int × Int × Int)) (w : World) (hb : ReadsP w v b) (hl : ReadsP w t l) (hp : linE b = 0 ∧ a < 0) (hc : chkE l = 0) : Calls Try.prog 3 #[v, t, .int .i64 a, .int .i64 u] w fun e w' => e = .returned (.bool true) ∧ Kpt w w' := by
  obtain ⟨R, E, hpost⟩ := postRes_ex b l
  have PO := Lib.hid (fun w hb hl => post_twin v t b l R E w hb hl hpost)
  have RPO := Lib.hid (fun w hb hl => rpost_twin v t b l R E w hb hl hpost)
  have TR := Lib.hid (fun w hb => trial_twin v b w hb)
  have RTR := Lib.hid (fun w hb => rtrial_twin v b w hb)
  have RB := Lib.hid hb; have RL := Lib.hid hl
  have hlen := hl.len
  unfold maxLen at hlen
  have G := Lib.hid (Kpt.refl w)
  obtain ⟨hp, g1⟩ := hp
  have hpl : plB a u = false := decide_eq_false (by omega)
  have LB := Lib.hid (fun w hr => lines_is v b w hr hp)
  have RLB := Lib.hid (fun w hr => (hp ▸ rlines_any v b w hr : Calls Try.prog 15 #[v] w fun e w' => e = .returned (.int .i64 0) ∧ Kpt w w'))
  have BAL := Lib.hid (fun w hr => bal_out v b a u w hr hp hpl)
  clear hp hpl
  have l0 := (chk_0 hc).1
  have l60 := (chk_0 hc).2.1
  have PT := Lib.hid (chk_0 hc).2.2.1
  have TT := Lib.hid (turnR_0 hc)
  have TN : Hid (∀ w, ReadsP w t l → Calls Try.prog 12 #[t] w fun e w' => ∃ a n c, e = .returned (.tuple #[.slice a n c, .int .i64 0]) ∧ Hid (ReadsP w' (.slice a n c) (turnR l)) ∧ Hid (Kpt w w')) := fun w hl => by have := turn_twin t l w hl; rwa [hc] at this
  have CK : Hid (∀ w, ReadsP w t l → Calls Try.prog 20 #[t] w fun e w' => e = .returned (.int .i64 0) ∧ Grew w w') := fun w hl => by have := bookCheck_any t l w hl; rwa [hc] at this
  have RCK : Hid (∀ w, ReadsP w t l → Calls Try.prog 17 #[t] w fun e w' => e = .returned (.int .i64 0) ∧ Kpt w w') := fun w hl => by have := rchk_any t l w hl; rwa [hc] at this
  obtain ⟨al, cl, rfl, -, -, -, hcc⟩ := id hl
  have HC := Lib.hid hcc
  clear hc hcc hb hl hpost
  go_enter Try.func3, Try.ntmps3
  go_wp2_with (first
    | (go_at_call 10; (with_reducible refine (PO.out _ RB.out RL.out).mono ?_); rintro e w1 ⟨k1, a1, n1, c1, rfl, P1⟩; (try replace P1 := Lib.hid (P1.out.kpt k1.out)); (try replace T3 := Lib.hid (T3.out.kpt k1.out)); (try replace S4 := Lib.hid (S4.out.kpt k1.out)); (try replace P5 := Lib.hid (P5.out.kpt k1.out)); (try replace TU := Lib.hid (TU.out.kpt k1.out)); (try replace S9 := Lib.hid (S9.out.kpt k1.out)); replace G := Lib.hid (ktr G.out k1.out); clear k1)
    | (go_at_call 11; (with_reducible refine (BAL.out _ (RB.out.kpt G.out)).mono ?_); rintro e w2 ⟨rfl, k2⟩; (try replace P1 := Lib.hid (P1.out.kpt k2)); (try replace T3 := Lib.hid (T3.out.kpt k2)); (try replace S4 := Lib.hid (S4.out.kpt k2)); (try replace P5 := Lib.hid (P5.out.kpt k2)); (try replace TU := Lib.hid (TU.out.kpt k2)); (try replace S9 := Lib.hid (S9.out.kpt k2)); replace G := Lib.hid (ktr G.out k2); clear k2)
    | (go_at_call 12; (with_reducible refine (TN.out _ (RL.out.kpt G.out)).mono ?_); rintro e w3 ⟨a3, n3, c3, rfl, T3', k3⟩; (try replace P1 := Lib.hid (P1.out.kpt k3.out)); (try replace T3 := Lib.hid (T3.out.kpt k3.out)); (try replace S4 := Lib.hid (S4.out.kpt k3.out)); (try replace P5 := Lib.hid (P5.out.kpt k3.out)); (try replace TU := Lib.hid (TU.out.kpt k3.out)); (try replace S9 := Lib.hid (S9.out.kpt k3.out)); replace G := Lib.hid (ktr G.out k3.out); have T3 := T3'; clear k3 T3')
    | (go_at_call 13; (with_reducible refine (TR.out _ (RB.out.kpt G.out)).mono ?_); rintro e w4 ⟨k4, v4, rfl, S4'⟩; (try replace P1 := Lib.hid (P1.out.kpt k4.out)); (try replace T3 := Lib.hid (T3.out.kpt k4.out)); (try replace S4 := Lib.hid (S4.out.kpt k4.out)); (try replace P5 := Lib.hid (P5.out.kpt k4.out)); (try replace TU := Lib.hid (TU.out.kpt k4.out)); (try replace S9 := Lib.hid (S9.out.kpt k4.out)); replace G := Lib.hid (ktr G.out k4.out); have S4 := S4'; clear k4 S4')
    | (go_at_call 14; (with_reducible refine (RPO.out _ (RB.out.kpt G.out) (RL.out.kpt G.out)).mono ?_); rintro e w5 ⟨k5, a5, n5, c5, rfl, P5'⟩; (try replace P1 := Lib.hid (P1.out.kpt k5.out)); (try replace T3 := Lib.hid (T3.out.kpt k5.out)); (try replace S4 := Lib.hid (S4.out.kpt k5.out)); (try replace P5 := Lib.hid (P5.out.kpt k5.out)); (try replace TU := Lib.hid (TU.out.kpt k5.out)); (try replace S9 := Lib.hid (S9.out.kpt k5.out)); replace G := Lib.hid (ktr G.out k5.out); have P5 := P5'; clear k5 P5')
    | (go_at_call 15; (with_reducible refine (RLB.out _ (RB.out.kpt G.out)).mono ?_); rintro e w6 ⟨rfl, k6⟩; (try replace P1 := Lib.hid (P1.out.kpt k6)); (try replace T3 := Lib.hid (T3.out.kpt k6)); (try replace S4 := Lib.hid (S4.out.kpt k6)); (try replace P5 := Lib.hid (P5.out.kpt k6)); (try replace TU := Lib.hid (TU.out.kpt k6)); (try replace S9 := Lib.hid (S9.out.kpt k6)); replace G := Lib.hid (ktr G.out k6); clear k6)
    | (go_at_call 17; (with_reducible refine (RCK.out _ (RL.out.kpt G.out)).mono ?_); rintro e w8 ⟨rfl, k8⟩; (try replace P1 := Lib.hid (P1.out.kpt k8)); (try replace T3 := Lib.hid (T3.out.kpt k8)); (try replace S4 := Lib.hid (S4.out.kpt k8)); (try replace P5 := Lib.hid (P5.out.kpt k8)); (try replace TU := Lib.hid (TU.out.kpt k8)); (try replace S9 := Lib.hid (S9.out.kpt k8)); replace G := Lib.hid (ktr G.out k8); clear k8))
  go_loopw [22, 23] (fun m i wr => ∃ k : Nat, k ≤ l.length ∧ i = .int .i64 ((k : Int) - 1) ∧ Hid (OwnsP wr w8.heap.size m (turnP (l.drop k))) ∧ Hid (Kpt w8 wr)) (fun _ i _ => (intOf i + 1).toNat)
  case atStart => exact ⟨l.length, Nat.le_refl _, rfl, (by unfold Hid; rw [List.drop_eq_nil_of_le (Nat.le_refl _)]; exact OwnsP.nil _ _), Kpt.refl _⟩
  case round =>
    obtain ⟨k, hk, rfl, HO, HJ⟩ := hrel
    by_cases hk0 : k = 0
    · subst hk0
      have TU : Hid (ReadsP wr u22 (turnR l)) := by unfold Hid; rw [TT.out]; exact HO.out.reads (inP_of (turn_pt PT.out))
      obtain ⟨au, nu, cu, hu, -⟩ := (show ∃ a n c, u22 = .slice a n c ∧ True from by obtain ⟨x, y, e⟩ := HO.out.form; exact ⟨x, _, y, e, trivial⟩)
      subst hu
      clear HO
      (try replace P1 := Lib.hid (P1.out.kpt HJ.out))
      (try replace T3 := Lib.hid (T3.out.kpt HJ.out))
      (try replace S4 := Lib.hid (S4.out.kpt HJ.out))
      (try replace P5 := Lib.hid (P5.out.kpt HJ.out))
      replace G := Lib.hid (ktr G.out HJ.out)
      clear HJ
      go_wp2_with (first
        | (go_at_call 18; (with_reducible refine (RTR.out _ (RB.out.kpt G.out)).mono ?_); rintro e w9 ⟨k9, v9, rfl, S9'⟩; (try replace P1 := Lib.hid (P1.out.kpt k9.out)); (try replace T3 := Lib.hid (T3.out.kpt k9.out)); (try replace S4 := Lib.hid (S4.out.kpt k9.out)); (try replace P5 := Lib.hid (P5.out.kpt k9.out)); (try replace TU := Lib.hid (TU.out.kpt k9.out)); (try replace S9 := Lib.hid (S9.out.kpt k9.out)); replace G := Lib.hid (ktr G.out k9.out); have S9 := S9'; clear k9 S9')
        | (go_at_call 19; (with_reducible refine (bookBegun _).mono ?_); rintro e w10 ⟨rfl, k10⟩; (try replace P1 := Lib.hid (P1.out.kpt k10)); (try replace T3 := Lib.hid (T3.out.kpt k10)); (try replace S4 := Lib.hid (S4.out.kpt k10)); (try replace P5 := Lib.hid (P5.out.kpt k10)); (try replace TU := Lib.hid (TU.out.kpt k10)); (try replace S9 := Lib.hid (S9.out.kpt k10)); replace G := Lib.hid (ktr G.out k10); clear k10)
        | (go_at_call 20; (with_reducible refine (CK.out _ (RL.out.kpt G.out)).mono ?_); rintro e w11 ⟨rfl, k11⟩; (try replace P1 := Lib.hid (P1.out.kpt k11.kpt)); (try replace T3 := Lib.hid (T3.out.kpt k11.kpt)); (try replace S4 := Lib.hid (S4.out.kpt k11.kpt)); (try replace P5 := Lib.hid (P5.out.kpt k11.kpt)); (try replace TU := Lib.hid (TU.out.kpt k11.kpt)); (try replace S9 := Lib.hid (S9.out.kpt k11.kpt)); replace G := Lib.hid (ktr G.out k11.kpt); clear k11)
        | (go_at_call 21; (with_reducible refine (LB.out _ (RB.out.kpt G.out)).mono ?_); rintro e w12 ⟨rfl, k12⟩; (try replace P1 := Lib.hid (P1.out.kpt k12)); (try replace T3 := Lib.hid (T3.out.kpt k12)); (try replace S4 := Lib.hid (S4.out.kpt k12)); (try replace P5 := Lib.hid (P5.out.kpt k12)); (try replace TU := Lib.hid (TU.out.kpt k12)); (try replace S9 := Lib.hid (S9.out.kpt k12)); replace G := Lib.hid (ktr G.out k12); clear k12)
        | (go_at_call 15; (with_reducible refine (RLB.out _ (RB.out.kpt G.out)).mono ?_); rintro e w13 ⟨rfl, k13⟩; (try replace P1 := Lib.hid (P1.out.kpt k13)); (try replace T3 := Lib.hid (T3.out.kpt k13)); (try replace S4 := Lib.hid (S4.out.kpt k13)); (try replace P5 := Lib.hid (P5.out.kpt k13)); (try replace TU := Lib.hid (TU.out.kpt k13)); (try replace S9 := Lib.hid (S9.out.kpt k13)); replace G := Lib.hid (ktr G.out k13); clear k13)
        | (go_at_call 22; (with_reducible refine (same_any _ _ R _ P1.out P5.out).mono ?_); rintro e w14 ⟨rfl, k14⟩; clear P1 P5; (try replace P1 := Lib.hid (P1.out.kpt k14)); (try replace T3 := Lib.hid (T3.out.kpt k14)); (try replace S4 := Lib.hid (S4.out.kpt k14)); (try replace P5 := Lib.hid (P5.out.kpt k14)); (try replace TU := Lib.hid (TU.out.kpt k14)); (try replace S9 := Lib.hid (S9.out.kpt k14)); replace G := Lib.hid (ktr G.out k14); clear k14)
        | (go_at_call 22; (with_reducible refine (same_any _ _ (turnR l) _ T3.out TU.out).mono ?_); rintro e w15 ⟨rfl, k15⟩; (try replace P1 := Lib.hid (P1.out.kpt k15)); (try replace T3 := Lib.hid (T3.out.kpt k15)); (try replace S4 := Lib.hid (S4.out.kpt k15)); (try replace P5 := Lib.hid (P5.out.kpt k15)); (try replace TU := Lib.hid (TU.out.kpt k15)); (try replace S9 := Lib.hid (S9.out.kpt k15)); replace G := Lib.hid (ktr G.out k15); clear k15)
        | (go_at_call 23; (with_reducible refine (sameI_run _ _ (triR b) _ S4.out S9.out).mono ?_); rintro e w16 ⟨rfl, k16⟩; (try replace P1 := Lib.hid (P1.out.kpt k16)); (try replace T3 := Lib.hid (T3.out.kpt k16)); (try replace S4 := Lib.hid (S4.out.kpt k16)); (try replace P5 := Lib.hid (P5.out.kpt k16)); (try replace TU := Lib.hid (TU.out.kpt k16)); (try replace S9 := Lib.hid (S9.out.kpt k16)); replace G := Lib.hid (ktr G.out k16); clear k16))
      go_ret
      exact ⟨rfl, G.out⟩
    · obtain ⟨m, hkm⟩ : ∃ m, k = m + 1 := ⟨k - 1, by omega⟩
      subst hkm
      have e : ((m + 1 : Nat) : Int) - 1 = (m : Int) := by omega
      rw [e]
      obtain ⟨x, off, rfl, hq⟩ := HC.out m (by omega)
      obtain ⟨c0, c1, c2⟩ := (hq.kpt G.out).kpt HJ.out
      have xl : x < w8.heap.size := cell_in (hq.kpt G.out).1
      have st := turn_step (l := l) (k := m) (by omega)
      have pm := PT.out _ (getP_mem (show m < l.length by omega))
      clear hq e
      generalize l.getD m default = q at c0 c1 c2 st pm
      have pb := pt_t pm
      obtain ⟨A, U, N⟩ := q
      simp only at c0 c1 c2 pb
      obtain ⟨-, -, -, -, -, b0, b1⟩ := pb
      have ST : Hid (turnP (l.drop m) = turnP (l.drop (m + 1)) ++ [(A, U, -N)]) := st
      have IN : Hid (InP [(A, U, -N)]) := inP_of fun p hp => by rw [List.mem_singleton.1 hp]; exact neg_pt pm
      have LT : Hid ((turnP (l.drop (m + 1))).length ≤ 60) := by unfold Hid; rw [turn_len, List.length_drop]; omega
      have m0 : (0 : Int) ≤ (m : Int) := by omega
      have m1 : (m : Int) < (l.length : Int) := by omega
      clear st pm
      obtain ⟨i0, hi0, hz0, hz1, hz2⟩ := info_parts Try.infoPost
      have HOW : Hid (OwnsP (wr.alloc (.cells #[.int .i64 A, .int .i64 U, .int .i64 (-N)] 35)).drew w8.heap.size u22 (turnP (l.drop (m + 1)))) := (HO.out.alloc _).kpt (show Kpt _ (World.drew _) from Below.drew (Kpt.refl _))
      have BS := HJ.out.size
      have lx : x < wr.heap.size := cell_in c0
      have AG : Hid (u22.ownBlock ≠ some x) := fun e => by
        have h1 := HO.out.ge x e
        omega
      have hneg : IntKind.i64.wrap (-N) = -N := IntWalk.i64_in _ (by omega)
      have ln : (turnP (l.drop (m + 1))).length + 1 ≤ maxLen := by have := LT.out; unfold maxLen; omega
      have lb' : ((turnP (l.drop (m + 1))).length + 1) * 24 ≤ 140737488355328 := by have := LT.out; omega
      go_wp2_with fail
      go_region_held3 (fun w' => w'.cell? ⟨x, off + m * 3, none⟩ = some (.int .i64 A) ∧ w'.cell? ⟨x, off + m * 3 + 1, none⟩ = some (.int .i64 U) ∧ w'.cell? ⟨x, off + m * 3 + 2, none⟩ = some (.int .i64 N))
        (first
          | go_keep
          | (go_split_ands
             refine ⟨?_, ?_, ?_⟩
             · (rw [hgrow.cell_far _ (by simp; omega) (Ne.symm AG.out)]; assumption)
             · (rw [hgrow.cell_far _ (by simp; omega) (Ne.symm AG.out)]; assumption)
             · (rw [hgrow.cell_far _ (by simp; omega) (Ne.symm AG.out)]; assumption)))
        ((refine step_append_lies _ (by rfl) _ _ _ (by rfl) w8.heap.size 35 i0 _ 3 24 Try.underlying22 hi0 hz0 hz1 hz2 rfl (by omega) u22 (turnP (l.drop (m + 1))).length (flatP (turnP (l.drop (m + 1)))) (by rfl) HOW.out
            ⟨wr.heap.size, 0, none⟩ 1 1 [.int .i64 A, .int .i64 U, .int .i64 (-N)] (by rfl) (by rfl) (World.news_of_block (cs := #[.int .i64 A, .int .i64 U, .int .i64 (-N)]) (t := 35) (fr := (0, 0)) (heap_alloc_new wr _)) (by simp [Value.oneCell'])
            (by omega) ln lb' (by simp; omega) (wr.heap.size + 1) (by simp) ?_; intro gg cap w1 hown1 hgrow hat hlt))
      have HO1 : Hid (OwnsP w1 w8.heap.size (.slice (some ⟨gg, 0, none⟩) ((turnP (l.drop (m + 1))).length + 1) cap) (turnP (l.drop m))) := by
        unfold Hid OwnsP
        rw [ST.out, List.length_append, flatP_append]
        exact hown1
      have HK1 : Hid (Kpt w8 w1) := Below.grown (show Kpt w8 (wr.alloc _).drew from Below.drew (HJ.out.alloc _)) hgrow (by simp; omega) HOW.out.ge
      clear hown1 hgrow hat hlt
      go_wp2
      go_roundw
      case rel => exact ⟨m, by omega, rfl, HO1.out, HK1.out⟩
      case measure => simp [intOf]

set_option maxRecDepth 100000 in
set_option maxHeartbeats 8000000 in
theorem bookTells_P2C0 (v t : Value) (a u : Int) (b l : List (Int × Int × Int)) (w : World) (hb : ReadsP w v b) (hl : ReadsP w t l) (hp : linE b = 0 ∧ ¬ a < 0 ∧ 100 < a) (hc : chkE l = 0) : Calls Try.prog 3 #[v, t, .int .i64 a, .int .i64 u] w fun e w' => e = .returned (.bool true) ∧ Kpt w w' := by
  obtain ⟨R, E, hpost⟩ := postRes_ex b l
  have PO := Lib.hid (fun w hb hl => post_twin v t b l R E w hb hl hpost)
  have RPO := Lib.hid (fun w hb hl => rpost_twin v t b l R E w hb hl hpost)
  have TR := Lib.hid (fun w hb => trial_twin v b w hb)
  have RTR := Lib.hid (fun w hb => rtrial_twin v b w hb)
  have RB := Lib.hid hb; have RL := Lib.hid hl
  have hlen := hl.len
  unfold maxLen at hlen
  have G := Lib.hid (Kpt.refl w)
  obtain ⟨hp, g1, g2⟩ := hp
  have g3 : decide (a < 0) = false := decide_eq_false g1
  have hpl : plB a u = false := decide_eq_false (by omega)
  have LB := Lib.hid (fun w hr => lines_is v b w hr hp)
  have RLB := Lib.hid (fun w hr => (hp ▸ rlines_any v b w hr : Calls Try.prog 15 #[v] w fun e w' => e = .returned (.int .i64 0) ∧ Kpt w w'))
  have BAL := Lib.hid (fun w hr => bal_out v b a u w hr hp hpl)
  clear hp hpl
  have l0 := (chk_0 hc).1
  have l60 := (chk_0 hc).2.1
  have PT := Lib.hid (chk_0 hc).2.2.1
  have TT := Lib.hid (turnR_0 hc)
  have TN : Hid (∀ w, ReadsP w t l → Calls Try.prog 12 #[t] w fun e w' => ∃ a n c, e = .returned (.tuple #[.slice a n c, .int .i64 0]) ∧ Hid (ReadsP w' (.slice a n c) (turnR l)) ∧ Hid (Kpt w w')) := fun w hl => by have := turn_twin t l w hl; rwa [hc] at this
  have CK : Hid (∀ w, ReadsP w t l → Calls Try.prog 20 #[t] w fun e w' => e = .returned (.int .i64 0) ∧ Grew w w') := fun w hl => by have := bookCheck_any t l w hl; rwa [hc] at this
  have RCK : Hid (∀ w, ReadsP w t l → Calls Try.prog 17 #[t] w fun e w' => e = .returned (.int .i64 0) ∧ Kpt w w') := fun w hl => by have := rchk_any t l w hl; rwa [hc] at this
  obtain ⟨al, cl, rfl, -, -, -, hcc⟩ := id hl
  have HC := Lib.hid hcc
  clear hc hcc hb hl hpost
  go_enter Try.func3, Try.ntmps3
  go_wp2_with (first
    | (go_at_call 10; (with_reducible refine (PO.out _ RB.out RL.out).mono ?_); rintro e w1 ⟨k1, a1, n1, c1, rfl, P1⟩; (try replace P1 := Lib.hid (P1.out.kpt k1.out)); (try replace T3 := Lib.hid (T3.out.kpt k1.out)); (try replace S4 := Lib.hid (S4.out.kpt k1.out)); (try replace P5 := Lib.hid (P5.out.kpt k1.out)); (try replace TU := Lib.hid (TU.out.kpt k1.out)); (try replace S9 := Lib.hid (S9.out.kpt k1.out)); replace G := Lib.hid (ktr G.out k1.out); clear k1)
    | (go_at_call 11; (with_reducible refine (BAL.out _ (RB.out.kpt G.out)).mono ?_); rintro e w2 ⟨rfl, k2⟩; (try replace P1 := Lib.hid (P1.out.kpt k2)); (try replace T3 := Lib.hid (T3.out.kpt k2)); (try replace S4 := Lib.hid (S4.out.kpt k2)); (try replace P5 := Lib.hid (P5.out.kpt k2)); (try replace TU := Lib.hid (TU.out.kpt k2)); (try replace S9 := Lib.hid (S9.out.kpt k2)); replace G := Lib.hid (ktr G.out k2); clear k2)
    | (go_at_call 12; (with_reducible refine (TN.out _ (RL.out.kpt G.out)).mono ?_); rintro e w3 ⟨a3, n3, c3, rfl, T3', k3⟩; (try replace P1 := Lib.hid (P1.out.kpt k3.out)); (try replace T3 := Lib.hid (T3.out.kpt k3.out)); (try replace S4 := Lib.hid (S4.out.kpt k3.out)); (try replace P5 := Lib.hid (P5.out.kpt k3.out)); (try replace TU := Lib.hid (TU.out.kpt k3.out)); (try replace S9 := Lib.hid (S9.out.kpt k3.out)); replace G := Lib.hid (ktr G.out k3.out); have T3 := T3'; clear k3 T3')
    | (go_at_call 13; (with_reducible refine (TR.out _ (RB.out.kpt G.out)).mono ?_); rintro e w4 ⟨k4, v4, rfl, S4'⟩; (try replace P1 := Lib.hid (P1.out.kpt k4.out)); (try replace T3 := Lib.hid (T3.out.kpt k4.out)); (try replace S4 := Lib.hid (S4.out.kpt k4.out)); (try replace P5 := Lib.hid (P5.out.kpt k4.out)); (try replace TU := Lib.hid (TU.out.kpt k4.out)); (try replace S9 := Lib.hid (S9.out.kpt k4.out)); replace G := Lib.hid (ktr G.out k4.out); have S4 := S4'; clear k4 S4')
    | (go_at_call 14; (with_reducible refine (RPO.out _ (RB.out.kpt G.out) (RL.out.kpt G.out)).mono ?_); rintro e w5 ⟨k5, a5, n5, c5, rfl, P5'⟩; (try replace P1 := Lib.hid (P1.out.kpt k5.out)); (try replace T3 := Lib.hid (T3.out.kpt k5.out)); (try replace S4 := Lib.hid (S4.out.kpt k5.out)); (try replace P5 := Lib.hid (P5.out.kpt k5.out)); (try replace TU := Lib.hid (TU.out.kpt k5.out)); (try replace S9 := Lib.hid (S9.out.kpt k5.out)); replace G := Lib.hid (ktr G.out k5.out); have P5 := P5'; clear k5 P5')
    | (go_at_call 15; (with_reducible refine (RLB.out _ (RB.out.kpt G.out)).mono ?_); rintro e w6 ⟨rfl, k6⟩; (try replace P1 := Lib.hid (P1.out.kpt k6)); (try replace T3 := Lib.hid (T3.out.kpt k6)); (try replace S4 := Lib.hid (S4.out.kpt k6)); (try replace P5 := Lib.hid (P5.out.kpt k6)); (try replace TU := Lib.hid (TU.out.kpt k6)); (try replace S9 := Lib.hid (S9.out.kpt k6)); replace G := Lib.hid (ktr G.out k6); clear k6)
    | (go_at_call 17; (with_reducible refine (RCK.out _ (RL.out.kpt G.out)).mono ?_); rintro e w8 ⟨rfl, k8⟩; (try replace P1 := Lib.hid (P1.out.kpt k8)); (try replace T3 := Lib.hid (T3.out.kpt k8)); (try replace S4 := Lib.hid (S4.out.kpt k8)); (try replace P5 := Lib.hid (P5.out.kpt k8)); (try replace TU := Lib.hid (TU.out.kpt k8)); (try replace S9 := Lib.hid (S9.out.kpt k8)); replace G := Lib.hid (ktr G.out k8); clear k8))
  go_loopw [22, 23] (fun m i wr => ∃ k : Nat, k ≤ l.length ∧ i = .int .i64 ((k : Int) - 1) ∧ Hid (OwnsP wr w8.heap.size m (turnP (l.drop k))) ∧ Hid (Kpt w8 wr)) (fun _ i _ => (intOf i + 1).toNat)
  case atStart => exact ⟨l.length, Nat.le_refl _, rfl, (by unfold Hid; rw [List.drop_eq_nil_of_le (Nat.le_refl _)]; exact OwnsP.nil _ _), Kpt.refl _⟩
  case round =>
    obtain ⟨k, hk, rfl, HO, HJ⟩ := hrel
    by_cases hk0 : k = 0
    · subst hk0
      have TU : Hid (ReadsP wr u22 (turnR l)) := by unfold Hid; rw [TT.out]; exact HO.out.reads (inP_of (turn_pt PT.out))
      obtain ⟨au, nu, cu, hu, -⟩ := (show ∃ a n c, u22 = .slice a n c ∧ True from by obtain ⟨x, y, e⟩ := HO.out.form; exact ⟨x, _, y, e, trivial⟩)
      subst hu
      clear HO
      (try replace P1 := Lib.hid (P1.out.kpt HJ.out))
      (try replace T3 := Lib.hid (T3.out.kpt HJ.out))
      (try replace S4 := Lib.hid (S4.out.kpt HJ.out))
      (try replace P5 := Lib.hid (P5.out.kpt HJ.out))
      replace G := Lib.hid (ktr G.out HJ.out)
      clear HJ
      go_wp2_with (first
        | (go_at_call 18; (with_reducible refine (RTR.out _ (RB.out.kpt G.out)).mono ?_); rintro e w9 ⟨k9, v9, rfl, S9'⟩; (try replace P1 := Lib.hid (P1.out.kpt k9.out)); (try replace T3 := Lib.hid (T3.out.kpt k9.out)); (try replace S4 := Lib.hid (S4.out.kpt k9.out)); (try replace P5 := Lib.hid (P5.out.kpt k9.out)); (try replace TU := Lib.hid (TU.out.kpt k9.out)); (try replace S9 := Lib.hid (S9.out.kpt k9.out)); replace G := Lib.hid (ktr G.out k9.out); have S9 := S9'; clear k9 S9')
        | (go_at_call 19; (with_reducible refine (bookBegun _).mono ?_); rintro e w10 ⟨rfl, k10⟩; (try replace P1 := Lib.hid (P1.out.kpt k10)); (try replace T3 := Lib.hid (T3.out.kpt k10)); (try replace S4 := Lib.hid (S4.out.kpt k10)); (try replace P5 := Lib.hid (P5.out.kpt k10)); (try replace TU := Lib.hid (TU.out.kpt k10)); (try replace S9 := Lib.hid (S9.out.kpt k10)); replace G := Lib.hid (ktr G.out k10); clear k10)
        | (go_at_call 20; (with_reducible refine (CK.out _ (RL.out.kpt G.out)).mono ?_); rintro e w11 ⟨rfl, k11⟩; (try replace P1 := Lib.hid (P1.out.kpt k11.kpt)); (try replace T3 := Lib.hid (T3.out.kpt k11.kpt)); (try replace S4 := Lib.hid (S4.out.kpt k11.kpt)); (try replace P5 := Lib.hid (P5.out.kpt k11.kpt)); (try replace TU := Lib.hid (TU.out.kpt k11.kpt)); (try replace S9 := Lib.hid (S9.out.kpt k11.kpt)); replace G := Lib.hid (ktr G.out k11.kpt); clear k11)
        | (go_at_call 21; (with_reducible refine (LB.out _ (RB.out.kpt G.out)).mono ?_); rintro e w12 ⟨rfl, k12⟩; (try replace P1 := Lib.hid (P1.out.kpt k12)); (try replace T3 := Lib.hid (T3.out.kpt k12)); (try replace S4 := Lib.hid (S4.out.kpt k12)); (try replace P5 := Lib.hid (P5.out.kpt k12)); (try replace TU := Lib.hid (TU.out.kpt k12)); (try replace S9 := Lib.hid (S9.out.kpt k12)); replace G := Lib.hid (ktr G.out k12); clear k12)
        | (go_at_call 15; (with_reducible refine (RLB.out _ (RB.out.kpt G.out)).mono ?_); rintro e w13 ⟨rfl, k13⟩; (try replace P1 := Lib.hid (P1.out.kpt k13)); (try replace T3 := Lib.hid (T3.out.kpt k13)); (try replace S4 := Lib.hid (S4.out.kpt k13)); (try replace P5 := Lib.hid (P5.out.kpt k13)); (try replace TU := Lib.hid (TU.out.kpt k13)); (try replace S9 := Lib.hid (S9.out.kpt k13)); replace G := Lib.hid (ktr G.out k13); clear k13)
        | (go_at_call 22; (with_reducible refine (same_any _ _ R _ P1.out P5.out).mono ?_); rintro e w14 ⟨rfl, k14⟩; clear P1 P5; (try replace P1 := Lib.hid (P1.out.kpt k14)); (try replace T3 := Lib.hid (T3.out.kpt k14)); (try replace S4 := Lib.hid (S4.out.kpt k14)); (try replace P5 := Lib.hid (P5.out.kpt k14)); (try replace TU := Lib.hid (TU.out.kpt k14)); (try replace S9 := Lib.hid (S9.out.kpt k14)); replace G := Lib.hid (ktr G.out k14); clear k14)
        | (go_at_call 22; (with_reducible refine (same_any _ _ (turnR l) _ T3.out TU.out).mono ?_); rintro e w15 ⟨rfl, k15⟩; (try replace P1 := Lib.hid (P1.out.kpt k15)); (try replace T3 := Lib.hid (T3.out.kpt k15)); (try replace S4 := Lib.hid (S4.out.kpt k15)); (try replace P5 := Lib.hid (P5.out.kpt k15)); (try replace TU := Lib.hid (TU.out.kpt k15)); (try replace S9 := Lib.hid (S9.out.kpt k15)); replace G := Lib.hid (ktr G.out k15); clear k15)
        | (go_at_call 23; (with_reducible refine (sameI_run _ _ (triR b) _ S4.out S9.out).mono ?_); rintro e w16 ⟨rfl, k16⟩; (try replace P1 := Lib.hid (P1.out.kpt k16)); (try replace T3 := Lib.hid (T3.out.kpt k16)); (try replace S4 := Lib.hid (S4.out.kpt k16)); (try replace P5 := Lib.hid (P5.out.kpt k16)); (try replace TU := Lib.hid (TU.out.kpt k16)); (try replace S9 := Lib.hid (S9.out.kpt k16)); replace G := Lib.hid (ktr G.out k16); clear k16))
      go_ret
      exact ⟨rfl, G.out⟩
    · obtain ⟨m, hkm⟩ : ∃ m, k = m + 1 := ⟨k - 1, by omega⟩
      subst hkm
      have e : ((m + 1 : Nat) : Int) - 1 = (m : Int) := by omega
      rw [e]
      obtain ⟨x, off, rfl, hq⟩ := HC.out m (by omega)
      obtain ⟨c0, c1, c2⟩ := (hq.kpt G.out).kpt HJ.out
      have xl : x < w8.heap.size := cell_in (hq.kpt G.out).1
      have st := turn_step (l := l) (k := m) (by omega)
      have pm := PT.out _ (getP_mem (show m < l.length by omega))
      clear hq e
      generalize l.getD m default = q at c0 c1 c2 st pm
      have pb := pt_t pm
      obtain ⟨A, U, N⟩ := q
      simp only at c0 c1 c2 pb
      obtain ⟨-, -, -, -, -, b0, b1⟩ := pb
      have ST : Hid (turnP (l.drop m) = turnP (l.drop (m + 1)) ++ [(A, U, -N)]) := st
      have IN : Hid (InP [(A, U, -N)]) := inP_of fun p hp => by rw [List.mem_singleton.1 hp]; exact neg_pt pm
      have LT : Hid ((turnP (l.drop (m + 1))).length ≤ 60) := by unfold Hid; rw [turn_len, List.length_drop]; omega
      have m0 : (0 : Int) ≤ (m : Int) := by omega
      have m1 : (m : Int) < (l.length : Int) := by omega
      clear st pm
      obtain ⟨i0, hi0, hz0, hz1, hz2⟩ := info_parts Try.infoPost
      have HOW : Hid (OwnsP (wr.alloc (.cells #[.int .i64 A, .int .i64 U, .int .i64 (-N)] 35)).drew w8.heap.size u22 (turnP (l.drop (m + 1)))) := (HO.out.alloc _).kpt (show Kpt _ (World.drew _) from Below.drew (Kpt.refl _))
      have BS := HJ.out.size
      have lx : x < wr.heap.size := cell_in c0
      have AG : Hid (u22.ownBlock ≠ some x) := fun e => by
        have h1 := HO.out.ge x e
        omega
      have hneg : IntKind.i64.wrap (-N) = -N := IntWalk.i64_in _ (by omega)
      have ln : (turnP (l.drop (m + 1))).length + 1 ≤ maxLen := by have := LT.out; unfold maxLen; omega
      have lb' : ((turnP (l.drop (m + 1))).length + 1) * 24 ≤ 140737488355328 := by have := LT.out; omega
      go_wp2_with fail
      go_region_held3 (fun w' => w'.cell? ⟨x, off + m * 3, none⟩ = some (.int .i64 A) ∧ w'.cell? ⟨x, off + m * 3 + 1, none⟩ = some (.int .i64 U) ∧ w'.cell? ⟨x, off + m * 3 + 2, none⟩ = some (.int .i64 N))
        (first
          | go_keep
          | (go_split_ands
             refine ⟨?_, ?_, ?_⟩
             · (rw [hgrow.cell_far _ (by simp; omega) (Ne.symm AG.out)]; assumption)
             · (rw [hgrow.cell_far _ (by simp; omega) (Ne.symm AG.out)]; assumption)
             · (rw [hgrow.cell_far _ (by simp; omega) (Ne.symm AG.out)]; assumption)))
        ((refine step_append_lies _ (by rfl) _ _ _ (by rfl) w8.heap.size 35 i0 _ 3 24 Try.underlying22 hi0 hz0 hz1 hz2 rfl (by omega) u22 (turnP (l.drop (m + 1))).length (flatP (turnP (l.drop (m + 1)))) (by rfl) HOW.out
            ⟨wr.heap.size, 0, none⟩ 1 1 [.int .i64 A, .int .i64 U, .int .i64 (-N)] (by rfl) (by rfl) (World.news_of_block (cs := #[.int .i64 A, .int .i64 U, .int .i64 (-N)]) (t := 35) (fr := (0, 0)) (heap_alloc_new wr _)) (by simp [Value.oneCell'])
            (by omega) ln lb' (by simp; omega) (wr.heap.size + 1) (by simp) ?_; intro gg cap w1 hown1 hgrow hat hlt))
      have HO1 : Hid (OwnsP w1 w8.heap.size (.slice (some ⟨gg, 0, none⟩) ((turnP (l.drop (m + 1))).length + 1) cap) (turnP (l.drop m))) := by
        unfold Hid OwnsP
        rw [ST.out, List.length_append, flatP_append]
        exact hown1
      have HK1 : Hid (Kpt w8 w1) := Below.grown (show Kpt w8 (wr.alloc _).drew from Below.drew (HJ.out.alloc _)) hgrow (by simp; omega) HOW.out.ge
      clear hown1 hgrow hat hlt
      go_wp2
      go_roundw
      case rel => exact ⟨m, by omega, rfl, HO1.out, HK1.out⟩
      case measure => simp [intOf]

set_option maxRecDepth 100000 in
set_option maxHeartbeats 8000000 in
theorem bookTells_P3C0 (v t : Value) (a u : Int) (b l : List (Int × Int × Int)) (w : World) (hb : ReadsP w v b) (hl : ReadsP w t l) (hp : linE b = 0 ∧ ¬ a < 0 ∧ ¬ 100 < a ∧ u < 0) (hc : chkE l = 0) : Calls Try.prog 3 #[v, t, .int .i64 a, .int .i64 u] w fun e w' => e = .returned (.bool true) ∧ Kpt w w' := by
  obtain ⟨R, E, hpost⟩ := postRes_ex b l
  have PO := Lib.hid (fun w hb hl => post_twin v t b l R E w hb hl hpost)
  have RPO := Lib.hid (fun w hb hl => rpost_twin v t b l R E w hb hl hpost)
  have TR := Lib.hid (fun w hb => trial_twin v b w hb)
  have RTR := Lib.hid (fun w hb => rtrial_twin v b w hb)
  have RB := Lib.hid hb; have RL := Lib.hid hl
  have hlen := hl.len
  unfold maxLen at hlen
  have G := Lib.hid (Kpt.refl w)
  obtain ⟨hp, g1, g2, g5⟩ := hp
  have g3 : decide (a < 0) = false := decide_eq_false g1
  have g4 : decide (100 < a) = false := decide_eq_false g2
  have hpl : plB a u = false := decide_eq_false (by omega)
  have LB := Lib.hid (fun w hr => lines_is v b w hr hp)
  have RLB := Lib.hid (fun w hr => (hp ▸ rlines_any v b w hr : Calls Try.prog 15 #[v] w fun e w' => e = .returned (.int .i64 0) ∧ Kpt w w'))
  have BAL := Lib.hid (fun w hr => bal_out v b a u w hr hp hpl)
  clear hp hpl
  have l0 := (chk_0 hc).1
  have l60 := (chk_0 hc).2.1
  have PT := Lib.hid (chk_0 hc).2.2.1
  have TT := Lib.hid (turnR_0 hc)
  have TN : Hid (∀ w, ReadsP w t l → Calls Try.prog 12 #[t] w fun e w' => ∃ a n c, e = .returned (.tuple #[.slice a n c, .int .i64 0]) ∧ Hid (ReadsP w' (.slice a n c) (turnR l)) ∧ Hid (Kpt w w')) := fun w hl => by have := turn_twin t l w hl; rwa [hc] at this
  have CK : Hid (∀ w, ReadsP w t l → Calls Try.prog 20 #[t] w fun e w' => e = .returned (.int .i64 0) ∧ Grew w w') := fun w hl => by have := bookCheck_any t l w hl; rwa [hc] at this
  have RCK : Hid (∀ w, ReadsP w t l → Calls Try.prog 17 #[t] w fun e w' => e = .returned (.int .i64 0) ∧ Kpt w w') := fun w hl => by have := rchk_any t l w hl; rwa [hc] at this
  obtain ⟨al, cl, rfl, -, -, -, hcc⟩ := id hl
  have HC := Lib.hid hcc
  clear hc hcc hb hl hpost
  go_enter Try.func3, Try.ntmps3
  go_wp2_with (first
    | (go_at_call 10; (with_reducible refine (PO.out _ RB.out RL.out).mono ?_); rintro e w1 ⟨k1, a1, n1, c1, rfl, P1⟩; (try replace P1 := Lib.hid (P1.out.kpt k1.out)); (try replace T3 := Lib.hid (T3.out.kpt k1.out)); (try replace S4 := Lib.hid (S4.out.kpt k1.out)); (try replace P5 := Lib.hid (P5.out.kpt k1.out)); (try replace TU := Lib.hid (TU.out.kpt k1.out)); (try replace S9 := Lib.hid (S9.out.kpt k1.out)); replace G := Lib.hid (ktr G.out k1.out); clear k1)
    | (go_at_call 11; (with_reducible refine (BAL.out _ (RB.out.kpt G.out)).mono ?_); rintro e w2 ⟨rfl, k2⟩; (try replace P1 := Lib.hid (P1.out.kpt k2)); (try replace T3 := Lib.hid (T3.out.kpt k2)); (try replace S4 := Lib.hid (S4.out.kpt k2)); (try replace P5 := Lib.hid (P5.out.kpt k2)); (try replace TU := Lib.hid (TU.out.kpt k2)); (try replace S9 := Lib.hid (S9.out.kpt k2)); replace G := Lib.hid (ktr G.out k2); clear k2)
    | (go_at_call 12; (with_reducible refine (TN.out _ (RL.out.kpt G.out)).mono ?_); rintro e w3 ⟨a3, n3, c3, rfl, T3', k3⟩; (try replace P1 := Lib.hid (P1.out.kpt k3.out)); (try replace T3 := Lib.hid (T3.out.kpt k3.out)); (try replace S4 := Lib.hid (S4.out.kpt k3.out)); (try replace P5 := Lib.hid (P5.out.kpt k3.out)); (try replace TU := Lib.hid (TU.out.kpt k3.out)); (try replace S9 := Lib.hid (S9.out.kpt k3.out)); replace G := Lib.hid (ktr G.out k3.out); have T3 := T3'; clear k3 T3')
    | (go_at_call 13; (with_reducible refine (TR.out _ (RB.out.kpt G.out)).mono ?_); rintro e w4 ⟨k4, v4, rfl, S4'⟩; (try replace P1 := Lib.hid (P1.out.kpt k4.out)); (try replace T3 := Lib.hid (T3.out.kpt k4.out)); (try replace S4 := Lib.hid (S4.out.kpt k4.out)); (try replace P5 := Lib.hid (P5.out.kpt k4.out)); (try replace TU := Lib.hid (TU.out.kpt k4.out)); (try replace S9 := Lib.hid (S9.out.kpt k4.out)); replace G := Lib.hid (ktr G.out k4.out); have S4 := S4'; clear k4 S4')
    | (go_at_call 14; (with_reducible refine (RPO.out _ (RB.out.kpt G.out) (RL.out.kpt G.out)).mono ?_); rintro e w5 ⟨k5, a5, n5, c5, rfl, P5'⟩; (try replace P1 := Lib.hid (P1.out.kpt k5.out)); (try replace T3 := Lib.hid (T3.out.kpt k5.out)); (try replace S4 := Lib.hid (S4.out.kpt k5.out)); (try replace P5 := Lib.hid (P5.out.kpt k5.out)); (try replace TU := Lib.hid (TU.out.kpt k5.out)); (try replace S9 := Lib.hid (S9.out.kpt k5.out)); replace G := Lib.hid (ktr G.out k5.out); have P5 := P5'; clear k5 P5')
    | (go_at_call 15; (with_reducible refine (RLB.out _ (RB.out.kpt G.out)).mono ?_); rintro e w6 ⟨rfl, k6⟩; (try replace P1 := Lib.hid (P1.out.kpt k6)); (try replace T3 := Lib.hid (T3.out.kpt k6)); (try replace S4 := Lib.hid (S4.out.kpt k6)); (try replace P5 := Lib.hid (P5.out.kpt k6)); (try replace TU := Lib.hid (TU.out.kpt k6)); (try replace S9 := Lib.hid (S9.out.kpt k6)); replace G := Lib.hid (ktr G.out k6); clear k6)
    | (go_at_call 17; (with_reducible refine (RCK.out _ (RL.out.kpt G.out)).mono ?_); rintro e w8 ⟨rfl, k8⟩; (try replace P1 := Lib.hid (P1.out.kpt k8)); (try replace T3 := Lib.hid (T3.out.kpt k8)); (try replace S4 := Lib.hid (S4.out.kpt k8)); (try replace P5 := Lib.hid (P5.out.kpt k8)); (try replace TU := Lib.hid (TU.out.kpt k8)); (try replace S9 := Lib.hid (S9.out.kpt k8)); replace G := Lib.hid (ktr G.out k8); clear k8))
  go_loopw [22, 23] (fun m i wr => ∃ k : Nat, k ≤ l.length ∧ i = .int .i64 ((k : Int) - 1) ∧ Hid (OwnsP wr w8.heap.size m (turnP (l.drop k))) ∧ Hid (Kpt w8 wr)) (fun _ i _ => (intOf i + 1).toNat)
  case atStart => exact ⟨l.length, Nat.le_refl _, rfl, (by unfold Hid; rw [List.drop_eq_nil_of_le (Nat.le_refl _)]; exact OwnsP.nil _ _), Kpt.refl _⟩
  case round =>
    obtain ⟨k, hk, rfl, HO, HJ⟩ := hrel
    by_cases hk0 : k = 0
    · subst hk0
      have TU : Hid (ReadsP wr u22 (turnR l)) := by unfold Hid; rw [TT.out]; exact HO.out.reads (inP_of (turn_pt PT.out))
      obtain ⟨au, nu, cu, hu, -⟩ := (show ∃ a n c, u22 = .slice a n c ∧ True from by obtain ⟨x, y, e⟩ := HO.out.form; exact ⟨x, _, y, e, trivial⟩)
      subst hu
      clear HO
      (try replace P1 := Lib.hid (P1.out.kpt HJ.out))
      (try replace T3 := Lib.hid (T3.out.kpt HJ.out))
      (try replace S4 := Lib.hid (S4.out.kpt HJ.out))
      (try replace P5 := Lib.hid (P5.out.kpt HJ.out))
      replace G := Lib.hid (ktr G.out HJ.out)
      clear HJ
      go_wp2_with (first
        | (go_at_call 18; (with_reducible refine (RTR.out _ (RB.out.kpt G.out)).mono ?_); rintro e w9 ⟨k9, v9, rfl, S9'⟩; (try replace P1 := Lib.hid (P1.out.kpt k9.out)); (try replace T3 := Lib.hid (T3.out.kpt k9.out)); (try replace S4 := Lib.hid (S4.out.kpt k9.out)); (try replace P5 := Lib.hid (P5.out.kpt k9.out)); (try replace TU := Lib.hid (TU.out.kpt k9.out)); (try replace S9 := Lib.hid (S9.out.kpt k9.out)); replace G := Lib.hid (ktr G.out k9.out); have S9 := S9'; clear k9 S9')
        | (go_at_call 19; (with_reducible refine (bookBegun _).mono ?_); rintro e w10 ⟨rfl, k10⟩; (try replace P1 := Lib.hid (P1.out.kpt k10)); (try replace T3 := Lib.hid (T3.out.kpt k10)); (try replace S4 := Lib.hid (S4.out.kpt k10)); (try replace P5 := Lib.hid (P5.out.kpt k10)); (try replace TU := Lib.hid (TU.out.kpt k10)); (try replace S9 := Lib.hid (S9.out.kpt k10)); replace G := Lib.hid (ktr G.out k10); clear k10)
        | (go_at_call 20; (with_reducible refine (CK.out _ (RL.out.kpt G.out)).mono ?_); rintro e w11 ⟨rfl, k11⟩; (try replace P1 := Lib.hid (P1.out.kpt k11.kpt)); (try replace T3 := Lib.hid (T3.out.kpt k11.kpt)); (try replace S4 := Lib.hid (S4.out.kpt k11.kpt)); (try replace P5 := Lib.hid (P5.out.kpt k11.kpt)); (try replace TU := Lib.hid (TU.out.kpt k11.kpt)); (try replace S9 := Lib.hid (S9.out.kpt k11.kpt)); replace G := Lib.hid (ktr G.out k11.kpt); clear k11)
        | (go_at_call 21; (with_reducible refine (LB.out _ (RB.out.kpt G.out)).mono ?_); rintro e w12 ⟨rfl, k12⟩; (try replace P1 := Lib.hid (P1.out.kpt k12)); (try replace T3 := Lib.hid (T3.out.kpt k12)); (try replace S4 := Lib.hid (S4.out.kpt k12)); (try replace P5 := Lib.hid (P5.out.kpt k12)); (try replace TU := Lib.hid (TU.out.kpt k12)); (try replace S9 := Lib.hid (S9.out.kpt k12)); replace G := Lib.hid (ktr G.out k12); clear k12)
        | (go_at_call 15; (with_reducible refine (RLB.out _ (RB.out.kpt G.out)).mono ?_); rintro e w13 ⟨rfl, k13⟩; (try replace P1 := Lib.hid (P1.out.kpt k13)); (try replace T3 := Lib.hid (T3.out.kpt k13)); (try replace S4 := Lib.hid (S4.out.kpt k13)); (try replace P5 := Lib.hid (P5.out.kpt k13)); (try replace TU := Lib.hid (TU.out.kpt k13)); (try replace S9 := Lib.hid (S9.out.kpt k13)); replace G := Lib.hid (ktr G.out k13); clear k13)
        | (go_at_call 22; (with_reducible refine (same_any _ _ R _ P1.out P5.out).mono ?_); rintro e w14 ⟨rfl, k14⟩; clear P1 P5; (try replace P1 := Lib.hid (P1.out.kpt k14)); (try replace T3 := Lib.hid (T3.out.kpt k14)); (try replace S4 := Lib.hid (S4.out.kpt k14)); (try replace P5 := Lib.hid (P5.out.kpt k14)); (try replace TU := Lib.hid (TU.out.kpt k14)); (try replace S9 := Lib.hid (S9.out.kpt k14)); replace G := Lib.hid (ktr G.out k14); clear k14)
        | (go_at_call 22; (with_reducible refine (same_any _ _ (turnR l) _ T3.out TU.out).mono ?_); rintro e w15 ⟨rfl, k15⟩; (try replace P1 := Lib.hid (P1.out.kpt k15)); (try replace T3 := Lib.hid (T3.out.kpt k15)); (try replace S4 := Lib.hid (S4.out.kpt k15)); (try replace P5 := Lib.hid (P5.out.kpt k15)); (try replace TU := Lib.hid (TU.out.kpt k15)); (try replace S9 := Lib.hid (S9.out.kpt k15)); replace G := Lib.hid (ktr G.out k15); clear k15)
        | (go_at_call 23; (with_reducible refine (sameI_run _ _ (triR b) _ S4.out S9.out).mono ?_); rintro e w16 ⟨rfl, k16⟩; (try replace P1 := Lib.hid (P1.out.kpt k16)); (try replace T3 := Lib.hid (T3.out.kpt k16)); (try replace S4 := Lib.hid (S4.out.kpt k16)); (try replace P5 := Lib.hid (P5.out.kpt k16)); (try replace TU := Lib.hid (TU.out.kpt k16)); (try replace S9 := Lib.hid (S9.out.kpt k16)); replace G := Lib.hid (ktr G.out k16); clear k16))
      go_ret
      exact ⟨rfl, G.out⟩
    · obtain ⟨m, hkm⟩ : ∃ m, k = m + 1 := ⟨k - 1, by omega⟩
      subst hkm
      have e : ((m + 1 : Nat) : Int) - 1 = (m : Int) := by omega
      rw [e]
      obtain ⟨x, off, rfl, hq⟩ := HC.out m (by omega)
      obtain ⟨c0, c1, c2⟩ := (hq.kpt G.out).kpt HJ.out
      have xl : x < w8.heap.size := cell_in (hq.kpt G.out).1
      have st := turn_step (l := l) (k := m) (by omega)
      have pm := PT.out _ (getP_mem (show m < l.length by omega))
      clear hq e
      generalize l.getD m default = q at c0 c1 c2 st pm
      have pb := pt_t pm
      obtain ⟨A, U, N⟩ := q
      simp only at c0 c1 c2 pb
      obtain ⟨-, -, -, -, -, b0, b1⟩ := pb
      have ST : Hid (turnP (l.drop m) = turnP (l.drop (m + 1)) ++ [(A, U, -N)]) := st
      have IN : Hid (InP [(A, U, -N)]) := inP_of fun p hp => by rw [List.mem_singleton.1 hp]; exact neg_pt pm
      have LT : Hid ((turnP (l.drop (m + 1))).length ≤ 60) := by unfold Hid; rw [turn_len, List.length_drop]; omega
      have m0 : (0 : Int) ≤ (m : Int) := by omega
      have m1 : (m : Int) < (l.length : Int) := by omega
      clear st pm
      obtain ⟨i0, hi0, hz0, hz1, hz2⟩ := info_parts Try.infoPost
      have HOW : Hid (OwnsP (wr.alloc (.cells #[.int .i64 A, .int .i64 U, .int .i64 (-N)] 35)).drew w8.heap.size u22 (turnP (l.drop (m + 1)))) := (HO.out.alloc _).kpt (show Kpt _ (World.drew _) from Below.drew (Kpt.refl _))
      have BS := HJ.out.size
      have lx : x < wr.heap.size := cell_in c0
      have AG : Hid (u22.ownBlock ≠ some x) := fun e => by
        have h1 := HO.out.ge x e
        omega
      have hneg : IntKind.i64.wrap (-N) = -N := IntWalk.i64_in _ (by omega)
      have ln : (turnP (l.drop (m + 1))).length + 1 ≤ maxLen := by have := LT.out; unfold maxLen; omega
      have lb' : ((turnP (l.drop (m + 1))).length + 1) * 24 ≤ 140737488355328 := by have := LT.out; omega
      go_wp2_with fail
      go_region_held3 (fun w' => w'.cell? ⟨x, off + m * 3, none⟩ = some (.int .i64 A) ∧ w'.cell? ⟨x, off + m * 3 + 1, none⟩ = some (.int .i64 U) ∧ w'.cell? ⟨x, off + m * 3 + 2, none⟩ = some (.int .i64 N))
        (first
          | go_keep
          | (go_split_ands
             refine ⟨?_, ?_, ?_⟩
             · (rw [hgrow.cell_far _ (by simp; omega) (Ne.symm AG.out)]; assumption)
             · (rw [hgrow.cell_far _ (by simp; omega) (Ne.symm AG.out)]; assumption)
             · (rw [hgrow.cell_far _ (by simp; omega) (Ne.symm AG.out)]; assumption)))
        ((refine step_append_lies _ (by rfl) _ _ _ (by rfl) w8.heap.size 35 i0 _ 3 24 Try.underlying22 hi0 hz0 hz1 hz2 rfl (by omega) u22 (turnP (l.drop (m + 1))).length (flatP (turnP (l.drop (m + 1)))) (by rfl) HOW.out
            ⟨wr.heap.size, 0, none⟩ 1 1 [.int .i64 A, .int .i64 U, .int .i64 (-N)] (by rfl) (by rfl) (World.news_of_block (cs := #[.int .i64 A, .int .i64 U, .int .i64 (-N)]) (t := 35) (fr := (0, 0)) (heap_alloc_new wr _)) (by simp [Value.oneCell'])
            (by omega) ln lb' (by simp; omega) (wr.heap.size + 1) (by simp) ?_; intro gg cap w1 hown1 hgrow hat hlt))
      have HO1 : Hid (OwnsP w1 w8.heap.size (.slice (some ⟨gg, 0, none⟩) ((turnP (l.drop (m + 1))).length + 1) cap) (turnP (l.drop m))) := by
        unfold Hid OwnsP
        rw [ST.out, List.length_append, flatP_append]
        exact hown1
      have HK1 : Hid (Kpt w8 w1) := Below.grown (show Kpt w8 (wr.alloc _).drew from Below.drew (HJ.out.alloc _)) hgrow (by simp; omega) HOW.out.ge
      clear hown1 hgrow hat hlt
      go_wp2
      go_roundw
      case rel => exact ⟨m, by omega, rfl, HO1.out, HK1.out⟩
      case measure => simp [intOf]

set_option maxRecDepth 100000 in
set_option maxHeartbeats 8000000 in
theorem bookTells_P4C0 (v t : Value) (a u : Int) (b l : List (Int × Int × Int)) (w : World) (hb : ReadsP w v b) (hl : ReadsP w t l) (hp : linE b = 0 ∧ ¬ a < 0 ∧ ¬ 100 < a ∧ ¬ u < 0 ∧ 20 < u) (hc : chkE l = 0) : Calls Try.prog 3 #[v, t, .int .i64 a, .int .i64 u] w fun e w' => e = .returned (.bool true) ∧ Kpt w w' := by
  obtain ⟨R, E, hpost⟩ := postRes_ex b l
  have PO := Lib.hid (fun w hb hl => post_twin v t b l R E w hb hl hpost)
  have RPO := Lib.hid (fun w hb hl => rpost_twin v t b l R E w hb hl hpost)
  have TR := Lib.hid (fun w hb => trial_twin v b w hb)
  have RTR := Lib.hid (fun w hb => rtrial_twin v b w hb)
  have RB := Lib.hid hb; have RL := Lib.hid hl
  have hlen := hl.len
  unfold maxLen at hlen
  have G := Lib.hid (Kpt.refl w)
  obtain ⟨hp, g1, g2, g5, g6⟩ := hp
  have g3 : decide (a < 0) = false := decide_eq_false g1
  have g4 : decide (100 < a) = false := decide_eq_false g2
  have g7 : decide (u < 0) = false := decide_eq_false g5
  have hpl : plB a u = false := decide_eq_false (by omega)
  have LB := Lib.hid (fun w hr => lines_is v b w hr hp)
  have RLB := Lib.hid (fun w hr => (hp ▸ rlines_any v b w hr : Calls Try.prog 15 #[v] w fun e w' => e = .returned (.int .i64 0) ∧ Kpt w w'))
  have BAL := Lib.hid (fun w hr => bal_out v b a u w hr hp hpl)
  clear hp hpl
  have l0 := (chk_0 hc).1
  have l60 := (chk_0 hc).2.1
  have PT := Lib.hid (chk_0 hc).2.2.1
  have TT := Lib.hid (turnR_0 hc)
  have TN : Hid (∀ w, ReadsP w t l → Calls Try.prog 12 #[t] w fun e w' => ∃ a n c, e = .returned (.tuple #[.slice a n c, .int .i64 0]) ∧ Hid (ReadsP w' (.slice a n c) (turnR l)) ∧ Hid (Kpt w w')) := fun w hl => by have := turn_twin t l w hl; rwa [hc] at this
  have CK : Hid (∀ w, ReadsP w t l → Calls Try.prog 20 #[t] w fun e w' => e = .returned (.int .i64 0) ∧ Grew w w') := fun w hl => by have := bookCheck_any t l w hl; rwa [hc] at this
  have RCK : Hid (∀ w, ReadsP w t l → Calls Try.prog 17 #[t] w fun e w' => e = .returned (.int .i64 0) ∧ Kpt w w') := fun w hl => by have := rchk_any t l w hl; rwa [hc] at this
  obtain ⟨al, cl, rfl, -, -, -, hcc⟩ := id hl
  have HC := Lib.hid hcc
  clear hc hcc hb hl hpost
  go_enter Try.func3, Try.ntmps3
  go_wp2_with (first
    | (go_at_call 10; (with_reducible refine (PO.out _ RB.out RL.out).mono ?_); rintro e w1 ⟨k1, a1, n1, c1, rfl, P1⟩; (try replace P1 := Lib.hid (P1.out.kpt k1.out)); (try replace T3 := Lib.hid (T3.out.kpt k1.out)); (try replace S4 := Lib.hid (S4.out.kpt k1.out)); (try replace P5 := Lib.hid (P5.out.kpt k1.out)); (try replace TU := Lib.hid (TU.out.kpt k1.out)); (try replace S9 := Lib.hid (S9.out.kpt k1.out)); replace G := Lib.hid (ktr G.out k1.out); clear k1)
    | (go_at_call 11; (with_reducible refine (BAL.out _ (RB.out.kpt G.out)).mono ?_); rintro e w2 ⟨rfl, k2⟩; (try replace P1 := Lib.hid (P1.out.kpt k2)); (try replace T3 := Lib.hid (T3.out.kpt k2)); (try replace S4 := Lib.hid (S4.out.kpt k2)); (try replace P5 := Lib.hid (P5.out.kpt k2)); (try replace TU := Lib.hid (TU.out.kpt k2)); (try replace S9 := Lib.hid (S9.out.kpt k2)); replace G := Lib.hid (ktr G.out k2); clear k2)
    | (go_at_call 12; (with_reducible refine (TN.out _ (RL.out.kpt G.out)).mono ?_); rintro e w3 ⟨a3, n3, c3, rfl, T3', k3⟩; (try replace P1 := Lib.hid (P1.out.kpt k3.out)); (try replace T3 := Lib.hid (T3.out.kpt k3.out)); (try replace S4 := Lib.hid (S4.out.kpt k3.out)); (try replace P5 := Lib.hid (P5.out.kpt k3.out)); (try replace TU := Lib.hid (TU.out.kpt k3.out)); (try replace S9 := Lib.hid (S9.out.kpt k3.out)); replace G := Lib.hid (ktr G.out k3.out); have T3 := T3'; clear k3 T3')
    | (go_at_call 13; (with_reducible refine (TR.out _ (RB.out.kpt G.out)).mono ?_); rintro e w4 ⟨k4, v4, rfl, S4'⟩; (try replace P1 := Lib.hid (P1.out.kpt k4.out)); (try replace T3 := Lib.hid (T3.out.kpt k4.out)); (try replace S4 := Lib.hid (S4.out.kpt k4.out)); (try replace P5 := Lib.hid (P5.out.kpt k4.out)); (try replace TU := Lib.hid (TU.out.kpt k4.out)); (try replace S9 := Lib.hid (S9.out.kpt k4.out)); replace G := Lib.hid (ktr G.out k4.out); have S4 := S4'; clear k4 S4')
    | (go_at_call 14; (with_reducible refine (RPO.out _ (RB.out.kpt G.out) (RL.out.kpt G.out)).mono ?_); rintro e w5 ⟨k5, a5, n5, c5, rfl, P5'⟩; (try replace P1 := Lib.hid (P1.out.kpt k5.out)); (try replace T3 := Lib.hid (T3.out.kpt k5.out)); (try replace S4 := Lib.hid (S4.out.kpt k5.out)); (try replace P5 := Lib.hid (P5.out.kpt k5.out)); (try replace TU := Lib.hid (TU.out.kpt k5.out)); (try replace S9 := Lib.hid (S9.out.kpt k5.out)); replace G := Lib.hid (ktr G.out k5.out); have P5 := P5'; clear k5 P5')
    | (go_at_call 15; (with_reducible refine (RLB.out _ (RB.out.kpt G.out)).mono ?_); rintro e w6 ⟨rfl, k6⟩; (try replace P1 := Lib.hid (P1.out.kpt k6)); (try replace T3 := Lib.hid (T3.out.kpt k6)); (try replace S4 := Lib.hid (S4.out.kpt k6)); (try replace P5 := Lib.hid (P5.out.kpt k6)); (try replace TU := Lib.hid (TU.out.kpt k6)); (try replace S9 := Lib.hid (S9.out.kpt k6)); replace G := Lib.hid (ktr G.out k6); clear k6)
    | (go_at_call 17; (with_reducible refine (RCK.out _ (RL.out.kpt G.out)).mono ?_); rintro e w8 ⟨rfl, k8⟩; (try replace P1 := Lib.hid (P1.out.kpt k8)); (try replace T3 := Lib.hid (T3.out.kpt k8)); (try replace S4 := Lib.hid (S4.out.kpt k8)); (try replace P5 := Lib.hid (P5.out.kpt k8)); (try replace TU := Lib.hid (TU.out.kpt k8)); (try replace S9 := Lib.hid (S9.out.kpt k8)); replace G := Lib.hid (ktr G.out k8); clear k8))
  go_loopw [22, 23] (fun m i wr => ∃ k : Nat, k ≤ l.length ∧ i = .int .i64 ((k : Int) - 1) ∧ Hid (OwnsP wr w8.heap.size m (turnP (l.drop k))) ∧ Hid (Kpt w8 wr)) (fun _ i _ => (intOf i + 1).toNat)
  case atStart => exact ⟨l.length, Nat.le_refl _, rfl, (by unfold Hid; rw [List.drop_eq_nil_of_le (Nat.le_refl _)]; exact OwnsP.nil _ _), Kpt.refl _⟩
  case round =>
    obtain ⟨k, hk, rfl, HO, HJ⟩ := hrel
    by_cases hk0 : k = 0
    · subst hk0
      have TU : Hid (ReadsP wr u22 (turnR l)) := by unfold Hid; rw [TT.out]; exact HO.out.reads (inP_of (turn_pt PT.out))
      obtain ⟨au, nu, cu, hu, -⟩ := (show ∃ a n c, u22 = .slice a n c ∧ True from by obtain ⟨x, y, e⟩ := HO.out.form; exact ⟨x, _, y, e, trivial⟩)
      subst hu
      clear HO
      (try replace P1 := Lib.hid (P1.out.kpt HJ.out))
      (try replace T3 := Lib.hid (T3.out.kpt HJ.out))
      (try replace S4 := Lib.hid (S4.out.kpt HJ.out))
      (try replace P5 := Lib.hid (P5.out.kpt HJ.out))
      replace G := Lib.hid (ktr G.out HJ.out)
      clear HJ
      go_wp2_with (first
        | (go_at_call 18; (with_reducible refine (RTR.out _ (RB.out.kpt G.out)).mono ?_); rintro e w9 ⟨k9, v9, rfl, S9'⟩; (try replace P1 := Lib.hid (P1.out.kpt k9.out)); (try replace T3 := Lib.hid (T3.out.kpt k9.out)); (try replace S4 := Lib.hid (S4.out.kpt k9.out)); (try replace P5 := Lib.hid (P5.out.kpt k9.out)); (try replace TU := Lib.hid (TU.out.kpt k9.out)); (try replace S9 := Lib.hid (S9.out.kpt k9.out)); replace G := Lib.hid (ktr G.out k9.out); have S9 := S9'; clear k9 S9')
        | (go_at_call 19; (with_reducible refine (bookBegun _).mono ?_); rintro e w10 ⟨rfl, k10⟩; (try replace P1 := Lib.hid (P1.out.kpt k10)); (try replace T3 := Lib.hid (T3.out.kpt k10)); (try replace S4 := Lib.hid (S4.out.kpt k10)); (try replace P5 := Lib.hid (P5.out.kpt k10)); (try replace TU := Lib.hid (TU.out.kpt k10)); (try replace S9 := Lib.hid (S9.out.kpt k10)); replace G := Lib.hid (ktr G.out k10); clear k10)
        | (go_at_call 20; (with_reducible refine (CK.out _ (RL.out.kpt G.out)).mono ?_); rintro e w11 ⟨rfl, k11⟩; (try replace P1 := Lib.hid (P1.out.kpt k11.kpt)); (try replace T3 := Lib.hid (T3.out.kpt k11.kpt)); (try replace S4 := Lib.hid (S4.out.kpt k11.kpt)); (try replace P5 := Lib.hid (P5.out.kpt k11.kpt)); (try replace TU := Lib.hid (TU.out.kpt k11.kpt)); (try replace S9 := Lib.hid (S9.out.kpt k11.kpt)); replace G := Lib.hid (ktr G.out k11.kpt); clear k11)
        | (go_at_call 21; (with_reducible refine (LB.out _ (RB.out.kpt G.out)).mono ?_); rintro e w12 ⟨rfl, k12⟩; (try replace P1 := Lib.hid (P1.out.kpt k12)); (try replace T3 := Lib.hid (T3.out.kpt k12)); (try replace S4 := Lib.hid (S4.out.kpt k12)); (try replace P5 := Lib.hid (P5.out.kpt k12)); (try replace TU := Lib.hid (TU.out.kpt k12)); (try replace S9 := Lib.hid (S9.out.kpt k12)); replace G := Lib.hid (ktr G.out k12); clear k12)
        | (go_at_call 15; (with_reducible refine (RLB.out _ (RB.out.kpt G.out)).mono ?_); rintro e w13 ⟨rfl, k13⟩; (try replace P1 := Lib.hid (P1.out.kpt k13)); (try replace T3 := Lib.hid (T3.out.kpt k13)); (try replace S4 := Lib.hid (S4.out.kpt k13)); (try replace P5 := Lib.hid (P5.out.kpt k13)); (try replace TU := Lib.hid (TU.out.kpt k13)); (try replace S9 := Lib.hid (S9.out.kpt k13)); replace G := Lib.hid (ktr G.out k13); clear k13)
        | (go_at_call 22; (with_reducible refine (same_any _ _ R _ P1.out P5.out).mono ?_); rintro e w14 ⟨rfl, k14⟩; clear P1 P5; (try replace P1 := Lib.hid (P1.out.kpt k14)); (try replace T3 := Lib.hid (T3.out.kpt k14)); (try replace S4 := Lib.hid (S4.out.kpt k14)); (try replace P5 := Lib.hid (P5.out.kpt k14)); (try replace TU := Lib.hid (TU.out.kpt k14)); (try replace S9 := Lib.hid (S9.out.kpt k14)); replace G := Lib.hid (ktr G.out k14); clear k14)
        | (go_at_call 22; (with_reducible refine (same_any _ _ (turnR l) _ T3.out TU.out).mono ?_); rintro e w15 ⟨rfl, k15⟩; (try replace P1 := Lib.hid (P1.out.kpt k15)); (try replace T3 := Lib.hid (T3.out.kpt k15)); (try replace S4 := Lib.hid (S4.out.kpt k15)); (try replace P5 := Lib.hid (P5.out.kpt k15)); (try replace TU := Lib.hid (TU.out.kpt k15)); (try replace S9 := Lib.hid (S9.out.kpt k15)); replace G := Lib.hid (ktr G.out k15); clear k15)
        | (go_at_call 23; (with_reducible refine (sameI_run _ _ (triR b) _ S4.out S9.out).mono ?_); rintro e w16 ⟨rfl, k16⟩; (try replace P1 := Lib.hid (P1.out.kpt k16)); (try replace T3 := Lib.hid (T3.out.kpt k16)); (try replace S4 := Lib.hid (S4.out.kpt k16)); (try replace P5 := Lib.hid (P5.out.kpt k16)); (try replace TU := Lib.hid (TU.out.kpt k16)); (try replace S9 := Lib.hid (S9.out.kpt k16)); replace G := Lib.hid (ktr G.out k16); clear k16))
      go_ret
      exact ⟨rfl, G.out⟩
    · obtain ⟨m, hkm⟩ : ∃ m, k = m + 1 := ⟨k - 1, by omega⟩
      subst hkm
      have e : ((m + 1 : Nat) : Int) - 1 = (m : Int) := by omega
      rw [e]
      obtain ⟨x, off, rfl, hq⟩ := HC.out m (by omega)
      obtain ⟨c0, c1, c2⟩ := (hq.kpt G.out).kpt HJ.out
      have xl : x < w8.heap.size := cell_in (hq.kpt G.out).1
      have st := turn_step (l := l) (k := m) (by omega)
      have pm := PT.out _ (getP_mem (show m < l.length by omega))
      clear hq e
      generalize l.getD m default = q at c0 c1 c2 st pm
      have pb := pt_t pm
      obtain ⟨A, U, N⟩ := q
      simp only at c0 c1 c2 pb
      obtain ⟨-, -, -, -, -, b0, b1⟩ := pb
      have ST : Hid (turnP (l.drop m) = turnP (l.drop (m + 1)) ++ [(A, U, -N)]) := st
      have IN : Hid (InP [(A, U, -N)]) := inP_of fun p hp => by rw [List.mem_singleton.1 hp]; exact neg_pt pm
      have LT : Hid ((turnP (l.drop (m + 1))).length ≤ 60) := by unfold Hid; rw [turn_len, List.length_drop]; omega
      have m0 : (0 : Int) ≤ (m : Int) := by omega
      have m1 : (m : Int) < (l.length : Int) := by omega
      clear st pm
      obtain ⟨i0, hi0, hz0, hz1, hz2⟩ := info_parts Try.infoPost
      have HOW : Hid (OwnsP (wr.alloc (.cells #[.int .i64 A, .int .i64 U, .int .i64 (-N)] 35)).drew w8.heap.size u22 (turnP (l.drop (m + 1)))) := (HO.out.alloc _).kpt (show Kpt _ (World.drew _) from Below.drew (Kpt.refl _))
      have BS := HJ.out.size
      have lx : x < wr.heap.size := cell_in c0
      have AG : Hid (u22.ownBlock ≠ some x) := fun e => by
        have h1 := HO.out.ge x e
        omega
      have hneg : IntKind.i64.wrap (-N) = -N := IntWalk.i64_in _ (by omega)
      have ln : (turnP (l.drop (m + 1))).length + 1 ≤ maxLen := by have := LT.out; unfold maxLen; omega
      have lb' : ((turnP (l.drop (m + 1))).length + 1) * 24 ≤ 140737488355328 := by have := LT.out; omega
      go_wp2_with fail
      go_region_held3 (fun w' => w'.cell? ⟨x, off + m * 3, none⟩ = some (.int .i64 A) ∧ w'.cell? ⟨x, off + m * 3 + 1, none⟩ = some (.int .i64 U) ∧ w'.cell? ⟨x, off + m * 3 + 2, none⟩ = some (.int .i64 N))
        (first
          | go_keep
          | (go_split_ands
             refine ⟨?_, ?_, ?_⟩
             · (rw [hgrow.cell_far _ (by simp; omega) (Ne.symm AG.out)]; assumption)
             · (rw [hgrow.cell_far _ (by simp; omega) (Ne.symm AG.out)]; assumption)
             · (rw [hgrow.cell_far _ (by simp; omega) (Ne.symm AG.out)]; assumption)))
        ((refine step_append_lies _ (by rfl) _ _ _ (by rfl) w8.heap.size 35 i0 _ 3 24 Try.underlying22 hi0 hz0 hz1 hz2 rfl (by omega) u22 (turnP (l.drop (m + 1))).length (flatP (turnP (l.drop (m + 1)))) (by rfl) HOW.out
            ⟨wr.heap.size, 0, none⟩ 1 1 [.int .i64 A, .int .i64 U, .int .i64 (-N)] (by rfl) (by rfl) (World.news_of_block (cs := #[.int .i64 A, .int .i64 U, .int .i64 (-N)]) (t := 35) (fr := (0, 0)) (heap_alloc_new wr _)) (by simp [Value.oneCell'])
            (by omega) ln lb' (by simp; omega) (wr.heap.size + 1) (by simp) ?_; intro gg cap w1 hown1 hgrow hat hlt))
      have HO1 : Hid (OwnsP w1 w8.heap.size (.slice (some ⟨gg, 0, none⟩) ((turnP (l.drop (m + 1))).length + 1) cap) (turnP (l.drop m))) := by
        unfold Hid OwnsP
        rw [ST.out, List.length_append, flatP_append]
        exact hown1
      have HK1 : Hid (Kpt w8 w1) := Below.grown (show Kpt w8 (wr.alloc _).drew from Below.drew (HJ.out.alloc _)) hgrow (by simp; omega) HOW.out.ge
      clear hown1 hgrow hat hlt
      go_wp2
      go_roundw
      case rel => exact ⟨m, by omega, rfl, HO1.out, HK1.out⟩
      case measure => simp [intOf]

set_option maxRecDepth 100000 in
set_option maxHeartbeats 8000000 in
theorem bookTells_P5C0 (v t : Value) (a u : Int) (b l : List (Int × Int × Int)) (w : World) (hb : ReadsP w v b) (hl : ReadsP w t l) (hp : linE b = 0 ∧ ¬ a < 0 ∧ ¬ 100 < a ∧ ¬ u < 0 ∧ ¬ 20 < u) (hc : chkE l = 0) : Calls Try.prog 3 #[v, t, .int .i64 a, .int .i64 u] w fun e w' => e = .returned (.bool true) ∧ Kpt w w' := by
  obtain ⟨R, E, hpost⟩ := postRes_ex b l
  have PO := Lib.hid (fun w hb hl => post_twin v t b l R E w hb hl hpost)
  have RPO := Lib.hid (fun w hb hl => rpost_twin v t b l R E w hb hl hpost)
  have TR := Lib.hid (fun w hb => trial_twin v b w hb)
  have RTR := Lib.hid (fun w hb => rtrial_twin v b w hb)
  have RB := Lib.hid hb; have RL := Lib.hid hl
  have hlen := hl.len
  unfold maxLen at hlen
  have G := Lib.hid (Kpt.refl w)
  obtain ⟨hp, g1, g2, g5, g6⟩ := hp
  have g3 : decide (a < 0) = false := decide_eq_false g1
  have g4 : decide (100 < a) = false := decide_eq_false g2
  have g7 : decide (u < 0) = false := decide_eq_false g5
  have g8 : decide (20 < u) = false := decide_eq_false g6
  have hpl : plB a u = true := decide_eq_true (by omega)
  have LB := Lib.hid (fun w hr => lines_is v b w hr hp)
  have RLB := Lib.hid (fun w hr => (hp ▸ rlines_any v b w hr : Calls Try.prog 15 #[v] w fun e w' => e = .returned (.int .i64 0) ∧ Kpt w w'))
  have BAL := Lib.hid (fun w hr => bal_in v b a u w hr hp hpl)
  have RAM := Lib.hid (fun w hr => (bal_sum (lin_0 hp).2.1 a u ▸ ramt_run v b a u w hr : Calls Try.prog 16 #[v, .int .i64 a, .int .i64 u] w fun e w' => e = .returned (.int .i64 (sumAt b a u)) ∧ Kpt w w'))
  clear hp hpl
  generalize sumAt b a u = SA at *
  have l0 := (chk_0 hc).1
  have l60 := (chk_0 hc).2.1
  have PT := Lib.hid (chk_0 hc).2.2.1
  have TT := Lib.hid (turnR_0 hc)
  have TN : Hid (∀ w, ReadsP w t l → Calls Try.prog 12 #[t] w fun e w' => ∃ a n c, e = .returned (.tuple #[.slice a n c, .int .i64 0]) ∧ Hid (ReadsP w' (.slice a n c) (turnR l)) ∧ Hid (Kpt w w')) := fun w hl => by have := turn_twin t l w hl; rwa [hc] at this
  have CK : Hid (∀ w, ReadsP w t l → Calls Try.prog 20 #[t] w fun e w' => e = .returned (.int .i64 0) ∧ Grew w w') := fun w hl => by have := bookCheck_any t l w hl; rwa [hc] at this
  have RCK : Hid (∀ w, ReadsP w t l → Calls Try.prog 17 #[t] w fun e w' => e = .returned (.int .i64 0) ∧ Kpt w w') := fun w hl => by have := rchk_any t l w hl; rwa [hc] at this
  obtain ⟨al, cl, rfl, -, -, -, hcc⟩ := id hl
  have HC := Lib.hid hcc
  clear hc hcc hb hl hpost
  go_enter Try.func3, Try.ntmps3
  go_wp2_with (first
    | (go_at_call 10; (with_reducible refine (PO.out _ RB.out RL.out).mono ?_); rintro e w1 ⟨k1, a1, n1, c1, rfl, P1⟩; (try replace P1 := Lib.hid (P1.out.kpt k1.out)); (try replace T3 := Lib.hid (T3.out.kpt k1.out)); (try replace S4 := Lib.hid (S4.out.kpt k1.out)); (try replace P5 := Lib.hid (P5.out.kpt k1.out)); (try replace TU := Lib.hid (TU.out.kpt k1.out)); (try replace S9 := Lib.hid (S9.out.kpt k1.out)); replace G := Lib.hid (ktr G.out k1.out); clear k1)
    | (go_at_call 11; (with_reducible refine (BAL.out _ (RB.out.kpt G.out)).mono ?_); rintro e w2 ⟨rfl, k2⟩; (try replace P1 := Lib.hid (P1.out.kpt k2)); (try replace T3 := Lib.hid (T3.out.kpt k2)); (try replace S4 := Lib.hid (S4.out.kpt k2)); (try replace P5 := Lib.hid (P5.out.kpt k2)); (try replace TU := Lib.hid (TU.out.kpt k2)); (try replace S9 := Lib.hid (S9.out.kpt k2)); replace G := Lib.hid (ktr G.out k2); clear k2)
    | (go_at_call 12; (with_reducible refine (TN.out _ (RL.out.kpt G.out)).mono ?_); rintro e w3 ⟨a3, n3, c3, rfl, T3', k3⟩; (try replace P1 := Lib.hid (P1.out.kpt k3.out)); (try replace T3 := Lib.hid (T3.out.kpt k3.out)); (try replace S4 := Lib.hid (S4.out.kpt k3.out)); (try replace P5 := Lib.hid (P5.out.kpt k3.out)); (try replace TU := Lib.hid (TU.out.kpt k3.out)); (try replace S9 := Lib.hid (S9.out.kpt k3.out)); replace G := Lib.hid (ktr G.out k3.out); have T3 := T3'; clear k3 T3')
    | (go_at_call 13; (with_reducible refine (TR.out _ (RB.out.kpt G.out)).mono ?_); rintro e w4 ⟨k4, v4, rfl, S4'⟩; (try replace P1 := Lib.hid (P1.out.kpt k4.out)); (try replace T3 := Lib.hid (T3.out.kpt k4.out)); (try replace S4 := Lib.hid (S4.out.kpt k4.out)); (try replace P5 := Lib.hid (P5.out.kpt k4.out)); (try replace TU := Lib.hid (TU.out.kpt k4.out)); (try replace S9 := Lib.hid (S9.out.kpt k4.out)); replace G := Lib.hid (ktr G.out k4.out); have S4 := S4'; clear k4 S4')
    | (go_at_call 14; (with_reducible refine (RPO.out _ (RB.out.kpt G.out) (RL.out.kpt G.out)).mono ?_); rintro e w5 ⟨k5, a5, n5, c5, rfl, P5'⟩; (try replace P1 := Lib.hid (P1.out.kpt k5.out)); (try replace T3 := Lib.hid (T3.out.kpt k5.out)); (try replace S4 := Lib.hid (S4.out.kpt k5.out)); (try replace P5 := Lib.hid (P5.out.kpt k5.out)); (try replace TU := Lib.hid (TU.out.kpt k5.out)); (try replace S9 := Lib.hid (S9.out.kpt k5.out)); replace G := Lib.hid (ktr G.out k5.out); have P5 := P5'; clear k5 P5')
    | (go_at_call 15; (with_reducible refine (RLB.out _ (RB.out.kpt G.out)).mono ?_); rintro e w6 ⟨rfl, k6⟩; (try replace P1 := Lib.hid (P1.out.kpt k6)); (try replace T3 := Lib.hid (T3.out.kpt k6)); (try replace S4 := Lib.hid (S4.out.kpt k6)); (try replace P5 := Lib.hid (P5.out.kpt k6)); (try replace TU := Lib.hid (TU.out.kpt k6)); (try replace S9 := Lib.hid (S9.out.kpt k6)); replace G := Lib.hid (ktr G.out k6); clear k6)
    | (go_at_call 16; (with_reducible refine (RAM.out _ (RB.out.kpt G.out)).mono ?_); rintro e w7 ⟨rfl, k7⟩; (try replace P1 := Lib.hid (P1.out.kpt k7)); (try replace T3 := Lib.hid (T3.out.kpt k7)); (try replace S4 := Lib.hid (S4.out.kpt k7)); (try replace P5 := Lib.hid (P5.out.kpt k7)); (try replace TU := Lib.hid (TU.out.kpt k7)); (try replace S9 := Lib.hid (S9.out.kpt k7)); replace G := Lib.hid (ktr G.out k7); clear k7)
    | (go_at_call 17; (with_reducible refine (RCK.out _ (RL.out.kpt G.out)).mono ?_); rintro e w8 ⟨rfl, k8⟩; (try replace P1 := Lib.hid (P1.out.kpt k8)); (try replace T3 := Lib.hid (T3.out.kpt k8)); (try replace S4 := Lib.hid (S4.out.kpt k8)); (try replace P5 := Lib.hid (P5.out.kpt k8)); (try replace TU := Lib.hid (TU.out.kpt k8)); (try replace S9 := Lib.hid (S9.out.kpt k8)); replace G := Lib.hid (ktr G.out k8); clear k8))
  go_loopw [22, 23] (fun m i wr => ∃ k : Nat, k ≤ l.length ∧ i = .int .i64 ((k : Int) - 1) ∧ Hid (OwnsP wr w8.heap.size m (turnP (l.drop k))) ∧ Hid (Kpt w8 wr)) (fun _ i _ => (intOf i + 1).toNat)
  case atStart => exact ⟨l.length, Nat.le_refl _, rfl, (by unfold Hid; rw [List.drop_eq_nil_of_le (Nat.le_refl _)]; exact OwnsP.nil _ _), Kpt.refl _⟩
  case round =>
    obtain ⟨k, hk, rfl, HO, HJ⟩ := hrel
    by_cases hk0 : k = 0
    · subst hk0
      have TU : Hid (ReadsP wr u22 (turnR l)) := by unfold Hid; rw [TT.out]; exact HO.out.reads (inP_of (turn_pt PT.out))
      obtain ⟨au, nu, cu, hu, -⟩ := (show ∃ a n c, u22 = .slice a n c ∧ True from by obtain ⟨x, y, e⟩ := HO.out.form; exact ⟨x, _, y, e, trivial⟩)
      subst hu
      clear HO
      (try replace P1 := Lib.hid (P1.out.kpt HJ.out))
      (try replace T3 := Lib.hid (T3.out.kpt HJ.out))
      (try replace S4 := Lib.hid (S4.out.kpt HJ.out))
      (try replace P5 := Lib.hid (P5.out.kpt HJ.out))
      replace G := Lib.hid (ktr G.out HJ.out)
      clear HJ
      go_wp2_with (first
        | (go_at_call 18; (with_reducible refine (RTR.out _ (RB.out.kpt G.out)).mono ?_); rintro e w9 ⟨k9, v9, rfl, S9'⟩; (try replace P1 := Lib.hid (P1.out.kpt k9.out)); (try replace T3 := Lib.hid (T3.out.kpt k9.out)); (try replace S4 := Lib.hid (S4.out.kpt k9.out)); (try replace P5 := Lib.hid (P5.out.kpt k9.out)); (try replace TU := Lib.hid (TU.out.kpt k9.out)); (try replace S9 := Lib.hid (S9.out.kpt k9.out)); replace G := Lib.hid (ktr G.out k9.out); have S9 := S9'; clear k9 S9')
        | (go_at_call 19; (with_reducible refine (bookBegun _).mono ?_); rintro e w10 ⟨rfl, k10⟩; (try replace P1 := Lib.hid (P1.out.kpt k10)); (try replace T3 := Lib.hid (T3.out.kpt k10)); (try replace S4 := Lib.hid (S4.out.kpt k10)); (try replace P5 := Lib.hid (P5.out.kpt k10)); (try replace TU := Lib.hid (TU.out.kpt k10)); (try replace S9 := Lib.hid (S9.out.kpt k10)); replace G := Lib.hid (ktr G.out k10); clear k10)
        | (go_at_call 20; (with_reducible refine (CK.out _ (RL.out.kpt G.out)).mono ?_); rintro e w11 ⟨rfl, k11⟩; (try replace P1 := Lib.hid (P1.out.kpt k11.kpt)); (try replace T3 := Lib.hid (T3.out.kpt k11.kpt)); (try replace S4 := Lib.hid (S4.out.kpt k11.kpt)); (try replace P5 := Lib.hid (P5.out.kpt k11.kpt)); (try replace TU := Lib.hid (TU.out.kpt k11.kpt)); (try replace S9 := Lib.hid (S9.out.kpt k11.kpt)); replace G := Lib.hid (ktr G.out k11.kpt); clear k11)
        | (go_at_call 21; (with_reducible refine (LB.out _ (RB.out.kpt G.out)).mono ?_); rintro e w12 ⟨rfl, k12⟩; (try replace P1 := Lib.hid (P1.out.kpt k12)); (try replace T3 := Lib.hid (T3.out.kpt k12)); (try replace S4 := Lib.hid (S4.out.kpt k12)); (try replace P5 := Lib.hid (P5.out.kpt k12)); (try replace TU := Lib.hid (TU.out.kpt k12)); (try replace S9 := Lib.hid (S9.out.kpt k12)); replace G := Lib.hid (ktr G.out k12); clear k12)
        | (go_at_call 15; (with_reducible refine (RLB.out _ (RB.out.kpt G.out)).mono ?_); rintro e w13 ⟨rfl, k13⟩; (try replace P1 := Lib.hid (P1.out.kpt k13)); (try replace T3 := Lib.hid (T3.out.kpt k13)); (try replace S4 := Lib.hid (S4.out.kpt k13)); (try replace P5 := Lib.hid (P5.out.kpt k13)); (try replace TU := Lib.hid (TU.out.kpt k13)); (try replace S9 := Lib.hid (S9.out.kpt k13)); replace G := Lib.hid (ktr G.out k13); clear k13)
        | (go_at_call 22; (with_reducible refine (same_any _ _ R _ P1.out P5.out).mono ?_); rintro e w14 ⟨rfl, k14⟩; clear P1 P5; (try replace P1 := Lib.hid (P1.out.kpt k14)); (try replace T3 := Lib.hid (T3.out.kpt k14)); (try replace S4 := Lib.hid (S4.out.kpt k14)); (try replace P5 := Lib.hid (P5.out.kpt k14)); (try replace TU := Lib.hid (TU.out.kpt k14)); (try replace S9 := Lib.hid (S9.out.kpt k14)); replace G := Lib.hid (ktr G.out k14); clear k14)
        | (go_at_call 22; (with_reducible refine (same_any _ _ (turnR l) _ T3.out TU.out).mono ?_); rintro e w15 ⟨rfl, k15⟩; (try replace P1 := Lib.hid (P1.out.kpt k15)); (try replace T3 := Lib.hid (T3.out.kpt k15)); (try replace S4 := Lib.hid (S4.out.kpt k15)); (try replace P5 := Lib.hid (P5.out.kpt k15)); (try replace TU := Lib.hid (TU.out.kpt k15)); (try replace S9 := Lib.hid (S9.out.kpt k15)); replace G := Lib.hid (ktr G.out k15); clear k15)
        | (go_at_call 23; (with_reducible refine (sameI_run _ _ (triR b) _ S4.out S9.out).mono ?_); rintro e w16 ⟨rfl, k16⟩; (try replace P1 := Lib.hid (P1.out.kpt k16)); (try replace T3 := Lib.hid (T3.out.kpt k16)); (try replace S4 := Lib.hid (S4.out.kpt k16)); (try replace P5 := Lib.hid (P5.out.kpt k16)); (try replace TU := Lib.hid (TU.out.kpt k16)); (try replace S9 := Lib.hid (S9.out.kpt k16)); replace G := Lib.hid (ktr G.out k16); clear k16))
      go_ret
      exact ⟨rfl, G.out⟩
    · obtain ⟨m, hkm⟩ : ∃ m, k = m + 1 := ⟨k - 1, by omega⟩
      subst hkm
      have e : ((m + 1 : Nat) : Int) - 1 = (m : Int) := by omega
      rw [e]
      obtain ⟨x, off, rfl, hq⟩ := HC.out m (by omega)
      obtain ⟨c0, c1, c2⟩ := (hq.kpt G.out).kpt HJ.out
      have xl : x < w8.heap.size := cell_in (hq.kpt G.out).1
      have st := turn_step (l := l) (k := m) (by omega)
      have pm := PT.out _ (getP_mem (show m < l.length by omega))
      clear hq e
      generalize l.getD m default = q at c0 c1 c2 st pm
      have pb := pt_t pm
      obtain ⟨A, U, N⟩ := q
      simp only at c0 c1 c2 pb
      obtain ⟨-, -, -, -, -, b0, b1⟩ := pb
      have ST : Hid (turnP (l.drop m) = turnP (l.drop (m + 1)) ++ [(A, U, -N)]) := st
      have IN : Hid (InP [(A, U, -N)]) := inP_of fun p hp => by rw [List.mem_singleton.1 hp]; exact neg_pt pm
      have LT : Hid ((turnP (l.drop (m + 1))).length ≤ 60) := by unfold Hid; rw [turn_len, List.length_drop]; omega
      have m0 : (0 : Int) ≤ (m : Int) := by omega
      have m1 : (m : Int) < (l.length : Int) := by omega
      clear st pm
      obtain ⟨i0, hi0, hz0, hz1, hz2⟩ := info_parts Try.infoPost
      have HOW : Hid (OwnsP (wr.alloc (.cells #[.int .i64 A, .int .i64 U, .int .i64 (-N)] 35)).drew w8.heap.size u22 (turnP (l.drop (m + 1)))) := (HO.out.alloc _).kpt (show Kpt _ (World.drew _) from Below.drew (Kpt.refl _))
      have BS := HJ.out.size
      have lx : x < wr.heap.size := cell_in c0
      have AG : Hid (u22.ownBlock ≠ some x) := fun e => by
        have h1 := HO.out.ge x e
        omega
      have hneg : IntKind.i64.wrap (-N) = -N := IntWalk.i64_in _ (by omega)
      have ln : (turnP (l.drop (m + 1))).length + 1 ≤ maxLen := by have := LT.out; unfold maxLen; omega
      have lb' : ((turnP (l.drop (m + 1))).length + 1) * 24 ≤ 140737488355328 := by have := LT.out; omega
      go_wp2_with fail
      go_region_held3 (fun w' => w'.cell? ⟨x, off + m * 3, none⟩ = some (.int .i64 A) ∧ w'.cell? ⟨x, off + m * 3 + 1, none⟩ = some (.int .i64 U) ∧ w'.cell? ⟨x, off + m * 3 + 2, none⟩ = some (.int .i64 N))
        (first
          | go_keep
          | (go_split_ands
             refine ⟨?_, ?_, ?_⟩
             · (rw [hgrow.cell_far _ (by simp; omega) (Ne.symm AG.out)]; assumption)
             · (rw [hgrow.cell_far _ (by simp; omega) (Ne.symm AG.out)]; assumption)
             · (rw [hgrow.cell_far _ (by simp; omega) (Ne.symm AG.out)]; assumption)))
        ((refine step_append_lies _ (by rfl) _ _ _ (by rfl) w8.heap.size 35 i0 _ 3 24 Try.underlying22 hi0 hz0 hz1 hz2 rfl (by omega) u22 (turnP (l.drop (m + 1))).length (flatP (turnP (l.drop (m + 1)))) (by rfl) HOW.out
            ⟨wr.heap.size, 0, none⟩ 1 1 [.int .i64 A, .int .i64 U, .int .i64 (-N)] (by rfl) (by rfl) (World.news_of_block (cs := #[.int .i64 A, .int .i64 U, .int .i64 (-N)]) (t := 35) (fr := (0, 0)) (heap_alloc_new wr _)) (by simp [Value.oneCell'])
            (by omega) ln lb' (by simp; omega) (wr.heap.size + 1) (by simp) ?_; intro gg cap w1 hown1 hgrow hat hlt))
      have HO1 : Hid (OwnsP w1 w8.heap.size (.slice (some ⟨gg, 0, none⟩) ((turnP (l.drop (m + 1))).length + 1) cap) (turnP (l.drop m))) := by
        unfold Hid OwnsP
        rw [ST.out, List.length_append, flatP_append]
        exact hown1
      have HK1 : Hid (Kpt w8 w1) := Below.grown (show Kpt w8 (wr.alloc _).drew from Below.drew (HJ.out.alloc _)) hgrow (by simp; omega) HOW.out.ge
      clear hown1 hgrow hat hlt
      go_wp2
      go_roundw
      case rel => exact ⟨m, by omega, rfl, HO1.out, HK1.out⟩
      case measure => simp [intOf]

end Go.Proofs.Ytcpfldlcocencaa
