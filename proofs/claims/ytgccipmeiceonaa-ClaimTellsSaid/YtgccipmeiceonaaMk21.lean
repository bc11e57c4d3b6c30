/-
  Merged: RefClm2.
-/
import Derived.Test.YtgccipmeiceonaaMk13
import Derived.Test.YtgccipmeiceonaaMk20
import Derived.Test.YtgccipmeiceonaaMk16
import Derived.Test.YtgccipmeiceonaaQuietK
import Derived.Deep.RegionHeld3
-- RefClm2
namespace Go.Proofs.Ytgccipmeiceonaa
open Go.RowKit
set_option linter.unusedVariables false

theorem hit_lenK (P : Int) (fs : List (List Int)) (k : Nat) : (hit P fs k).length ≤ k := by
  unfold hit
  exact Nat.le_trans (List.length_filter_le _ _) (by rw [List.length_take]; omega)
theorem dues_take {P C : Int} {fs : List (List Int)} {k : Nat} (h : k < fs.length) : duesOf C fs (hit P fs (k + 1)) = duesOf C fs (hit P fs k) ++ (if hitB P (fs.getD k []) = true then dueL C (fs.getD k []) else []) := by
  rw [hit_s h]
  split
  · rw [duesOf_s]
  · rw [List.append_nil, List.append_nil]
theorem psts_take {P G O : Int} {fs : List (List Int)} {k : Nat} (h : k < fs.length) : pstsOf P G O fs (hit P fs (k + 1)) = pstsOf P G O fs (hit P fs k) ++ (if hitB P (fs.getD k []) = true then pstL P G O (fs.getD k []) else []) := by
  rw [hit_s h]
  split
  · rw [pstsOf_s]
  · rw [List.append_nil, List.append_nil]
theorem ids_fl {ids : List Int} {fs : List (List Int)} (h : idsE ids fs = 0) : ∀ l ∈ fs, failEL l = 0 := by
  induction fs generalizing ids with
  | nil => intro l hl; cases hl
  | cons l fs ih =>
    unfold idsE at h
    by_cases h1 : failEL l = 0
    · rw [if_neg (by simpa using h1)] at h
      split at h
      · cases h
      · intro k hk
        rcases List.mem_cons.1 hk with rfl | hk
        · exact h1
        · exact ih h k hk
    · rw [if_pos h1] at h; exact absurd h h1
theorem cks_fl {fs : List (List Int)} (h : checksE fs = 0) : ∀ l ∈ fs, failEL l = 0 := by
  unfold checksE at h
  split at h
  · cases h
  · exact ids_fl h

set_option maxHeartbeats 4000000 in
theorem rcl_no (P C G O : Int) (v : Value) (fs : List (List Int)) (w : World) (hr : ReadsF w v fs) (h : cwE P C G O fs ≠ 0) :
    Calls Try.prog 42 #[.agg #[.int .i64 P, .int .i64 C, .int .i64 G, .int .i64 O], v] w fun e w' => e = .returned (.tuple #[.slice none 0 0, .slice none 0 0, .int .i64 (cwE P C G O fs)]) ∧ Kpt w w' := by
  have CE := Lib.hid (fun w' => rev_run P C G O w')
  have FC := Lib.hid (fun w' (k : Kpt w w') => rfcs_run v fs w' (hr.kpt k))
  have KA : Hid (Kpt w (w.alloc (.cells #[.int .i64 P, .int .i64 C, .int .i64 G, .int .i64 O] 53))) := (Kpt.refl w).alloc _
  obtain ⟨a, n, c, rfl⟩ : ∃ a n c, v = .slice a n c := by obtain ⟨a, c, rfl, -⟩ := hr; exact ⟨_, _, _, rfl⟩
  clear hr
  by_cases h1 : evE P C G O = 0
  · have e : cwE P C G O fs = checksE fs := if_pos h1
    rw [e] at h ⊢
    rw [h1] at CE
    have q : (checksE fs != 0) = true := bne_iff_ne.2 h
    clear h h1 e
    generalize checksE fs = E at *
    go_enter Try.func42, Try.ntmps42
    go_wp2_with (first
      | (go_at_call 46; (with_reducible refine (CE.out _).mono ?_); rintro e w1 ⟨rfl, k1⟩; have K1 := Lib.hid (ktr KA.out k1); clear k1)
      | (go_at_call 86; (with_reducible refine (FC.out _ K1.out).mono ?_); rintro e w2 ⟨rfl, k1⟩; have K2 := Lib.hid (ktr K1.out k1); clear k1)
      | fail)
    go_ret3
    exact ⟨rfl, K2.out⟩
  · have e : cwE P C G O fs = evE P C G O := if_neg h1
    rw [e] at h ⊢
    have q : (evE P C G O != 0) = true := bne_iff_ne.2 h
    have q0 : (evE P C G O == 0) = false := beq_eq_false_iff_ne.2 h
    clear h h1 e FC
    generalize evE P C G O = E at *
    go_enter Try.func42, Try.ntmps42
    go_wp2_with (first
      | (go_at_call 46; (with_reducible refine (CE.out _).mono ?_); rintro e w1 ⟨rfl, k1⟩; have K1 := Lib.hid (ktr KA.out k1); clear k1)
      | fail)
    go_ret3
    exact ⟨rfl, K1.out⟩

set_option maxRecDepth 100000 in
set_option maxHeartbeats 16000000 in
theorem rcl_ok (P C G O : Int) (a : Option Addr) (n cap : Nat) (fs : List (List Int)) (w : World) (hr : ReadsF w (.slice a n cap) fs) (hn : n = fs.length) (h : cwE P C G O fs = 0) :
    Calls Try.prog 42 #[.agg #[.int .i64 P, .int .i64 C, .int .i64 G, .int .i64 O], .slice a n cap] w fun e w' => ∃ dv pv, e = .returned (.tuple #[dv, pv, .int .i64 0]) ∧ OwnsT 80 w' w.heap.size dv (duesOf C fs (hit P fs fs.length)) ∧ OwnsT 94 w' w.heap.size pv (pstsOf P G O fs (hit P fs fs.length)) ∧ Kpt w w' := by
  obtain ⟨h1, h2⟩ := cwE_0 h
  have ev := evE_0 h1
  have h60 := checks_60 h2
  have hfl := cks_fl h2
  have CE := Lib.hid (fun w' => rev_run P C G O w')
  rw [h1] at CE
  have FC := Lib.hid (fun w' (k : Kpt w w') => rfcs_run _ fs w' (hr.kpt k))
  rw [h2] at FC
  have HF : Hid (∀ k, k < n → ∃ g off, a = some ⟨g, off, none⟩ ∧ FlAt w g (off + k * 10) (fs.getD k [])) := by
    obtain ⟨a', cap', e, hm, hb, hc⟩ := hr
    injection e with e1 e2 e3
    subst e1
    exact fun k hk => hc k (by omega)
  have HFL : Hid (∀ k, k < n → failEL (fs.getD k []) = 0) := fun k hk => by rw [List.getD_eq_getElem?_getD, List.getElem?_eq_getElem (by omega)]; exact hfl _ (List.getElem_mem _)
  obtain ⟨wA, hwA⟩ : ∃ x, x = w.alloc (.cells #[.int .i64 P, .int .i64 C, .int .i64 G, .int .i64 O] 53) := ⟨_, rfl⟩
  have KA : Hid (Kpt w wA) := by rw [hwA]; exact (Kpt.refl w).alloc _
  have BC : Hid (Blk wA w.heap.size #[.int .i64 P, .int .i64 C, .int .i64 G, .int .i64 O] 53) := by rw [hwA]; exact Blk.made _ _ _
  obtain ⟨dl, hdl⟩ : ∃ f : Nat → List (Int × Int × Int), ∀ k, duesOf C fs (hit P fs k) = f k := ⟨_, fun _ => rfl⟩
  obtain ⟨pl, hpl⟩ : ∃ f : Nat → List (Int × Int × Int), ∀ k, pstsOf P G O fs (hit P fs k) = f k := ⟨_, fun _ => rfl⟩
  have D0 : Hid (dl 0 = []) := by unfold Hid; rw [← hdl]; rfl
  have P0 : Hid (pl 0 = []) := by unfold Hid; rw [← hpl]; rfl
  have DT : Hid (∀ k, k < n → dl (k + 1) = dl k ++ (if hitB P (fs.getD k []) = true then dueL C (fs.getD k []) else [])) := fun k hk => by rw [← hdl, ← hdl]; exact dues_take (by omega)
  have PT : Hid (∀ k, k < n → pl (k + 1) = pl k ++ (if hitB P (fs.getD k []) = true then pstL P G O (fs.getD k []) else [])) := fun k hk => by rw [← hpl, ← hpl]; exact psts_take (by omega)
  have LD : Hid (∀ k, k ≤ n → (dl k).length ≤ 60) := fun k hk => by rw [← hdl]; have := duesOf_len C fs (hit P fs k); have := hit_lenK P fs k; omega
  have LP : Hid (∀ k, k ≤ n → (pl k).length ≤ 120) := fun k hk => by rw [← hpl]; have := pstsOf_len P G O fs (hit P fs k); have := hit_lenK P fs k; omega
  rw [hdl, hpl, ← hn]
  have hn60 : n ≤ 60 := by omega
  have HEV := Lib.hid ev
  have p0 : 1 ≤ P ∧ P ≤ 20 := ev.1
  clear hr h h1 h2 ev h60 hfl hdl hpl hn
  go_enter Try.func42, Try.ntmps42
  go_upto_region 1 with (first | fail)
  rw [← hwA]
  have a0 : World.cell? wA ⟨w.heap.size, 0, none⟩ = some (.int .i64 P) := BC.out.cell 0
  have a1 : World.cell? wA ⟨w.heap.size, 1, none⟩ = some (.int .i64 C) := BC.out.cell 1
  have a2 : World.cell? wA ⟨w.heap.size, 2, none⟩ = some (.int .i64 G) := BC.out.cell 2
  have a3 : World.cell? wA ⟨w.heap.size, 3, none⟩ = some (.int .i64 O) := BC.out.cell 3
  clear hwA
  have mixed : Try.prog.follows .mixedOrders = true := by kernel_rfl
  go_wp2_with (first
    | (go_at_call 46; (with_reducible refine (CE.out _).mono ?_); rintro e w1 ⟨rfl, k1⟩; have V1 : Hid (Kpt wA w1) := k1; have K1 := Lib.hid (ktr KA.out k1); clear k1 a0 a1 a2 a3)
    | (go_at_call 86; (with_reducible refine (FC.out _ K1.out).mono ?_); rintro e w2 ⟨rfl, k1⟩; have V2 : Hid (Kpt wA w2) := ktr V1.out k1; have K2 := Lib.hid (ktr K1.out k1); clear k1)
    | fail)
  go_loopw [8, 9, 10] (fun d p i wr => ∃ k : Nat, k ≤ n ∧ i = .int .i64 k ∧ Hid (OwnsT 80 wr wA.heap.size d (dl k)) ∧ Hid (OwnsT 94 wr wA.heap.size p (pl k)) ∧ Hid (Kpt wA wr) ∧ Hid (Kpt w wr)) (fun _ _ i _ => n - (intOf i).toNat)
  case atStart => exact ⟨0, Nat.zero_le _, rfl, by unfold Hid; rw [D0.out]; exact OwnsT.nil _ _ _, by unfold Hid; rw [P0.out]; exact OwnsT.nil _ _ _, V2.out, K2.out⟩
  case round =>
    obtain ⟨k, hk, rfl, HD, HP, HV, HK⟩ := hrel
    by_cases hlt : k < n
    · obtain ⟨g, off, rfl, hfa⟩ := HF.out k hlt
      have FL := HFL.out k hlt
      have DTn := DT.out k hlt
      have PTn := PT.out k hlt
      have ld := LD.out k hk
      have lp := LP.out k hk
      generalize fs.getD k [] = l at *
      have G0 : Hid (w.cell? ⟨g, off + k * 10, none⟩ = some (.int .i64 (l.getD 0 0))) := hfa 0 (by decide)
      have G1 : Hid (w.cell? ⟨g, off + k * 10 + 1, none⟩ = some (.int .i64 (l.getD 1 0))) := hfa 1 (by decide)
      have G2 : Hid (w.cell? ⟨g, off + k * 10 + 2, none⟩ = some (.int .i64 (l.getD 2 0))) := hfa 2 (by decide)
      have G3 : Hid (w.cell? ⟨g, off + k * 10 + 3, none⟩ = some (.int .i64 (l.getD 3 0))) := hfa 3 (by decide)
      have G4 : Hid (w.cell? ⟨g, off + k * 10 + 4, none⟩ = some (.int .i64 (l.getD 4 0))) := hfa 4 (by decide)
      have G5 : Hid (w.cell? ⟨g, off + k * 10 + 5, none⟩ = some (.int .i64 (l.getD 5 0))) := hfa 5 (by decide)
      have G6 : Hid (w.cell? ⟨g, off + k * 10 + 6, none⟩ = some (.int .i64 (l.getD 6 0))) := hfa 6 (by decide)
      have G7 : Hid (w.cell? ⟨g, off + k * 10 + 7, none⟩ = some (.int .i64 (l.getD 7 0))) := hfa 7 (by decide)
      have G8 : Hid (w.cell? ⟨g, off + k * 10 + 8, none⟩ = some (.int .i64 (l.getD 8 0))) := hfa 8 (by decide)
      have G9 : Hid (w.cell? ⟨g, off + k * 10 + 9, none⟩ = some (.int .i64 (l.getD 9 0))) := hfa 9 (by decide)
      have fe : failE (l.getD 0 0) (l.getD 1 0) (l.getD 2 0) (l.getD 3 0) (l.getD 4 0) (l.getD 5 0) (l.getD 6 0) (l.getD 7 0) (l.getD 8 0) (l.getD 9 0) = 0 := FL
      obtain ⟨f1, -, f3, -⟩ := fail_0 fe
      obtain ⟨-, -, -, -, -, hu⟩ := fdue_t f1
      obtain ⟨hx, hb, hy⟩ := ftk_t f3
      have ho : 0 ≤ openL l ∧ openL l ≤ 1073741824 := openV_bd _ _ _ _ _ _ _ _ _ _
      have hop : openL l = l.getD 6 0 - l.getD 7 0 - l.getD 8 0 - l.getD 9 0 := by unfold openL openV; rw [if_pos fe]
      have FO := Lib.hid (fun w' => rfo_run (l.getD 0 0) (l.getD 1 0) (l.getD 2 0) (l.getD 3 0) (l.getD 4 0) (l.getD 5 0) (l.getD 6 0) (l.getD 7 0) (l.getD 8 0) (l.getD 9 0) w' hu hx hb hy)
      rw [← hop] at FO
      have CA := Lib.hid (fun w' => rcash_run P C G O (openL l) HEV.out.2.1 ho w')
      have FR := Lib.hid (fun w' => rfresh_run P C G O (openL l) HEV.out.2.2.1 HEV.out.2.2.2.1 ho w')
      have cb := cost_bd ho HEV.out.2.1
      have mb := ho_mul ho HEV.out.2.2.1
      have fb : 0 ≤ hoN G O (openL l) ∧ hoN G O (openL l) ≤ 1073741824000 := by
        unfold hoN
        split
        · omega
        · exact ⟨Int.ediv_nonneg mb.1 HEV.out.2.2.2.1.1, Int.le_trans (Int.ediv_le_self _ mb.1) mb.2⟩
      have hh : hitB P l = (decide (l.getD 4 0 = P) && decide (0 < openL l)) := rfl
      rw [hh] at DTn PTn
      unfold dueL at DTn
      unfold pstL at PTn
      clear hfa FL fe f1 f3 hu hx hb hy hop cb mb hh
      generalize hoC C (openL l) = cs at *
      generalize hoN G O (openL l) = fr at *
      generalize hoR G O (openL l) = rr at *
      generalize openL l = o at *
      generalize l.getD 0 0 = z0 at *
      generalize l.getD 1 0 = z1 at *
      generalize l.getD 2 0 = z2 at *
      generalize l.getD 3 0 = z3 at *
      generalize l.getD 4 0 = z4 at *
      generalize l.getD 5 0 = z5 at *
      generalize l.getD 6 0 = z6 at *
      generalize l.getD 7 0 = z7 at *
      generalize l.getD 8 0 = z8 at *
      generalize l.getD 9 0 = z9 at *
      have i0 : (0 : Int) ≤ (k : Int) := by omega
      have i1 : (k : Int) < (n : Int) := by omega
      by_cases hp4 : z4 = P
      · by_cases hop : 0 < o
        · rw [decide_eq_true hp4, decide_eq_true hop, Bool.and_self, if_pos rfl] at DTn PTn
          have q1 : (z4 != P) = false := by simpa using hp4
          have q2 : (o == 0) = false := beq_eq_false_iff_ne.2 (by omega)
          clear hp4 hop
          go_upto_region 11 with (first | fail)
          have KQ : Hid (Kpt w wr) := HK
          have KV : Hid (Kpt wA wr) := HV
          have s0 := cell_k (q := wr) (KQ.out.cell G0.out)
          have s1 := cell_k (q := wr) (KQ.out.cell G1.out)
          have s2 := cell_k (q := wr) (KQ.out.cell G2.out)
          have s3 := cell_k (q := wr) (KQ.out.cell G3.out)
          have s4 := cell_k (q := wr) (KQ.out.cell G4.out)
          have s5 := cell_k (q := wr) (KQ.out.cell G5.out)
          have s6 := cell_k (q := wr) (KQ.out.cell G6.out)
          have s7 := cell_k (q := wr) (KQ.out.cell G7.out)
          have s8 := cell_k (q := wr) (KQ.out.cell G8.out)
          have s9 := cell_k (q := wr) (KQ.out.cell G9.out)
          have b0 := cell_k (q := wr) (a := ⟨w.heap.size, 0, none⟩) (v := .int .i64 P) ((BC.out.kpt KV.out).cell 0)
          have b1 := cell_k (q := wr) (a := ⟨w.heap.size, 1, none⟩) (v := .int .i64 C) ((BC.out.kpt KV.out).cell 1)
          have b2 := cell_k (q := wr) (a := ⟨w.heap.size, 2, none⟩) (v := .int .i64 G) ((BC.out.kpt KV.out).cell 2)
          have b3 := cell_k (q := wr) (a := ⟨w.heap.size, 3, none⟩) (v := .int .i64 O) ((BC.out.kpt KV.out).cell 3)
          refine quiet_k (q := wr) mixed (by kernel_rfl) ?_
          repeat (go_big_quiet_step (first | (go_at_call 67; with_reducible refine calls_k (FO.out _)) | fail))
          refine wpQuiet_nil ?_
          intro w3 hw1
          obtain ⟨⟨wz, kz⟩, hw2⟩ := hw1
          have hw3 : w3 = wz := hw2
          clear hw2
          subst hw3
          have Kw3 : Hid (Kpt w w3) := ktr KQ.out kz
          have Vw3 : Hid (Kpt wA w3) := ktr KV.out kz
          have Rw3 : Hid (Kpt wr w3) := kz
          clear s0 s1 s2 s3 s4 s5 s6 s7 s8 s9 b0 b1 b2 b3 kz KQ KV
          go_upto_region 12 with (first | fail)
          have KQ : Hid (Kpt w w3) := Kw3
          have KV : Hid (Kpt wA w3) := Vw3
          have s0 := cell_k (q := w3) (KQ.out.cell G0.out)
          have s1 := cell_k (q := w3) (KQ.out.cell G1.out)
          have s2 := cell_k (q := w3) (KQ.out.cell G2.out)
          have s3 := cell_k (q := w3) (KQ.out.cell G3.out)
          have s4 := cell_k (q := w3) (KQ.out.cell G4.out)
          have s5 := cell_k (q := w3) (KQ.out.cell G5.out)
          have s6 := cell_k (q := w3) (KQ.out.cell G6.out)
          have s7 := cell_k (q := w3) (KQ.out.cell G7.out)
          have s8 := cell_k (q := w3) (KQ.out.cell G8.out)
          have s9 := cell_k (q := w3) (KQ.out.cell G9.out)
          have b0 := cell_k (q := w3) (a := ⟨w.heap.size, 0, none⟩) (v := .int .i64 P) ((BC.out.kpt KV.out).cell 0)
          have b1 := cell_k (q := w3) (a := ⟨w.heap.size, 1, none⟩) (v := .int .i64 C) ((BC.out.kpt KV.out).cell 1)
          have b2 := cell_k (q := w3) (a := ⟨w.heap.size, 2, none⟩) (v := .int .i64 G) ((BC.out.kpt KV.out).cell 2)
          have b3 := cell_k (q := w3) (a := ⟨w.heap.size, 3, none⟩) (v := .int .i64 O) ((BC.out.kpt KV.out).cell 3)
          refine quiet_k (q := w3) mixed (by kernel_rfl) ?_
          repeat (go_big_quiet_step (first | (go_at_call 67; with_reducible refine calls_k (FO.out _)) | (go_at_call 40; with_reducible refine calls_k (CA.out _)) | fail))
          refine wpQuiet_nil ?_
          intro w4 hw1
          obtain ⟨⟨wz, kz⟩, hw2⟩ := hw1
          have hw3 : w4 = wz := hw2
          clear hw2
          subst hw3
          have Kw4 : Hid (Kpt w w4) := ktr KQ.out kz
          have Vw4 : Hid (Kpt wA w4) := ktr KV.out kz
          have Rw4 : Hid (Kpt w3 w4) := kz
          clear s0 s1 s2 s3 s4 s5 s6 s7 s8 s9 b0 b1 b2 b3 kz KQ KV
          have OD4 : Hid (OwnsT 80 w4 wA.heap.size u8 (dl k)) := ct_kpt (ct_kpt HD.out Rw3.out) Rw4.out
          have OP4 : Hid (OwnsT 94 w4 wA.heap.size u9 (pl k)) := ct_kpt (ct_kpt HP.out Rw3.out) Rw4.out
          clear HD HP Rw3 Rw4
          by_cases hcs : 0 < cs
          · rw [if_pos hcs] at DTn
            have DT2 := Lib.hid DTn
            have y1 : decide (0 < cs) = true := decide_eq_true hcs
            clear hcs DTn
            have c1 : w4.cell? ⟨g, off + k * 10 + 1, none⟩ = some (.int .i64 z1) := Kw4.out.cell G1.out
            have c2 : w4.cell? ⟨g, off + k * 10 + 2, none⟩ = some (.int .i64 z2) := Kw4.out.cell G2.out
            have F2 : Hid (Kpt w (w4.alloc (.cells #[.int .i64 z1, .int .i64 z2, .int .i64 cs] 80)).drew) := Below.drew (Kpt.alloc Kw4.out _)
            have V2' : Hid (Kpt wA (w4.alloc (.cells #[.int .i64 z1, .int .i64 z2, .int .i64 cs] 80)).drew) := Below.drew (Kpt.alloc Vw4.out _)
            have X2 : Hid (Kpt w4 (w4.alloc (.cells #[.int .i64 z1, .int .i64 z2, .int .i64 cs] 80)).drew) := Below.drew (Kpt.alloc (Kpt.refl w4) _)
            have e1 : ((w4.alloc (.cells #[.int .i64 z1, .int .i64 z2, .int .i64 cs] 80)).drew).cell? ⟨g, off + k * 10 + 1, none⟩ = some (.int .i64 z1) := F2.out.cell G1.out
            have e2 : ((w4.alloc (.cells #[.int .i64 z1, .int .i64 z2, .int .i64 cs] 80)).drew).cell? ⟨g, off + k * 10 + 2, none⟩ = some (.int .i64 z2) := F2.out.cell G2.out
            have ODx := Lib.hid (ct_kpt OD4.out X2.out)
            have OPx := Lib.hid (ct_kpt OP4.out X2.out)
            go_upto_region 14 with (first | fail)
            go_region_held3 (fun w' => w'.cell? ⟨g, off + k * 10 + 1, none⟩ = some (.int .i64 z1) ∧ w'.cell? ⟨g, off + k * 10 + 2, none⟩ = some (.int .i64 z2))
              (first | go_keep | exact ⟨f0, f1⟩ | exact ⟨e1, e2⟩)
              (first | (refine step_cD (by rfl) _ _ (by rfl) wA.heap.size _ (dl k) z1 z2 cs (by rfl) ODx.out w4.heap.size (by rfl) (show Blk (w4.alloc (.cells #[.int .i64 z1, .int .i64 z2, .int .i64 cs] 80)).drew w4.heap.size #[.int .i64 z1, .int .i64 z2, .int .i64 cs] 80 from Blk.made w4 _ _) (by omega) V2'.out.size _ (pl k) OPx.out ?_; intro gg nn cap9 w5 hnn h1 hop h2; have OD5 : Hid (OwnsT 80 w5 wA.heap.size (.slice (some ⟨gg, 0, none⟩) nn cap9) (dl (k + 1))) := (by unfold Hid; rw [DT2.out]; exact h1); have OP5 := Lib.hid hop; have Vw5 : Hid (Kpt wA w5) := Below.trans V2'.out h2; have Kw5 : Hid (Kpt w w5) := ktr KA.out Vw5.out; have f0 := Kw5.out.cell G1.out; have f1 := Kw5.out.cell G2.out; clear h1 h2 hnn hop) | fail)
            refine ‹∀ (a : Act) (w_1 : World), Code.wp _ _ _ a w_1 → _› _ _ ?_
            clear c1 c2 e1 e2 f0 f1 F2 V2' X2 ODx OPx
            go_upto_region 15 with (first | fail)
            have KQ : Hid (Kpt w w5) := Kw5
            have KV : Hid (Kpt wA w5) := Vw5
            have s0 := cell_k (q := w5) (KQ.out.cell G0.out)
            have s1 := cell_k (q := w5) (KQ.out.cell G1.out)
            have s2 := cell_k (q := w5) (KQ.out.cell G2.out)
            have s3 := cell_k (q := w5) (KQ.out.cell G3.out)
            have s4 := cell_k (q := w5) (KQ.out.cell G4.out)
            have s5 := cell_k (q := w5) (KQ.out.cell G5.out)
            have s6 := cell_k (q := w5) (KQ.out.cell G6.out)
            have s7 := cell_k (q := w5) (KQ.out.cell G7.out)
            have s8 := cell_k (q := w5) (KQ.out.cell G8.out)
            have s9 := cell_k (q := w5) (KQ.out.cell G9.out)
            have b0 := cell_k (q := w5) (a := ⟨w.heap.size, 0, none⟩) (v := .int .i64 P) ((BC.out.kpt KV.out).cell 0)
            have b1 := cell_k (q := w5) (a := ⟨w.heap.size, 1, none⟩) (v := .int .i64 C) ((BC.out.kpt KV.out).cell 1)
            have b2 := cell_k (q := w5) (a := ⟨w.heap.size, 2, none⟩) (v := .int .i64 G) ((BC.out.kpt KV.out).cell 2)
            have b3 := cell_k (q := w5) (a := ⟨w.heap.size, 3, none⟩) (v := .int .i64 O) ((BC.out.kpt KV.out).cell 3)
            refine quiet_k (q := w5) mixed (by kernel_rfl) ?_
            repeat (go_big_quiet_step (first | (go_at_call 67; with_reducible refine calls_k (FO.out _)) | (go_at_call 41; with_reducible refine calls_k (FR.out _)) | fail))
            refine wpQuiet_nil ?_
            intro w6 hw1
            obtain ⟨⟨wz, kz⟩, hw2⟩ := hw1
            have hw3 : w6 = wz := hw2
            clear hw2
            subst hw3
            have Kw6 : Hid (Kpt w w6) := ktr KQ.out kz
            have Vw6 : Hid (Kpt wA w6) := ktr KV.out kz
            have Rw6 : Hid (Kpt w5 w6) := kz
            clear s0 s1 s2 s3 s4 s5 s6 s7 s8 s9 b0 b1 b2 b3 kz KQ KV
            have OD6 : Hid (OwnsT 80 w6 wA.heap.size (.slice (some ⟨gg, 0, none⟩) nn cap9) (dl (k + 1))) := ct_kpt OD5.out Rw6.out
            have OP6 : Hid (OwnsT 94 w6 wA.heap.size u9 (pl k)) := ct_kpt OP5.out Rw6.out
            by_cases hfr : 0 < fr
            · rw [if_pos hfr] at PTn
              have PT2 := Lib.hid PTn
              have y2 : decide (0 < fr) = true := decide_eq_true hfr
              have m1 : IntKind.i64.wrap (-fr) = -fr := IntWalk.i64_in _ (by omega)
              clear hfr PTn
              have c1 : w6.cell? ⟨g, off + k * 10 + 1, none⟩ = some (.int .i64 z1) := Kw6.out.cell G1.out
              have c2 : w6.cell? ⟨g, off + k * 10 + 2, none⟩ = some (.int .i64 z2) := Kw6.out.cell G2.out
              have c3 : w6.cell? ⟨w.heap.size, 0, none⟩ = some (.int .i64 P) := (BC.out.kpt Vw6.out).cell 0
              have F2 : Hid (Kpt w (w6.alloc (.cells #[.int .i64 z1, .int .i64 P, .int .i64 (-fr), .int .i64 z2, .int .i64 P, .int .i64 fr] 94)).drew) := Below.drew (Kpt.alloc Kw6.out _)
              have V2' : Hid (Kpt wA (w6.alloc (.cells #[.int .i64 z1, .int .i64 P, .int .i64 (-fr), .int .i64 z2, .int .i64 P, .int .i64 fr] 94)).drew) := Below.drew (Kpt.alloc Vw6.out _)
              have X2 : Hid (Kpt w6 (w6.alloc (.cells #[.int .i64 z1, .int .i64 P, .int .i64 (-fr), .int .i64 z2, .int .i64 P, .int .i64 fr] 94)).drew) := Below.drew (Kpt.alloc (Kpt.refl w6) _)
              have e1 : ((w6.alloc (.cells #[.int .i64 z1, .int .i64 P, .int .i64 (-fr), .int .i64 z2, .int .i64 P, .int .i64 fr] 94)).drew).cell? ⟨g, off + k * 10 + 1, none⟩ = some (.int .i64 z1) := F2.out.cell G1.out
              have e2 : ((w6.alloc (.cells #[.int .i64 z1, .int .i64 P, .int .i64 (-fr), .int .i64 z2, .int .i64 P, .int .i64 fr] 94)).drew).cell? ⟨g, off + k * 10 + 2, none⟩ = some (.int .i64 z2) := F2.out.cell G2.out
              have e3 : ((w6.alloc (.cells #[.int .i64 z1, .int .i64 P, .int .i64 (-fr), .int .i64 z2, .int .i64 P, .int .i64 fr] 94)).drew).cell? ⟨w.heap.size, 0, none⟩ = some (.int .i64 P) := (BC.out.kpt V2'.out).cell 0
              have ODx := Lib.hid (ct_kpt OD6.out X2.out)
              have OPx := Lib.hid (ct_kpt OP6.out X2.out)
              go_upto_region 17 with (first | fail)
              go_region_held3 (fun w' => w'.cell? ⟨g, off + k * 10 + 1, none⟩ = some (.int .i64 z1) ∧ w'.cell? ⟨g, off + k * 10 + 2, none⟩ = some (.int .i64 z2) ∧ w'.cell? ⟨w.heap.size, 0, none⟩ = some (.int .i64 P))
                (first | go_keep | exact ⟨f0, f1, f2⟩ | exact ⟨e1, e2, e3⟩)
                (first | (refine step_cP (by rfl) _ _ (by rfl) wA.heap.size _ (pl k) z1 P (-fr) z2 P fr (by rfl) OPx.out w6.heap.size (by rfl) (show Blk (w6.alloc (.cells #[.int .i64 z1, .int .i64 P, .int .i64 (-fr), .int .i64 z2, .int .i64 P, .int .i64 fr] 94)).drew w6.heap.size #[.int .i64 z1, .int .i64 P, .int .i64 (-fr), .int .i64 z2, .int .i64 P, .int .i64 fr] 94 from Blk.made w6 _ _) (by omega) V2'.out.size _ (dl (k + 1)) ODx.out ?_; intro gg nn cap9 w' hnn h1 hod h2; have HP' : Hid (OwnsT 94 w' wA.heap.size (.slice (some ⟨gg, 0, none⟩) nn cap9) (pl (k + 1))) := (by unfold Hid; rw [PT2.out]; exact h1); have HD' := Lib.hid hod; have HV' : Hid (Kpt wA w') := Below.trans V2'.out h2; have HK' : Hid (Kpt w w') := ktr KA.out HV'.out; have f0 := HK'.out.cell G1.out; have f1 := HK'.out.cell G2.out; have f2 : w'.cell? ⟨w.heap.size, 0, none⟩ = some (.int .i64 P) := (BC.out.kpt HV'.out).cell 0; clear h1 h2 hnn hod) | fail)
              refine ‹∀ (a : Act) (w_1 : World), Code.wp _ _ _ a w_1 → _› _ _ ?_
              go_wp2
              go_roundw
              case rel => exact ⟨k + 1, by omega, by go_num, HD'.out, HP'.out, HV'.out, HK'.out⟩
              case measure => simp [intOf]; omega
            · rw [if_neg hfr, List.append_nil] at PTn
              have PT2 := Lib.hid PTn
              have y2 : decide (0 < fr) = false := decide_eq_false hfr
              clear hfr PTn
              go_wp2
              go_roundw
              case rel => exact ⟨k + 1, by omega, by go_num, OD6.out, by unfold Hid; rw [PT2.out]; exact OP6.out, Vw6.out, Kw6.out⟩
              case measure => simp [intOf]; omega
          · rw [if_neg hcs, List.append_nil] at DTn
            have OD5 : Hid (OwnsT 80 w4 wA.heap.size u8 (dl (k + 1))) := by unfold Hid; rw [DTn]; exact OD4.out
            have y1 : decide (0 < cs) = false := decide_eq_false hcs
            clear hcs DTn
            go_upto_region 15 with (first | fail)
            have KQ : Hid (Kpt w w4) := Kw4
            have KV : Hid (Kpt wA w4) := Vw4
            have s0 := cell_k (q := w4) (KQ.out.cell G0.out)
            have s1 := cell_k (q := w4) (KQ.out.cell G1.out)
            have s2 := cell_k (q := w4) (KQ.out.cell G2.out)
            have s3 := cell_k (q := w4) (KQ.out.cell G3.out)
            have s4 := cell_k (q := w4) (KQ.out.cell G4.out)
            have s5 := cell_k (q := w4) (KQ.out.cell G5.out)
            have s6 := cell_k (q := w4) (KQ.out.cell G6.out)
            have s7 := cell_k (q := w4) (KQ.out.cell G7.out)
            have s8 := cell_k (q := w4) (KQ.out.cell G8.out)
            have s9 := cell_k (q := w4) (KQ.out.cell G9.out)
            have b0 := cell_k (q := w4) (a := ⟨w.heap.size, 0, none⟩) (v := .int .i64 P) ((BC.out.kpt KV.out).cell 0)
            have b1 := cell_k (q := w4) (a := ⟨w.heap.size, 1, none⟩) (v := .int .i64 C) ((BC.out.kpt KV.out).cell 1)
            have b2 := cell_k (q := w4) (a := ⟨w.heap.size, 2, none⟩) (v := .int .i64 G) ((BC.out.kpt KV.out).cell 2)
            have b3 := cell_k (q := w4) (a := ⟨w.heap.size, 3, none⟩) (v := .int .i64 O) ((BC.out.kpt KV.out).cell 3)
            refine quiet_k (q := w4) mixed (by kernel_rfl) ?_
            repeat (go_big_quiet_step (first | (go_at_call 67; with_reducible refine calls_k (FO.out _)) | (go_at_call 41; with_reducible refine calls_k (FR.out _)) | fail))
            refine wpQuiet_nil ?_
            intro w6 hw1
            obtain ⟨⟨wz, kz⟩, hw2⟩ := hw1
            have hw3 : w6 = wz := hw2
            clear hw2
            subst hw3
            have Kw6 : Hid (Kpt w w6) := ktr KQ.out kz
            have Vw6 : Hid (Kpt wA w6) := ktr KV.out kz
            have Rw6 : Hid (Kpt w4 w6) := kz
            clear s0 s1 s2 s3 s4 s5 s6 s7 s8 s9 b0 b1 b2 b3 kz KQ KV
            have OD6 : Hid (OwnsT 80 w6 wA.heap.size u8 (dl (k + 1))) := ct_kpt OD5.out Rw6.out
            have OP6 : Hid (OwnsT 94 w6 wA.heap.size u9 (pl k)) := ct_kpt OP4.out Rw6.out
            by_cases hfr : 0 < fr
            · rw [if_pos hfr] at PTn
              have PT2 := Lib.hid PTn
              have y2 : decide (0 < fr) = true := decide_eq_true hfr
              have m1 : IntKind.i64.wrap (-fr) = -fr := IntWalk.i64_in _ (by omega)
              clear hfr PTn
              have c1 : w6.cell? ⟨g, off + k * 10 + 1, none⟩ = some (.int .i64 z1) := Kw6.out.cell G1.out
              have c2 : w6.cell? ⟨g, off + k * 10 + 2, none⟩ = some (.int .i64 z2) := Kw6.out.cell G2.out
              have c3 : w6.cell? ⟨w.heap.size, 0, none⟩ = some (.int .i64 P) := (BC.out.kpt Vw6.out).cell 0
              have F2 : Hid (Kpt w (w6.alloc (.cells #[.int .i64 z1, .int .i64 P, .int .i64 (-fr), .int .i64 z2, .int .i64 P, .int .i64 fr] 94)).drew) := Below.drew (Kpt.alloc Kw6.out _)
              have V2' : Hid (Kpt wA (w6.alloc (.cells #[.int .i64 z1, .int .i64 P, .int .i64 (-fr), .int .i64 z2, .int .i64 P, .int .i64 fr] 94)).drew) := Below.drew (Kpt.alloc Vw6.out _)
              have X2 : Hid (Kpt w6 (w6.alloc (.cells #[.int .i64 z1, .int .i64 P, .int .i64 (-fr), .int .i64 z2, .int .i64 P, .int .i64 fr] 94)).drew) := Below.drew (Kpt.alloc (Kpt.refl w6) _)
              have e1 : ((w6.alloc (.cells #[.int .i64 z1, .int .i64 P, .int .i64 (-fr), .int .i64 z2, .int .i64 P, .int .i64 fr] 94)).drew).cell? ⟨g, off + k * 10 + 1, none⟩ = some (.int .i64 z1) := F2.out.cell G1.out
              have e2 : ((w6.alloc (.cells #[.int .i64 z1, .int .i64 P, .int .i64 (-fr), .int .i64 z2, .int .i64 P, .int .i64 fr] 94)).drew).cell? ⟨g, off + k * 10 + 2, none⟩ = some (.int .i64 z2) := F2.out.cell G2.out
              have e3 : ((w6.alloc (.cells #[.int .i64 z1, .int .i64 P, .int .i64 (-fr), .int .i64 z2, .int .i64 P, .int .i64 fr] 94)).drew).cell? ⟨w.heap.size, 0, none⟩ = some (.int .i64 P) := (BC.out.kpt V2'.out).cell 0
              have ODx := Lib.hid (ct_kpt OD6.out X2.out)
              have OPx := Lib.hid (ct_kpt OP6.out X2.out)
              go_upto_region 17 with (first | fail)
              go_region_held3 (fun w' => w'.cell? ⟨g, off + k * 10 + 1, none⟩ = some (.int .i64 z1) ∧ w'.cell? ⟨g, off + k * 10 + 2, none⟩ = some (.int .i64 z2) ∧ w'.cell? ⟨w.heap.size, 0, none⟩ = some (.int .i64 P))
                (first | go_keep | exact ⟨f0, f1, f2⟩ | exact ⟨e1, e2, e3⟩)
                (first | (refine step_cP (by rfl) _ _ (by rfl) wA.heap.size _ (pl k) z1 P (-fr) z2 P fr (by rfl) OPx.out w6.heap.size (by rfl) (show Blk (w6.alloc (.cells #[.int .i64 z1, .int .i64 P, .int .i64 (-fr), .int .i64 z2, .int .i64 P, .int .i64 fr] 94)).drew w6.heap.size #[.int .i64 z1, .int .i64 P, .int .i64 (-fr), .int .i64 z2, .int .i64 P, .int .i64 fr] 94 from Blk.made w6 _ _) (by omega) V2'.out.size _ (dl (k + 1)) ODx.out ?_; intro gg nn cap9 w' hnn h1 hod h2; have HP' : Hid (OwnsT 94 w' wA.heap.size (.slice (some ⟨gg, 0, none⟩) nn cap9) (pl (k + 1))) := (by unfold Hid; rw [PT2.out]; exact h1); have HD' := Lib.hid hod; have HV' : Hid (Kpt wA w') := Below.trans V2'.out h2; have HK' : Hid (Kpt w w') := ktr KA.out HV'.out; have f0 := HK'.out.cell G1.out; have f1 := HK'.out.cell G2.out; have f2 : w'.cell? ⟨w.heap.size, 0, none⟩ = some (.int .i64 P) := (BC.out.kpt HV'.out).cell 0; clear h1 h2 hnn hod) | fail)
              refine ‹∀ (a : Act) (w_1 : World), Code.wp _ _ _ a w_1 → _› _ _ ?_
              go_wp2
              go_roundw
              case rel => exact ⟨k + 1, by omega, by go_num, HD'.out, HP'.out, HV'.out, HK'.out⟩
              case measure => simp [intOf]; omega
            · rw [if_neg hfr, List.append_nil] at PTn
              have PT2 := Lib.hid PTn
              have y2 : decide (0 < fr) = false := decide_eq_false hfr
              clear hfr PTn
              go_wp2
              go_roundw
              case rel => exact ⟨k + 1, by omega, by go_num, OD6.out, by unfold Hid; rw [PT2.out]; exact OP6.out, Vw6.out, Kw6.out⟩
              case measure => simp [intOf]; omega
        · rw [decide_eq_false hop, Bool.and_false, if_neg (by decide), List.append_nil] at DTn PTn
          have DT2 := Lib.hid DTn
          have PT2 := Lib.hid PTn
          have q1 : (z4 != P) = false := by simpa using hp4
          have q2 : (o == 0) = true := beq_iff_eq.2 (by omega)
          clear hp4 hop DTn PTn
          go_upto_region 11 with (first | fail)
          have KQ : Hid (Kpt w wr) := HK
          have KV : Hid (Kpt wA wr) := HV
          have s0 := cell_k (q := wr) (KQ.out.cell G0.out)
          have s1 := cell_k (q := wr) (KQ.out.cell G1.out)
          have s2 := cell_k (q := wr) (KQ.out.cell G2.out)
          have s3 := cell_k (q := wr) (KQ.out.cell G3.out)
          have s4 := cell_k (q := wr) (KQ.out.cell G4.out)
          have s5 := cell_k (q := wr) (KQ.out.cell G5.out)
          have s6 := cell_k (q := wr) (KQ.out.cell G6.out)
          have s7 := cell_k (q := wr) (KQ.out.cell G7.out)
          have s8 := cell_k (q := wr) (KQ.out.cell G8.out)
          have s9 := cell_k (q := wr) (KQ.out.cell G9.out)
          have b0 := cell_k (q := wr) (a := ⟨w.heap.size, 0, none⟩) (v := .int .i64 P) ((BC.out.kpt KV.out).cell 0)
          have b1 := cell_k (q := wr) (a := ⟨w.heap.size, 1, none⟩) (v := .int .i64 C) ((BC.out.kpt KV.out).cell 1)
          have b2 := cell_k (q := wr) (a := ⟨w.heap.size, 2, none⟩) (v := .int .i64 G) ((BC.out.kpt KV.out).cell 2)
          have b3 := cell_k (q := wr) (a := ⟨w.heap.size, 3, none⟩) (v := .int .i64 O) ((BC.out.kpt KV.out).cell 3)
          refine quiet_k (q := wr) mixed (by kernel_rfl) ?_
          repeat (go_big_quiet_step (first | (go_at_call 67; with_reducible refine calls_k (FO.out _)) | fail))
          refine wpQuiet_nil ?_
          intro w3 hw1
          obtain ⟨⟨wz, kz⟩, hw2⟩ := hw1
          have hw3 : w3 = wz := hw2
          clear hw2
          subst hw3
          have Kw3 : Hid (Kpt w w3) := ktr KQ.out kz
          have Vw3 : Hid (Kpt wA w3) := ktr KV.out kz
          have Rw3 : Hid (Kpt wr w3) := kz
          clear s0 s1 s2 s3 s4 s5 s6 s7 s8 s9 b0 b1 b2 b3 kz KQ KV
          go_wp2
          go_roundw
          case rel => exact ⟨k + 1, by omega, by go_num, by unfold Hid; rw [DT2.out]; exact ct_kpt HD.out Rw3.out, by unfold Hid; rw [PT2.out]; exact ct_kpt HP.out Rw3.out, Vw3.out, Kw3.out⟩
          case measure => simp [intOf]; omega
      · rw [decide_eq_false hp4, Bool.false_and, if_neg (by decide), List.append_nil] at DTn PTn
        have DT2 := Lib.hid DTn
        have PT2 := Lib.hid PTn
        have q1 : (z4 != P) = true := bne_iff_ne.2 hp4
        clear hp4 DTn PTn
        go_upto_region 11 with (first | fail)
        have KQ : Hid (Kpt w wr) := HK
        have KV : Hid (Kpt wA wr) := HV
        have s0 := cell_k (q := wr) (KQ.out.cell G0.out)
        have s1 := cell_k (q := wr) (KQ.out.cell G1.out)
        have s2 := cell_k (q := wr) (KQ.out.cell G2.out)
        have s3 := cell_k (q := wr) (KQ.out.cell G3.out)
        have s4 := cell_k (q := wr) (KQ.out.cell G4.out)
        have s5 := cell_k (q := wr) (KQ.out.cell G5.out)
        have s6 := cell_k (q := wr) (KQ.out.cell G6.out)
        have s7 := cell_k (q := wr) (KQ.out.cell G7.out)
        have s8 := cell_k (q := wr) (KQ.out.cell G8.out)
        have s9 := cell_k (q := wr) (KQ.out.cell G9.out)
        have b0 := cell_k (q := wr) (a := ⟨w.heap.size, 0, none⟩) (v := .int .i64 P) ((BC.out.kpt KV.out).cell 0)
        have b1 := cell_k (q := wr) (a := ⟨w.heap.size, 1, none⟩) (v := .int .i64 C) ((BC.out.kpt KV.out).cell 1)
        have b2 := cell_k (q := wr) (a := ⟨w.heap.size, 2, none⟩) (v := .int .i64 G) ((BC.out.kpt KV.out).cell 2)
        have b3 := cell_k (q := wr) (a := ⟨w.heap.size, 3, none⟩) (v := .int .i64 O) ((BC.out.kpt KV.out).cell 3)
        refine quiet_k (q := wr) mixed (by kernel_rfl) ?_
        repeat (go_big_quiet_step (first | fail))
        refine wpQuiet_nil ?_
        intro w3 hw1
        obtain ⟨⟨wz, kz⟩, hw2⟩ := hw1
        have hw3 : w3 = wz := hw2
        clear hw2
        subst hw3
        have Kw3 : Hid (Kpt w w3) := ktr KQ.out kz
        have Vw3 : Hid (Kpt wA w3) := ktr KV.out kz
        have Rw3 : Hid (Kpt wr w3) := kz
        clear s0 s1 s2 s3 s4 s5 s6 s7 s8 s9 b0 b1 b2 b3 kz KQ KV
        go_wp2
        go_roundw
        case rel => exact ⟨k + 1, by omega, by go_num, by unfold Hid; rw [DT2.out]; exact ct_kpt HD.out Rw3.out, by unfold Hid; rw [PT2.out]; exact ct_kpt HP.out Rw3.out, Vw3.out, Kw3.out⟩
        case measure => simp [intOf]; omega
    · obtain rfl : k = n := by omega
      have e9 := KA.out.size
      go_wp2
      go_ret3
      exact ⟨_, _, rfl, OwnsT.base HD.out e9, OwnsT.base HP.out e9, HK.out⟩

end Go.Proofs.Ytgccipmeiceonaa
