/-
  Merged: RefMar, RefMar2, RefMar4.
-/
import Derived.Test.YtgccipmeiceonaaMm13
import Derived.Test.YtgccipmeiceonaaMm26
import Derived.Test.YtgccipmeiceonaaMm22
import Derived.Test.YtgccipmeiceonaaMm21
import Derived.Test.YtgccipmeiceonaaMm27
import Derived.Test.YtgccipmeiceonaaMm23
import Derived.Test.YtgccipmeiceonaaMm5
import Derived.Deep.RegionHeld3
import Derived.Test.YtgccipmeiceonaaMm45
-- RefMar
namespace Go.Proofs.Ytgccipmeiceonaa
open Go.RowKit
set_option linter.unusedVariables false

theorem rsk_many (a : Option Addr) (n cap : Nat) (hn : 40 < n) (hb : n ≤ maxLen) (w : World) : Calls Try.prog 31 #[.slice a n cap] w fun e w' => e = .returned (.int .i64 2) ∧ Kpt w w' := by
  unfold maxLen at hb
  have h1 : (40 : Int) < (n : Int) := by omega
  go_enter Try.func31, Try.ntmps31
  go_wp2
  go_ret
  exact ⟨rfl, Kpt.refl _⟩
set_option maxHeartbeats 4000000 in
theorem rsk_few (a : Option Addr) (cap n : Nat) (l : List (Int × Int × Int)) (w : World) (hn : n = l.length) (hm : n ≤ 40) (hc : ∀ j, j < n → ∃ b off, a = some ⟨b, off, none⟩ ∧ PtAt w b (off + j * 3) (l.getD j default)) :
    Calls Try.prog 31 #[.slice a n cap] w fun e w' => e = .returned (.int .i64 (stkE l)) ∧ Kpt w w' := by
  have HC := Lib.hid hc
  have q1 : decide ((40 : Int) < (n : Int)) = false := decide_eq_false (by omega)
  have HN : Hid (∀ k, k < n → stkB (l.getD k default) = false → stkE l = 3) := fun k hk hb => by
    unfold stkE
    rw [if_neg (by omega), if_neg]
    intro h
    rw [List.getD_eq_getElem?_getD, List.getElem?_eq_getElem (by omega : k < l.length)] at hb
    have := List.all_eq_true.1 h _ (List.getElem_mem (by omega : k < l.length))
    simp only [Option.getD_some] at hb
    rw [hb] at this; cases this
  have HY : Hid ((∀ j, j < n → stkB (l.getD j default) = true) → stkE l = 0) := fun h => by
    refine stkE_mk (by omega) fun p hp => ?_
    obtain ⟨j, hj, rfl⟩ := List.getElem_of_mem hp
    have := h j (by omega)
    rwa [List.getD_eq_getElem?_getD, List.getElem?_eq_getElem hj] at this
  clear hc hn
  go_enter Try.func31, Try.ntmps31
  go_wp2
  go_loop [3] (fun i => ∃ k : Nat, k ≤ n ∧ i = .int .i64 k ∧ Hid (∀ j, j < k → stkB (l.getD j default) = true)) (fun i => n - (intOf i).toNat)
  case atStart => exact ⟨0, Nat.zero_le _, rfl, fun j hj => absurd hj (Nat.not_lt_zero j)⟩
  case round =>
    obtain ⟨k, hk, rfl, HA⟩ := hrel
    by_cases hlt : k < n
    · obtain ⟨x, off, rfl, c0, c1, c2⟩ := HC.out k hlt
      have HN2 := Lib.hid (HN.out k hlt)
      have HA2 : Hid (stkB (l.getD k default) = true → ∀ j, j < k + 1 → stkB (l.getD j default) = true) := fun h j hj => by
        rcases Nat.lt_or_ge j k with g | g
        · exact HA.out j g
        · obtain rfl : j = k := by omega
          exact h
      have hk0 : (0 : Int) ≤ (k : Int) := by omega
      have hk1 : (k : Int) < (n : Int) := by omega
      generalize l.getD k default = p at c0 c1 c2 HN2 HA2
      obtain ⟨P, U, C⟩ := p
      simp only at c0 c1 c2
      by_cases h1 : 1 ≤ P ∧ P ≤ 20
      · have B1 := Lib.hid (fun w => rbt_any P 1 20 true (by unfold btw; exact decide_eq_true h1) w)
        by_cases h2 : 1 ≤ U ∧ U ≤ 1073741824
        · have B2 := Lib.hid (fun w => rbt_any U 1 1073741824 true (by unfold btw; exact decide_eq_true h2) w)
          by_cases h3 : 0 ≤ C ∧ C ≤ 10000
          · have B3 := Lib.hid (fun w => rbt_any C 0 10000 true (by unfold btw; exact decide_eq_true h3) w)
            have HA3 := Lib.hid (HA2.out (decide_eq_true ⟨h1.1, h1.2, h2.1, h2.2, h3.1, h3.2⟩))
            clear h1 h2 h3 HA2 HN2
            go_wp2_with (first
              | (go_at_call 61; (with_reducible refine (B1.out _).mono ?_); rintro e w' ⟨rfl, rfl⟩)
              | (go_at_call 61; (with_reducible refine (B2.out _).mono ?_); rintro e w' ⟨rfl, rfl⟩)
              | (go_at_call 61; (with_reducible refine (B3.out _).mono ?_); rintro e w' ⟨rfl, rfl⟩)
              | fail)
            go_round
            case rel => exact ⟨k + 1, by omega, by go_num, HA3.out⟩
            case measure => simp [intOf]; omega
          · have B3 := Lib.hid (fun w => rbt_any C 0 10000 false (by unfold btw; exact decide_eq_false h3) w)
            have HX := Lib.hid (HN2.out (decide_eq_false (by simp only; omega)))
            clear h1 h2 h3 HA2 HN2
            go_wp2_with (first
              | (go_at_call 61; (with_reducible refine (B1.out _).mono ?_); rintro e w' ⟨rfl, rfl⟩)
              | (go_at_call 61; (with_reducible refine (B2.out _).mono ?_); rintro e w' ⟨rfl, rfl⟩)
              | (go_at_call 61; (with_reducible refine (B3.out _).mono ?_); rintro e w' ⟨rfl, rfl⟩)
              | fail)
            go_ret
            exact ⟨ret_int HX.out.symm, Kpt.refl _⟩
        · have B2 := Lib.hid (fun w => rbt_any U 1 1073741824 false (by unfold btw; exact decide_eq_false h2) w)
          have HX := Lib.hid (HN2.out (decide_eq_false (by simp only; omega)))
          clear h1 h2 HA2 HN2
          go_wp2_with (first
            | (go_at_call 61; (with_reducible refine (B1.out _).mono ?_); rintro e w' ⟨rfl, rfl⟩)
            | (go_at_call 61; (with_reducible refine (B2.out _).mono ?_); rintro e w' ⟨rfl, rfl⟩)
            | fail)
          go_ret
          exact ⟨ret_int HX.out.symm, Kpt.refl _⟩
      · have B1 := Lib.hid (fun w => rbt_any P 1 20 false (by unfold btw; exact decide_eq_false h1) w)
        have HX := Lib.hid (HN2.out (decide_eq_false (by simp only; omega)))
        clear h1 HA2 HN2
        go_wp2_with (first
          | (go_at_call 61; (with_reducible refine (B1.out _).mono ?_); rintro e w' ⟨rfl, rfl⟩)
          | fail)
        go_ret
        exact ⟨ret_int HX.out.symm, Kpt.refl _⟩
    · obtain rfl : k = n := by omega
      have HX := Lib.hid (HY.out HA.out)
      go_wp2
      go_ret
      exact ⟨ret_int HX.out.symm, Kpt.refl _⟩
theorem rsk_run (v : Value) (l : List (Int × Int × Int)) (w : World) (hr : ReadsP w v l) :
    Calls Try.prog 31 #[v] w fun e w' => e = .returned (.int .i64 (stkE l)) ∧ Kpt w w' := by
  obtain ⟨a, cap, rfl, -, hm, -, hc⟩ := hr
  by_cases h : 40 < l.length
  · rw [show stkE l = 2 from if_pos h]; exact rsk_many a _ cap h hm w
  · exact rsk_few a cap _ l w rfl (by omega) hc

set_option maxHeartbeats 1000000 in
theorem rct_run (P U C : Int) (v : Value) (ps : List Int) (w : World) (hr : Reads w v ps) (hps : PrsOk ps) (hP : 1 ≤ P ∧ P ≤ 20) (X : Int) (h1 : 0 ≤ U ∧ U ≤ 1073741824) (h2 : 0 ≤ C ∧ C ≤ 10000) :
    Calls Try.prog 84 #[.agg #[.int .i64 P, .int .i64 X, .int .i64 C], .int .i64 U, v] w fun e w' => e = .returned (.int .i64 (wrt ps (P, U, C))) ∧ Kpt w w' := by
  obtain ⟨a, cap, rfl, hm, hc⟩ := hr
  have h20 := hps.1
  obtain ⟨g, off, rfl, c0⟩ := hc (P - 1).toNat (by omega)
  have hp := hps.at_ (P - 1).toNat
  obtain ⟨R, hR⟩ : ∃ R, R = wrt ps (P, U, C) := ⟨_, rfl⟩
  rw [← hR]
  have HR : Hid (U * ps.getD (P - 1).toNat 0 / 10000 * C / 10000 = R) := hR.symm
  clear hR
  generalize ps.getD (P - 1).toNat 0 = p at *
  have cb := cost_bd h1 hp
  have wb := wrt_bd0 h1 h2 hp
  have CO := Lib.hid (pof_is (a := U) (b := p) (c := 10000) (by omega) (by omega) (by omega) (by omega))
  have PT := Lib.hid (pof_is (a := U * p / 10000) (b := C) (c := 10000) (by omega) (by omega) (by omega) (by omega))
  rw [HR.out] at PT
  clear cb wb
  generalize U * p / 10000 = k at *
  generalize U * p % 10000 = m at *
  generalize k * C % 10000 = o at *
  have KA : Hid (Kpt w (w.alloc (.cells #[.int .i64 P, .int .i64 X, .int .i64 C] 107))) := (Kpt.refl w).alloc _
  obtain ⟨j, hj⟩ : ∃ j, (P - 1).toNat = j := ⟨_, rfl⟩
  have C0 : Hid (w.cell? ⟨g, off + j, none⟩ = some (.int .i64 p)) := by rw [← hj]; exact c0
  have c3 : (w.alloc (.cells #[.int .i64 P, .int .i64 X, .int .i64 C] 107)).cell? ⟨g, off + j, none⟩ = some (.int .i64 p) := KA.out.cell C0.out
  clear hc c0
  have n2 : 1 ≤ P := hP.1
  have n3 : 0 ≤ P - 1 := by omega
  have n4 : P - 1 < (ps.length : Int) := by omega
  have n5 : -9223372036854775808 ≤ P - 1 := by omega
  have n6 : P - 1 ≤ 9223372036854775807 := by omega
  have n7 : IntKind.i64.wrap (P - 1) = P - 1 := IntWalk.i64_in _ (by omega)
  clear hP h1 h2 hp h20 hps HR
  unfold maxLen at hm
  generalize ps.length = n at *
  go_enter Try.func84, Try.ntmps84
  go_wp2_with (first
    | (go_at_call 77; (with_reducible refine (CO.out.run _).mono ?_); rintro e w1 ⟨rfl, rfl⟩)
    | (go_at_call 77; (with_reducible refine (PT.out.run _).mono ?_); rintro e w1 ⟨rfl, rfl⟩)
    | fail)
  go_ret
  exact ⟨rfl, KA.out⟩

end Go.Proofs.Ytgccipmeiceonaa

-- RefMar2
namespace Go.Proofs.Ytgccipmeiceonaa
open Go.RowKit
set_option linter.unusedVariables false

theorem wmap_take {ps : List Int} {l : List (Int × Int × Int)} {k : Nat} (hk : k < l.length) : (l.take (k + 1)).map (wrt ps) = (l.take k).map (wrt ps) ++ [wrt ps (l.getD k default)] := by
  rw [List.take_succ_eq_append_getElem hk, List.map_append, List.getD_eq_getElem?_getD, List.getElem?_eq_getElem hk]; rfl
set_option maxRecDepth 100000 in
set_option maxHeartbeats 4000000 in
theorem rmv_ok (b off cap n : Nat) (u : Value) (l : List (Int × Int × Int)) (ps : List Int) (w : World) (hn : n = l.length) (hr : Reads w u ps) (h1 : stkE l = 0) (h2 : prsE ps = 0)
    (hc : ∀ j, j < n → PtAt w b (off + j * 3) (l.getD j default)) (A : Option Addr) (hA : 0 < n → A = some ⟨b, off, none⟩) (hP : ReadsP w (.slice A n cap) l) :
    Calls Try.prog 29 #[.slice A n cap, u] w fun e w' => e = .returned (.tuple #[.int .i64 (amV (wsum ps l)), .int .i64 (amE (wsum ps l))]) ∧ Kpt w w' := by
  have hps := prsOk h2
  obtain ⟨h40, hs⟩ := stkE_0 h1
  have SC := Lib.hid (rsk_run _ l w hP)
  rw [h1] at SC
  have PC := Lib.hid (fun w' (k : Kpt w w') => rprs_run u ps w' (hr.kpt k))
  rw [h2] at PC
  have ML : Hid (((l.take 0).map (wrt ps)) = []) := rfl
  have HT := Lib.hid (fun k (hk : k < n) => wmap_take (ps := ps) (l := l) (k := k) (by omega))
  have HLN : Hid (∀ k, ((l.take k).map (wrt ps)).length ≤ 40) := fun k => by rw [List.length_map, List.length_take]; omega
  have HC := Lib.hid hc
  have RC : Hid (∀ k, k < n → ∀ w', Kpt w w' → Calls Try.prog 84 #[.agg #[.int .i64 (l.getD k default).1, .int .i64 (l.getD k default).2.1, .int .i64 (l.getD k default).2.2], .int .i64 (l.getD k default).2.1, u] w' fun e w'' => e = .returned (.int .i64 (wrt ps (l.getD k default))) ∧ Kpt w' w'') := fun k hk w' kk => by
    have hb : stkB (l.getD k default) = true := by rw [List.getD_eq_getElem?_getD, List.getElem?_eq_getElem (by omega : k < l.length)]; exact hs _ (List.getElem_mem _)
    have hb := stk_t hb
    exact rct_run _ _ _ u ps w' (hr.kpt kk) hps ⟨hb.1, hb.2.1⟩ _ ⟨by omega, by omega⟩ ⟨by omega, by omega⟩
  have SM : Hid ((((l.take n).map (wrt ps))).sum = wsum ps l) := by unfold Hid wsum; rw [List.take_of_length_le (by omega)]
  have AM : Hid (∀ z ∈ ((l.take n).map (wrt ps)), amtB z = true) := fun z hz => by
    rw [List.take_of_length_le (by omega)] at hz
    obtain ⟨p, hp, rfl⟩ := List.mem_map.1 hz
    have := wrt_stk hps (hs p hp)
    exact amt_mk (by omega) (by omega)
  have hle : n ≤ 40 := by omega
  obtain ⟨au, nu, cu, rfl⟩ : ∃ a n c, u = .slice a n c := by obtain ⟨a, c, rfl, -⟩ := hr; exact ⟨_, _, _, rfl⟩
  clear hc hs hr h1 h2 hP hps h40 hn
  generalize wsum ps l = S at *
  generalize hzz : (fun k => (l.take k).map (wrt ps)) = zz at *
  have HZ : Hid (∀ k, (l.take k).map (wrt ps) = zz k) := fun k => by rw [← hzz]
  replace SM : Hid ((zz n).sum = S) := by unfold Hid; rw [← HZ.out]; exact SM.out
  replace AM : Hid (∀ z ∈ zz n, amtB z = true) := fun z hz => AM.out z (by rw [HZ.out]; exact hz)
  replace HLN : Hid (∀ k, (zz k).length ≤ 40) := fun k => by rw [← HZ.out]; exact HLN.out k
  replace HT : Hid (∀ k, k < n → zz (k + 1) = zz k ++ [wrt ps (l.getD k default)]) := fun k hk => by rw [← HZ.out, ← HZ.out]; exact HT.out k hk
  replace ML : Hid (zz 0 = []) := by unfold Hid; rw [← HZ.out]; exact ML.out
  clear hzz HZ
  go_enter Try.func29, Try.ntmps29
  go_wp2_with (first
    | (go_at_call 31; (with_reducible refine SC.out.mono ?_); rintro e w1 ⟨rfl, k1⟩; have K1 := Lib.hid k1; clear k1)
    | (go_at_call 13; (with_reducible refine (PC.out _ K1.out).mono ?_); rintro e w2 ⟨rfl, rfl⟩)
    | fail)
  go_loopw [7, 8] (fun m i wr => ∃ k : Nat, k ≤ n ∧ i = .int .i64 k ∧ Hid (Owns wr w.heap.size m (zz k)) ∧ Hid (Kpt w wr)) (fun _ i _ => n - (intOf i).toNat)
  case atStart => exact ⟨0, Nat.zero_le _, rfl, by unfold Hid; rw [ML.out]; exact Owns.nil _ _, K1.out⟩
  case round =>
    obtain ⟨k, hk, rfl, HO, HJ⟩ := hrel
    by_cases hlt : k < n
    · obtain rfl := hA (by omega)
      obtain ⟨c0, c1, c2⟩ := HC.out k hlt
      have d0 : wr.drew.cell? ⟨b, off + k * 3, none⟩ = _ := HJ.out.cell c0
      have d1 : wr.drew.cell? ⟨b, off + k * 3 + 1, none⟩ = _ := HJ.out.cell c1
      have d2 : wr.drew.cell? ⟨b, off + k * 3 + 2, none⟩ = _ := HJ.out.cell c2
      have C0 := Lib.hid c0
      have C1 := Lib.hid c1
      have C2 := Lib.hid c2
      have HM := Lib.hid (HT.out k hlt)
      have RCk := Lib.hid (fun w' kk => RC.out k hlt w' kk)
      have hln := HLN.out k
      have hk0 : (0 : Int) ≤ (k : Int) := by omega
      have hk1 : (k : Int) < (n : Int) := by omega
      generalize wrt ps (l.getD k default) = Z at HM RCk
      generalize l.getD k default = p at c0 c1 c2 d0 d1 d2 C0 C1 C2 RCk
      obtain ⟨P, U, C⟩ := p
      simp only at d0 d1 d2 C0 C1 C2 RCk
      clear c0 c1 c2
      have HOd : Hid (Owns wr.drew w.heap.size u7 (zz k)) := ow_kpt HO.out (Below.drew (Kpt.refl wr))
      have HJd : Hid (Kpt w wr.drew) := Below.drew HJ.out
      go_wp2
      go_region_held3 (fun w' => w'.cell? ⟨b, off + k * 3, none⟩ = some (.int .i64 P) ∧ w'.cell? ⟨b, off + k * 3 + 1, none⟩ = some (.int .i64 U) ∧ w'.cell? ⟨b, off + k * 3 + 2, none⟩ = some (.int .i64 C))
        (first
          | go_keep
          | exact ⟨f0, f1, f2⟩
          | exact ⟨e0, e1, e2⟩)
        (first
          | (go_at_call 84; (with_reducible refine (RCk.out _ HJd.out).mono ?_); rintro e w3 ⟨rfl, k3⟩; have K3 := Lib.hid (ktr HJd.out k3); have O3 : Hid (Owns (w3.alloc (.cells #[.int .i64 Z] 3)) w.heap.size u7 (zz k)) := ow_kpt HOd.out (Kpt.alloc k3 _); have e0 := k3.cell d0; have e1 := k3.cell d1; have e2 := k3.cell d2; clear k3)
          | (refine step_append1 (by rfl) _ _ (by rfl) w.heap.size _ (zz k) Z (by rfl) O3.out w3.heap.size (by rfl) (Blk.made _ _ _) (by omega) (by have := K3.out.size; simp; omega) ?_; intro gg nn cap9 w' hnn h1 h2; have HO' : Hid (Owns w' w.heap.size (.slice (some ⟨gg, 0, none⟩) nn cap9) (zz (k + 1))) := (by unfold Hid; rw [HM.out]; exact h1); have HJ' : Hid (Kpt w w') := Below.trans (Below.alloc K3.out K3.out.size _) h2; have f0 := HJ'.out.cell C0.out; have f1 := HJ'.out.cell C1.out; have f2 := HJ'.out.cell C2.out; clear h1 h2 hnn)
          | fail)
      refine ‹∀ (a : Act) (w_1 : World), Code.wp _ _ _ a w_1 → _› _ _ ?_
      go_wp2
      go_roundw
      case rel => exact ⟨k + 1, by omega, by go_num, HO'.out, HJ'.out⟩
      case measure => simp [intOf]; omega
    · obtain rfl : k = n := by omega
      have hln := HLN.out k
      cases hS : amtB S with
      | true =>
        have SO := Lib.hid (fun v' w' base (h : Owns w' base v' (zz k)) => sumOw v' (zz k) _ h (by omega) AM.out SM.out hS)
        have E1 := Lib.hid (am_ok hS).1
        have E2 := Lib.hid (am_ok hS).2
        clear hS
        go_wp2_with (first
          | (go_at_call 85; (with_reducible refine (SO.out _ _ _ HO.out).mono ?_); rintro e w7 ⟨rfl, k7⟩; have K7 := Lib.hid (ktr HJ.out k7); clear k7)
          | fail)
        go_ret2
        exact ⟨by rw [E1.out, E2.out]; rfl, K7.out⟩
      | false =>
        have SO := Lib.hid (fun v' w' base (h : Owns w' base v' (zz k)) => sumNo v' (zz k) _ h (by omega) AM.out SM.out hS)
        have E1 := Lib.hid (am_no hS).1
        have E2 := Lib.hid (am_no hS).2
        clear hS
        go_wp2_with (first
          | (go_at_call 85; (with_reducible refine (SO.out _ _ _ HO.out).mono ?_); rintro e w7 ⟨r7, rfl, k7⟩; have K7 := Lib.hid (ktr HJ.out k7); clear k7)
          | fail)
        go_ret2
        exact ⟨by rw [E1.out, E2.out]; rfl, K7.out⟩

set_option maxHeartbeats 2000000 in
theorem rmv_no (v u : Value) (l : List (Int × Int × Int)) (ps : List Int) (w : World) (hl : ReadsP w v l) (hr : Reads w u ps) (E : Int) (hE : mcE l ps = E) (h0 : E ≠ 0) :
    Calls Try.prog 29 #[v, u] w fun e w' => e = .returned (.tuple #[.int .i64 0, .int .i64 E]) ∧ Kpt w w' := by
  have SC := Lib.hid (rsk_run _ l w hl)
  have PC := Lib.hid (fun w' (k : Kpt w w') => rprs_run u ps w' (hr.kpt k))
  by_cases h1 : stkE l = 0
  · have e : prsE ps = E := by rw [← hE]; unfold mcE; rw [orE_r h1]
    rw [h1] at SC
    rw [e] at PC
    have q1 : (E != 0) = true := bne_iff_ne.2 h0
    clear hE h0 h1 e hl hr
    go_enter Try.func29, Try.ntmps29
    go_wp2_with (first
      | (go_at_call 31; (with_reducible refine SC.out.mono ?_); rintro e w1 ⟨rfl, k1⟩; have K1 := Lib.hid k1; clear k1)
      | (go_at_call 13; (with_reducible refine (PC.out _ K1.out).mono ?_); rintro e w2 ⟨rfl, rfl⟩)
      | fail)
    go_ret2
    exact ⟨rfl, K1.out⟩
  · have e : stkE l = E := by rw [← hE]; unfold mcE; rw [orE_l _ h1]
    rw [e] at SC
    have q0 : (E == 0) = false := beq_eq_false_iff_ne.2 h0
    have q1 : (E != 0) = true := bne_iff_ne.2 h0
    clear hE h0 h1 e hl hr PC
    go_enter Try.func29, Try.ntmps29
    go_wp2_with (first
      | (go_at_call 31; (with_reducible refine SC.out.mono ?_); rintro e w1 ⟨rfl, k1⟩; have K1 := Lib.hid k1; clear k1)
      | fail)
    go_ret2
    exact ⟨rfl, K1.out⟩
theorem readsP_split {w : World} {v : Value} {l : List (Int × Int × Int)} (h : ReadsP w v l) : ∃ A cap b off, v = .slice A l.length cap ∧ (0 < l.length → A = some ⟨b, off, none⟩) ∧ ∀ j, j < l.length → PtAt w b (off + j * 3) (l.getD j default) := by
  obtain ⟨a, cap, rfl, -, -, -, hc⟩ := h
  rcases Nat.eq_zero_or_pos l.length with h0 | h0
  · exact ⟨a, cap, 0, 0, rfl, fun h => by omega, fun j hj => by omega⟩
  · obtain ⟨b, off, rfl, -⟩ := hc 0 h0
    refine ⟨_, cap, b, off, rfl, fun _ => rfl, fun j hj => ?_⟩
    obtain ⟨b', off', e, h1⟩ := hc j hj
    have e := Option.some.inj e
    injection e with e1 e2 _
    subst e1 e2
    exact h1
theorem rmv_run (v u : Value) (l : List (Int × Int × Int)) (ps : List Int) (w : World) (hl : ReadsP w v l) (hr : Reads w u ps) :
    Calls Try.prog 29 #[v, u] w fun e w' => e = .returned (.tuple #[.int .i64 (valV l ps), .int .i64 (valE l ps)]) ∧ Kpt w w' := by
  by_cases h : mcE l ps = 0
  · rw [show valV l ps = amV (wsum ps l) from if_pos h, show valE l ps = amE (wsum ps l) from orE_r h]
    obtain ⟨A, cap, b, off, rfl, hA, hc⟩ := readsP_split hl
    exact rmv_ok b off cap _ u l ps w rfl hr (orE_0 h).1 (orE_0 h).2 hc A hA hl
  · rw [show valV l ps = 0 from if_neg h, show valE l ps = mcE l ps from orE_l _ h]
    exact rmv_no v u l ps w hl hr _ rfl h

end Go.Proofs.Ytgccipmeiceonaa

-- RefMar4
namespace Go.Proofs.Ytgccipmeiceonaa
open Go.RowKit
set_option linter.unusedVariables false

def othF (ps : List Int) (l : List (Int × Int × Int)) (a : Nat) (k : Nat) : Int := wsum ps (l.take k) - (if a < k then wrt ps (l.getD a default) else 0)
theorem othF_a {ps : List Int} {l : List (Int × Int × Int)} {a : Nat} (ha : a < l.length) : othF ps l a (a + 1) = othF ps l a a := by
  unfold othF
  rw [wsum_take ha, if_pos (by omega), if_neg (by omega)]; omega
theorem othF_s {ps : List Int} {l : List (Int × Int × Int)} {a k : Nat} (hk : k < l.length) (h : k ≠ a) : othF ps l a (k + 1) = othF ps l a k + wrt ps (l.getD k default) := by
  unfold othF
  rw [wsum_take hk]
  by_cases h2 : a < k
  · rw [if_pos (by omega), if_pos h2]; omega
  · rw [if_neg (by omega), if_neg h2]; omega
theorem othF_bd {ps : List Int} (hp : PrsOk ps) {l : List (Int × Int × Int)} (hs : ∀ p ∈ l, stkB p = true) {a : Nat} : ∀ k, k ≤ l.length → 0 ≤ othF ps l a k ∧ othF ps l a k ≤ 118059162071741130 * (k : Int)
  | 0, _ => by unfold othF; rw [if_neg (by omega)]; simp [wsum]
  | k + 1, hk => by
    have ih := othF_bd hp hs (a := a) k (by omega)
    have hw := wrt_stk hp (hs (l.getD k default) (by rw [List.getD_eq_getElem?_getD, List.getElem?_eq_getElem (by omega : k < l.length)]; exact List.getElem_mem _))
    by_cases h : k = a
    · subst h
      rw [othF_a (by omega)]; omega
    · rw [othF_s (by omega) h]; omega

set_option maxRecDepth 100000 in
set_option maxHeartbeats 8000000 in
theorem rms_ok (b off cap n a nu cu : Nat) (au : Option Addr) (l : List (Int × Int × Int)) (ps : List Int) (w : World) (need P U C S kI : Int) (hn : n = l.length) (ha : a < n) (hr : Reads w (.slice au nu cu) ps) (hps : PrsOk ps) (hs : ∀ p ∈ l, stkB p = true) (h40 : n ≤ 40)
    (hc : ∀ j, j < n → PtAt w b (off + j * 3) (l.getD j default)) (hp : l.getD a default = (P, U, C)) (hk0 : 0 ≤ kI) (hk : kI ≤ U) (hS : S = U - kI)
    (hW : 0 ≤ wsum ps l ∧ wsum ps l ≤ 1152921504606846976) (h1 : need ≤ wsum ps l - wrt ps (P, U, C) + wrt ps (P, kI, C)) (h2 : 0 < kI → wsum ps l - wrt ps (P, U, C) + wrt ps (P, kI - 1, C) < need) :
    Calls Try.prog 32 #[.slice (some ⟨b, off, none⟩) n cap, .slice au nu cu, .int .i64 need, .int .i64 (a : Int), .int .i64 S] w fun e w' => e = .returned (.bool true) ∧ Kpt w w' := by
  have hmem : ∀ k, k < n → stkB (l.getD k default) = true := fun k hk => by
    rw [List.getD_eq_getElem?_getD, List.getElem?_eq_getElem (by omega : k < l.length)]; exact hs _ (List.getElem_mem _)
  have RC : Hid (∀ k, k < n → ∀ w', Kpt w w' → Calls Try.prog 84 #[.agg #[.int .i64 (l.getD k default).1, .int .i64 (l.getD k default).2.1, .int .i64 (l.getD k default).2.2], .int .i64 (l.getD k default).2.1, .slice au nu cu] w' fun e w'' => e = .returned (.int .i64 (wrt ps (l.getD k default))) ∧ Kpt w' w'') := fun k hk w' kk => by
    have hb := stk_t (hmem k hk)
    exact rct_run _ _ _ _ ps w' (hr.kpt kk) hps ⟨hb.1, hb.2.1⟩ _ ⟨by omega, by omega⟩ ⟨by omega, by omega⟩
  have pb := stk_t (hmem a ha)
  rw [hp] at pb
  simp only at pb
  have RA : Hid (∀ m : Int, 0 ≤ m → m ≤ U → ∀ w', Kpt w w' → Calls Try.prog 84 #[.agg #[.int .i64 P, .int .i64 U, .int .i64 C], .int .i64 m, .slice au nu cu] w' fun e w'' => e = .returned (.int .i64 (wrt ps (P, m, C))) ∧ Kpt w' w'') := fun m hm hm2 w' kk => 
    rct_run _ _ _ _ ps w' (hr.kpt kk) hps ⟨pb.1, pb.2.1⟩ _ ⟨hm, by omega⟩ ⟨by omega, by omega⟩
  have WB : Hid (∀ k, k < n → 0 ≤ wrt ps (l.getD k default) ∧ wrt ps (l.getD k default) ≤ 118059162071741130) := fun k hk => wrt_stk hps (hmem k hk)
  obtain ⟨f, hf⟩ : ∃ f : Nat → Int, ∀ k, othF ps l a k = f k := ⟨_, fun _ => rfl⟩
  have F0 : Hid (f 0 = 0) := by unfold Hid; rw [← hf]; unfold othF; rw [if_neg (by omega)]; simp [wsum]
  have FA : Hid (f (a + 1) = f a) := by unfold Hid; rw [← hf, ← hf]; exact othF_a (by omega)
  have FS : Hid (∀ k, k < n → k ≠ a → f (k + 1) = f k + wrt ps (l.getD k default)) := fun k hk h => by rw [← hf, ← hf]; exact othF_s (by omega) h
  have FB : Hid (∀ k, k ≤ n → 0 ≤ f k ∧ f k ≤ 118059162071741130 * (k : Int)) := fun k hk => by rw [← hf]; exact othF_bd hps hs k (by omega)
  have FN : f n = wsum ps l - wrt ps (P, U, C) := by rw [← hf]; unfold othF; rw [if_pos (by omega), hp, List.take_of_length_le (by omega)]
  rw [← FN] at h1 h2
  have ra0 := wrt_bd hps (s := (P, kI, C)) ⟨hk0, by simp only; omega⟩ ⟨by simp only; omega, by simp only; omega⟩
  have ra1 : 0 < kI → 0 ≤ wrt ps (P, kI - 1, C) ∧ wrt ps (P, kI - 1, C) ≤ 118059162071741130 := fun h => wrt_bd hps (s := (P, kI - 1, C)) ⟨by simp only; omega, by simp only; omega⟩ ⟨by simp only; omega, by simp only; omega⟩
  have RA0 := Lib.hid (fun w' kk => RA.out kI hk0 hk w' kk)
  have RA1 := Lib.hid (fun (h : 0 < kI) w' kk => RA.out (kI - 1) (by omega) (by omega) w' kk)
  have fn := FB.out n (Nat.le_refl _)
  generalize wrt ps (P, kI, C) = W0 at *
  generalize wrt ps (P, kI - 1, C) = W1 at *
  have HC := Lib.hid hc
  obtain ⟨ca0, ca1, ca2⟩ := hc a ha
  rw [hp] at ca0 ca1 ca2
  simp only at ca0 ca1 ca2
  have CA0 := Lib.hid ca0
  have CA1 := Lib.hid ca1
  have CA2 := Lib.hid ca2
  have t1 : decide (S < 0) = false := decide_eq_false (by omega)
  have t2 : decide (U < S) = false := decide_eq_false (by omega)
  have i0 : (0 : Int) ≤ (a : Int) := by omega
  have i1 : (a : Int) < (n : Int) := by omega
  have hU1 : Hid (U - S = kI) := by unfold Hid; omega
  have hU2 : Hid (IntKind.i64.wrap (U - S) = kI) := by unfold Hid; rw [hU1.out]; exact IntWalk.i64_in _ (by omega)
  have hU3 : Hid (IntKind.i64.wrap (kI - 1) = kI - 1) := IntWalk.i64_in _ (by omega)
  have hG0 : Hid (IntKind.i64.wrap (f n + W0) = f n + W0) := IntWalk.i64_in _ (by omega)
  have hG1 : Hid (0 < kI → IntKind.i64.wrap (f n + W1) = f n + W1) := fun h => IntWalk.i64_in _ (by have := ra1 h; omega)
  have hd0 : Hid (decide (f n + W0 < need) = false) := decide_eq_false (by omega)
  have hd1 : Hid (0 < kI → decide (f n + W1 < need) = true) := fun h => decide_eq_true (h2 h)
  have hq1 : Hid (0 < kI → (S == U) = false) := fun h => beq_eq_false_iff_ne.2 (by omega)
  have hq0 : Hid (¬ 0 < kI → (S == U) = true) := fun h => beq_iff_eq.2 (by omega)
  have HPB : Hid (0 ≤ kI ∧ kI ≤ 1073741824) := ⟨hk0, by omega⟩
  clear hr hps hs hc hp hk0 hk hS hW h1 h2 hmem pb RA hf hn ra0 ra1 fn FN
  go_enter Try.func32, Try.ntmps32
  go_wp2
  clear t1 t2 ca0 ca1 ca2
  go_loopw [11, 12] (fun oo ii wr => ∃ k : Nat, k ≤ n ∧ ii = .int .i64 (k : Int) ∧ oo = .int .i64 (f k) ∧ Hid (Kpt w wr)) (fun _ ii _ => n - (intOf ii).toNat)
  case atStart => exact ⟨0, Nat.zero_le _, rfl, by rw [F0.out], Kpt.refl _⟩
  case round =>
    obtain ⟨k, hk, rfl, rfl, HK⟩ := hrel
    have mixed : Try.prog.follows .mixedOrders = true := by kernel_rfl
    by_cases hlt : k < n
    · by_cases hka : k = a
      · subst hka
        go_wp2
        go_roundw
        case rel => exact ⟨k + 1, by omega, by go_num, by rw [FA.out], HK.out⟩
        case measure => simp [intOf]; omega
      · have q1 : ((k : Int) != (a : Int)) = true := bne_iff_ne.2 (by omega)
        have q2 : (k != a) = true := bne_iff_ne.2 hka
        have HS := Lib.hid (FS.out k hlt hka)
        have wb := WB.out k hlt
        have fb := FB.out k hk
        have RCk := Lib.hid (fun w' kk => RC.out k hlt w' kk)
        obtain ⟨c0, c1, c2⟩ := HC.out k hlt
        have j0 : (0 : Int) ≤ (k : Int) := by omega
        have j1 : (k : Int) < (n : Int) := by omega
        generalize wrt ps (l.getD k default) = Z at HS wb RCk
        generalize l.getD k default = p at c0 c1 c2 RCk
        obtain ⟨P', U', C'⟩ := p
        simp only at c0 c1 c2 RCk
        have hG : IntKind.i64.wrap (f k + Z) = f k + Z := IntWalk.i64_in _ (by omega)
        have d0 := cell_k (q := wr) (HK.out.cell c0)
        have d1 := cell_k (q := wr) (HK.out.cell c1)
        have d2 := cell_k (q := wr) (HK.out.cell c2)
        have RQ : Hid (∀ p : KptTo wr, Calls Try.prog 84 #[.agg #[.int .i64 P', .int .i64 U', .int .i64 C'], .int .i64 U', .slice au nu cu] p.w fun e w'' => e = .returned (.int .i64 Z) ∧ Kpt p.w w'') := fun p => RCk.out _ (ktr HK.out p.h)
        clear c0 c1 c2 wb fb hka
        generalize f k = F0' at *
        go_upto_region 8 with (first | fail)
        refine quiet_k (q := wr) mixed (by kernel_rfl) ?_
        repeat (go_big_quiet_step (first | (go_at_call 84; with_reducible refine calls_k (RQ.out _)) | fail))
        refine wpQuiet_nil ?_
        intro w8 hw1
        obtain ⟨⟨wz, kz⟩, hw2⟩ := hw1
        have hw3 : w8 = wz := hw2
        clear hw2
        subst hw3
        have KZ := Lib.hid (ktr HK.out kz)
        clear kz d0 d1 d2 hG
        go_wp2
        go_roundw
        case rel => exact ⟨k + 1, by omega, by go_num, by rw [HS.out], KZ.out⟩
        case measure => simp [intOf]; omega
    · obtain rfl : k = n := by omega
      have d0 := cell_k (q := wr) (HK.out.cell CA0.out)
      have d1 := cell_k (q := wr) (HK.out.cell CA1.out)
      have d2 := cell_k (q := wr) (HK.out.cell CA2.out)
      have RQ : Hid (∀ p : KptTo wr, Calls Try.prog 84 #[.agg #[.int .i64 P, .int .i64 U, .int .i64 C], .int .i64 kI, .slice au nu cu] p.w fun e w'' => e = .returned (.int .i64 W0) ∧ Kpt p.w w'') := fun p => RA0.out _ (ktr HK.out p.h)
      generalize f k = F at *
      have hU2' := hU2.out
      have hG0' := hG0.out
      have hd0' := hd0.out
      go_upto_region 9 with (first | fail)
      refine quiet_k (q := wr) mixed (by kernel_rfl) ?_
      repeat (go_big_quiet_step (first | (go_at_call 84; with_reducible refine calls_k (RQ.out _)) | fail))
      refine wpQuiet_nil ?_
      intro w8 hw1
      obtain ⟨⟨wz, kz⟩, hw2⟩ := hw1
      have hw3 : w8 = wz := hw2
      clear hw2
      subst hw3
      have KZ := Lib.hid (ktr HK.out kz)
      clear kz d0 d1 d2 hG0' RQ
      have d0 := cell_k (q := w8) (KZ.out.cell CA0.out)
      have d1 := cell_k (q := w8) (KZ.out.cell CA1.out)
      have d2 := cell_k (q := w8) (KZ.out.cell CA2.out)
      by_cases h0 : 0 < kI
      · have RQ : Hid (∀ p : KptTo w8, Calls Try.prog 84 #[.agg #[.int .i64 P, .int .i64 U, .int .i64 C], .int .i64 (kI - 1), .slice au nu cu] p.w fun e w'' => e = .returned (.int .i64 W1) ∧ Kpt p.w w'') := fun p => RA1.out h0 _ (ktr KZ.out p.h)
        have hG1' := hG1.out h0
        have hd1' := hd1.out h0
        have hq1' := hq1.out h0
        have hU3' := hU3.out
        clear h0
        go_upto_region 11 with (first | fail)
        refine quiet_k (q := w8) mixed (by kernel_rfl) ?_
        repeat (go_big_quiet_step (first | (go_at_call 84; with_reducible refine calls_k (RQ.out _)) | fail))
        refine wpQuiet_nil ?_
        intro w9 hw1
        obtain ⟨⟨wy, ky⟩, hw2⟩ := hw1
        have hw3 : w9 = wy := hw2
        clear hw2
        subst hw3
        have KY := Lib.hid (ktr KZ.out ky)
        go_wp2
        go_ret
        exact ⟨rfl, KY.out⟩
      · have hq0' := hq0.out (by omega)
        clear h0
        go_upto_region 11 with (first | fail)
        refine quiet_k (q := w8) mixed (by kernel_rfl) ?_
        repeat (go_big_quiet_step (fail))
        refine wpQuiet_nil ?_
        intro w9 hw1
        obtain ⟨⟨wy, ky⟩, hw2⟩ := hw1
        have hw3 : w9 = wy := hw2
        clear hw2
        subst hw3
        have KY := Lib.hid (ktr KZ.out ky)
        go_wp2
        go_ret
        exact ⟨rfl, KY.out⟩
theorem rms_run (v u : Value) (l : List (Int × Int × Int)) (ps : List Int) (need at' : Int) (w : World) (hl : ReadsP w v l) (hr : Reads w u ps) (h : spE l ps need at' = 0) :
    Calls Try.prog 32 #[v, u, .int .i64 need, .int .i64 at', .int .i64 (spV l ps need at')] w fun e w' => e = .returned (.bool true) ∧ Kpt w w' := by
  obtain ⟨h1, h2, h3, h4, h5⟩ := spE_0 h
  obtain ⟨⟨h40, hs⟩, hps⟩ := mcE_0 h1
  obtain ⟨A, cap, b, off, rfl, hA, hc⟩ := readsP_split hl
  obtain rfl := hA (by omega)
  obtain ⟨au, cu, rfl, -⟩ := _root_.id hr
  obtain ⟨a, rfl⟩ : ∃ a : Nat, at' = (a : Int) := ⟨at'.toNat, by omega⟩
  have ha : a < l.length := by omega
  have hst : stkAt l (a : Int) = l.getD a default := by unfold stkAt; rw [Int.toNat_natCast]
  have hb := stk_t (hs (l.getD a default) (by rw [List.getD_eq_getElem?_getD, List.getElem?_eq_getElem ha]; exact List.getElem_mem _))
  have wb := wsum_bd hps hs
  have hv : spV l ps need (a : Int) = (l.getD a default).2.1 - kpV ps (l.getD a default).1 (l.getD a default).2.1 (l.getD a default).2.2 (wsum ps l - need) := by
    unfold spV; rw [if_pos h, hst]
  rw [hv]
  have am := amt_t h4
  obtain ⟨e1, e2, e3⟩ := kpV_bd hps (P := (l.getD a default).1) (U := (l.getD a default).2.1) (C := (l.getD a default).2.2) (most := wsum ps l - need) (by omega) (by omega) (by omega)
  refine rms_ok b off cap _ a _ cu au l ps w need (l.getD a default).1 (l.getD a default).2.1 (l.getD a default).2.2 _ (kpV ps (l.getD a default).1 (l.getD a default).2.1 (l.getD a default).2.2 (wsum ps l - need) : Int) rfl ha hr hps hs h40 hc rfl (by omega) e1 rfl ⟨wb.1, by omega⟩ (by omega) (fun hk => ?_)
  have e4 := e3 (by omega)
  rw [show ((kpV ps (l.getD a default).1 (l.getD a default).2.1 (l.getD a default).2.2 (wsum ps l - need) : Nat) : Int) - 1 = ((kpV ps (l.getD a default).1 (l.getD a default).2.1 (l.getD a default).2.2 (wsum ps l - need) - 1 : Nat) : Int) by omega]
  omega

end Go.Proofs.Ytgccipmeiceonaa
