/-
  Grid: where each has all that is due from it all is done; where nobody has anything, and nobody gets what they give, nothing is.
-/
import Derived.Test.YtbfeojdlaajpdaaLawGR
import Derived.Test.YtbfeojdlaajpdaaGridRichM
import Derived.BigRegion
namespace Go.Proofs.Ytbfeojdlaajpdaa
open Go.RowKit
set_option linter.unusedVariables false

theorem rich_bad (vl : Value) (ps : List (Int × Int × Int)) (w : World) (hp : ReadsP w vl ps) (hg : gridE (List.replicate 31 0) ps ≠ 0) :
    Calls Try.prog 7 #[vl] w fun e w' => e = .returned (.bool true) ∧ Kpt w w' := by
  have GC := Lib.hid (fun w' g (hh : OwnI w' g (List.replicate 31 0)) (k : Kpt w w') => gridCheck_run _ vl (List.replicate 31 0) ps w' (hh.sl31 (by simp) 31) (hp.kpt k))
  have q : (gridE (List.replicate 31 0) ps != 0) = true := bne_iff_ne.2 hg
  clear hp
  generalize gridE (List.replicate 31 0) ps = E at *
  go_enter Try.func7, Try.ntmps7
  go_wp2_with (first
    | (go_at_call 20; (with_reducible refine (gridBegun _).mono ?_); rintro e w2 ⟨rfl, k2⟩; have K2 := Lib.hid k2; have RA := Lib.hid (Row.made w2 31); have MK := run_zeros w2 31 (by omega); rw [show ((31 : Nat) : Int) = 31 from rfl] at MK; have K3 := Lib.hid (K2.out.alloc (.cells (Array.replicate 31 (Value.int .i64 0)) 3)); clear k2)
    | (go_at_call 21; (with_reducible refine (GC.out _ _ (OwnI.zero RA.out) K3.out).mono ?_); rintro e w3 ⟨rfl, k3⟩; have K4 := Lib.hid (ktr K3.out k3.kpt); clear k3))
  go_ret
  exact ⟨rfl, K4.out⟩

set_option maxHeartbeats 8000000 in
theorem rich_go (vl : Value) (ps : List (Int × Int × Int)) (w : World) (hp : ReadsP w vl ps) (hg : gridE (List.replicate 31 0) ps = 0) :
    Calls Try.prog 7 #[vl] w fun e w' => e = .returned (.bool true) ∧ Kpt w w' := by
  have GC := Lib.hid (fun w' g (hh : OwnI w' g (List.replicate 31 0)) (k : Kpt w w') => gridCheck_run _ vl (List.replicate 31 0) ps w' (hh.sl31 (by simp) 31) (hp.kpt k))
  rw [hg] at GC
  have SA := Lib.hid (fun (hs : duesS ps ≤ 576460752303423488) w' g cap (hh : OwnI w' g (richN ps ps.length)) (k : Kpt w w') =>
    solve_all _ vl (richN ps ps.length) ps ps.length w' (hh.sl31 (rich_len _ _) cap) (hp.kpt k) (rich_ok hg hs) rfl (fun q hq => rich_fair hg q hq))
  have AF := Lib.hid (fun (hs : duesS ps ≤ 576460752303423488) w' g cap g2 cap2 (hh : OwnI w' g (richN ps ps.length)) (k : Kpt w w') hd =>
    after_ok (.slice (some ⟨g, 0, none⟩) 31 cap) vl (richN ps ps.length) ps (List.range ps.length) g2 ps.length cap2 w' (hh.sl31 (rich_len _ _) cap) (hp.kpt k) (rich_ok hg hs) (by simp) (okD_range _) (fun q hq => rich_fair hg q hq) hd)
  have FS := Lib.hid (fun (hs : duesS ps ≤ 576460752303423488) => fair_sums (rich_ok hg hs) (ds := List.range ps.length) (fun i hi => List.mem_range.1 hi) (fun q hq => rich_fair hg q hq))
  have TG := Lib.hid (fun (hs : duesS ps ≤ 576460752303423488) w' g cap (h : OwnI w' g (settleF ps (richN ps ps.length) (List.range ps.length))) => together_own (cap := cap) (FS.out hs).2.2.1 (FS.out hs).2.2.2.1 (FS.out hs).2.2.2.2.1 (FS.out hs).2.1 h)
  have TH := Lib.hid (fun (hs : duesS ps ≤ 576460752303423488) w' g cap (h : OwnI w' g (richN ps ps.length)) => together_own (cap := cap) (rich_len _ _) (FS.out hs).1 rfl (FS.out hs).2.1 h)
  have SN := Lib.hid (fun w' g vo (hh : OwnI w' g (List.replicate 31 0)) (B : Nat) (ho : OwnsT 38 w' B vo (outN ps ps.length)) =>
    solve_none _ vo (List.replicate 31 0) (outN ps ps.length) w' (hh.sl31 (by simp) 31) (ho.reads fun p hp' => hp.fits p (out_mem (Nat.le_refl _) hp').1)
      (out_ok hg) (fun ds hd h => out_none hg hd h))
  obtain ⟨_, _, h60, hdu, hsum⟩ := grid_0 hg
  rw [zero_sum] at hsum
  have HSU : duesS ps ≤ 1152921504606846976 := by have := amt_t hsum; omega
  have HDU : Hid (∀ k, k < ps.length → ∃ (f : Nat) (T A : Int), f < 31 ∧ ps.getD k default = ((f : Int), T, A) ∧ 1 ≤ A ∧ A ≤ 1152921504606846976) := fun k hk => by
    have := due_t (hdu _ (getP_mem hk)).1
    exact ⟨(ps.getD k default).1.toNat, (ps.getD k default).2.1, (ps.getD k default).2.2, by omega, by
      rw [show (((ps.getD k default).1.toNat : Nat) : Int) = (ps.getD k default).1 by omega], by omega, by omega⟩
  have FB := Lib.hid (fun q k h => fromS_bd hdu q k h)
  have DL := Lib.hid (fun k => dues_le hdu k)
  have DT := Lib.hid (fun k (h : k < ps.length) => dues_take h)
  have OL := Lib.hid (fun k => out_len ps k)
  obtain ⟨n, hn⟩ : ∃ n, n = ps.length := ⟨_, rfl⟩
  have HN := Lib.hid hn
  have HTK : Hid (ps.take n = ps) := by unfold Hid; rw [hn, List.take_length]
  obtain ⟨pa, pcap, rfl, -, -, -, hpc⟩ := hp
  have HP := Lib.hid hpc
  rw [← hn] at h60 HP HDU GC SA AF TG TH SN FB DT ⊢
  clear hpc hg hdu hsum hn FS
  go_enter Try.func7, Try.ntmps7
  go_wp2_with (first
    | (go_at_call 20; (with_reducible refine (gridBegun _).mono ?_); rintro e w2 ⟨rfl, k2⟩; have K2 := Lib.hid k2; have RA := Lib.hid (Row.made w2 31); have MK := run_zeros w2 31 (by omega); rw [show ((31 : Nat) : Int) = 31 from rfl] at MK; have K3 := Lib.hid (K2.out.alloc (.cells (Array.replicate 31 (Value.int .i64 0)) 3)); clear k2)
    | (go_at_call 21; (with_reducible refine (GC.out _ _ (OwnI.zero RA.out) K3.out).mono ?_); rintro e w3 ⟨rfl, k3⟩; have K4 := Lib.hid (ktr K3.out k3.kpt); have HA4 := Lib.hid ((OwnI.zero RA.out).kpt k3.kpt); clear k3)
    | (at_builtin; refine wp_appendR rfl (.tmp 22) (.tmp 23) rfl w3.heap.size _ _ [] (List.replicate 31 0) _ rfl (Owns.none_made w3) rfl ((HA4.out.alloc _).sl31 (by simp) 31) (by simp) (by simp) (by rw [World.size_alloc]; omega) ?_; intro v4 w4 ho hb4; have ho : Owns w4 w3.heap.size v4 (List.replicate 31 0) := ho; obtain ⟨g4, cap4, rfl, hc4, hg4, ho4⟩ := Owns.ownI ho (by simp); have K5 := Lib.hid (ktr K4.out (((Kpt.refl w3).alloc _).trans hb4)); have HA5 := Lib.hid (HA4.out.kpt (((Kpt.refl w3).alloc _).trans hb4)); have HR5 := Lib.hid ho4; have HG4 : Hid (w.heap.size ≤ g4) := Nat.le_trans K4.out.size hg4; have HNE : Hid (w2.heap.size ≠ g4) := (by have := HA4.out.lt; unfold Hid; omega); clear ho hb4 hg4 ho4))
  clear MK RA
  have HR0 : Hid (OwnI w4 g4 (richN ps 0)) := by unfold Hid; rw [rich_zero]; exact HR5.out
  generalize w2.heap.size = gA at *
  go_loopw [5, 6] (fun aa ii wr => ∃ k : Nat, k ≤ n ∧ ii = .int .i64 (k : Int) ∧ aa = .int .i64 (duesS (ps.take k)) ∧ Hid (OwnI wr g4 (richN ps k)) ∧ Hid (OwnI wr gA (List.replicate 31 0)) ∧ Hid (Kpt w wr)) (fun _ ii _ => n - (intOf ii).toNat)
  case atStart => exact ⟨0, Nat.zero_le _, rfl, rfl, HR0.out, HA5.out, K5.out⟩
  case round =>
    obtain ⟨k, hk, rfl, rfl, HR, HA, HK⟩ := hrel
    by_cases hlt : k < n
    · obtain ⟨x, off, rfl, hpt⟩ := HP.out k hlt
      obtain ⟨f, T, A, hf, ep, hA1, hA2⟩ := HDU.out k hlt
      have d0 := (hpt.kpt HK.out).1
      have d2 := (hpt.kpt HK.out).2.2
      have HD2 : Hid (∀ w', Kpt w w' → w'.cell? ⟨x, off + k * 3 + 2, none⟩ = some (.int .i64 A)) := fun w' hk' => by
        have := (hpt.kpt hk').2.2
        rwa [ep] at this
      rw [ep] at d0 d2
      simp only at d0 d2
      have fb := FB.out (f : Int) k hk
      have dl := DL.out k
      have dl2 := DL.out (k + 1)
      have dt := DT.out k hlt
      rw [ep] at dt
      simp only at dt
      rw [dt] at dl2
      have DTT := Lib.hid dt
      have RS : Hid ((richN ps k).set f (fromS ps (f : Int) k + A) = richN ps (k + 1)) := by
        have := rich_set ps k f hf (by rw [ep])
        rw [ep] at this
        exact this
      have cf := HR.out.cell (j := f) (by rw [rich_len]; exact hf)
      have ff := HR.out.frozen f
      rw [rich_get ps k f hf] at cf
      clear hpt ep dt
      generalize fromS ps (f : Int) k = F at cf fb RS
      generalize duesS (ps.take k) = D at fb dl dl2 DTT ⊢
      generalize duesS ps = DD at dl dl2 HSU
      have e1 : IntKind.i64.wrap (F + A) = F + A := by unfold IntKind.wrap; simp [IntKind.bits, IntKind.signed]; omega
      have e2 : IntKind.i64.wrap (D + A) = D + A := by unfold IntKind.wrap; simp [IntKind.bits, IntKind.signed]; omega
      have xf : (f : Int) < 31 := by omega
      have xk : (k : Int) < (n : Int) := by omega
      go_wp2
      have HR' : Hid (OwnI (wr.setCell ⟨g4, f, none⟩ (.int .i64 (F + A))).drew g4 ((richN ps k).set f (F + A))) := (HR.out.put f (F + A)).drew
      have HA' : Hid (OwnI (wr.setCell ⟨g4, f, none⟩ (.int .i64 (F + A))).drew gA (List.replicate 31 0)) := (HA.out.away (p := ⟨g4, f, none⟩) HNE.out (.int .i64 (F + A))).drew
      have HK' : Hid (Kpt w (wr.setCell ⟨g4, f, none⟩ (.int .i64 (F + A))).drew) := (Kpt.setCell HK.out (p := ⟨g4, f, none⟩) HG4.out (.int .i64 (F + A))).drewN 1
      have d2' : (wr.setCell ⟨g4, f, none⟩ (.int .i64 (F + A))).drew.cell? ⟨x, off + k * 3 + 2, none⟩ = some (.int .i64 A) := HD2.out _ HK'.out
      go_region
      generalize (wr.setCell ⟨g4, f, none⟩ (.int .i64 (F + A))).drew = W2 at *
      go_wp2
      go_roundw
      case rel => exact ⟨k + 1, by omega, by go_num, by rw [DTT.out], by unfold Hid; rw [← RS.out]; exact HR'.out, HA'.out, HK'.out⟩
      case measure => simp [intOf]; omega
    · obtain rfl : k = n := by omega
      rw [HTK.out]
      by_cases hs : duesS ps ≤ 576460752303423488
      · have SA := Lib.hid (SA.out hs)
        have AF := Lib.hid (AF.out hs)
        have TG := Lib.hid (TG.out hs)
        have TH := Lib.hid (TH.out hs)
        have y1 : decide (576460752303423488 < duesS ps) = false := decide_eq_false (by omega)
        generalize (richN ps k).sum = H at *
        have zH : (H == H) = true := by simp
        clear hs
        go_wp2_with (first
          | (go_at_call 14; (with_reducible refine (SA.out _ _ _ HR.out HK.out).mono ?_); rintro e w5 ⟨g5, cap5, rfl, HD, k5⟩; have K6 := Lib.hid (ktr HK.out k5.out); have HR6 := Lib.hid (HR.out.kpt k5.out); have HA6 := Lib.hid (HA.out.kpt k5.out); clear k5)
          | (go_at_call 15; (with_reducible refine (AF.out _ _ _ g5 cap5 HR6.out K6.out HD.out.2).mono ?_); rintro e w6 ⟨g7, cap7, rfl, HT, k6⟩; have K7 := Lib.hid (ktr K6.out k6.out); have HR7 := Lib.hid (HR6.out.kpt k6.out); have HA7 := Lib.hid (HA6.out.kpt k6.out); clear k6))
        go_loopw [11, 12] (fun ov ii wx => ∃ j : Nat, j ≤ k ∧ ii = .int .i64 (j : Int) ∧ Hid (OwnsT 38 wx w6.heap.size ov (outN ps j)) ∧ Hid (Kpt w6 wx)) (fun _ ii _ => k - (intOf ii).toNat)
        case atStart => exact ⟨0, Nat.zero_le _, rfl, OwnsT.nil _ _ _, Kpt.refl _⟩
        case round =>
          obtain ⟨j, hj, rfl, HO, HJ⟩ := hrel
          by_cases hlt2 : j < k
          · obtain ⟨x, off, rfl, hpt⟩ := HP.out j hlt2
            obtain ⟨f, T, A, hf, ep, hA1, hA2⟩ := HDU.out j hlt2
            obtain ⟨d0, d1, d2⟩ := hpt.kpt (ktr K7.out HJ.out)
            rw [ep] at d0 d1 d2
            simp only at d0 d1 d2
            have ol := OL.out j
            by_cases h0 : f = 0
            · have OT : Hid (outN ps j ++ [((f : Int), T, A)] = outN ps (j + 1)) := by unfold Hid; rw [← ep]; exact (out_t (by rw [ep, h0]; rfl)).symm
              have z1 : ((f : Int) == 0) = true := by rw [h0]; rfl
              clear ep h0 hpt
              go_wp2_with (at_builtin; refine wp_appendD rfl (.tmp 93) (.tmp 98) rfl w6.heap.size _ _ (f : Int) T A _ rfl HO.out rfl (by omega) HJ.out.size (.slice none 0 0) [] (OwnsT.nil _ _ _) (.inl rfl) ?_; intro v' w' h1 h2 _ _ _; rw [OT.out] at h1; have HO' := Lib.hid h1; have HJ' : Hid (Kpt w6 w') := Below.trans HJ.out h2; clear h1 h2)
              go_roundw
              case rel => exact ⟨j + 1, by omega, by go_num, HO'.out, HJ'.out⟩
              case measure => simp [intOf]; omega
            · have OT : Hid (outN ps (j + 1) = outN ps j) := out_f (by rw [ep]; simp only; omega)
              have z1 : ((f : Int) == 0) = false := beq_eq_false_iff_ne.2 (by omega)
              clear ep h0 hpt
              go_wp2
              go_roundw
              case rel => exact ⟨j + 1, by omega, by go_num, by unfold Hid; rw [OT.out]; exact HO.out, HJ.out⟩
              case measure => simp [intOf]; omega
          · obtain rfl : j = k := by omega
            go_wp2_with (first
              | (go_at_call 14; (with_reducible refine (SN.out _ gA _ (HA7.out.kpt HJ.out) _ HO.out).mono ?_); rintro e w8 ⟨g8, cap8, rfl, k8⟩; have K8 := Lib.hid (ktr K7.out (ktr HJ.out k8.out)); have HT8 := Lib.hid (HT.out.kpt (ktr HJ.out k8.out)); have HR8 := Lib.hid (HR7.out.kpt (ktr HJ.out k8.out)); clear k8)
              | (go_at_call 23; (with_reducible refine (TG.out _ g7 cap7 HT8.out).mono ?_); rintro e w9 ⟨rfl, k9⟩; have K9 := Lib.hid (ktr K8.out k9); have HR9 := Lib.hid (HR8.out.kpt k9); clear k9)
              | (go_at_call 23; (with_reducible refine (TH.out _ g4 cap4 HR9.out).mono ?_); rintro e w10 ⟨rfl, k10⟩; have K10 := Lib.hid (ktr K9.out k10); clear k10))
            go_ret
            exact ⟨rfl, K10.out⟩
      · have y1 : decide (576460752303423488 < duesS ps) = true := decide_eq_true (by omega)
        generalize duesS ps = DD at *
        have y2 : 576460752303423488 < DD := by omega
        clear hs
        go_wp2
        go_ret
        exact ⟨rfl, HK.out⟩

theorem gridRich_walk (vl : Value) (ps : List (Int × Int × Int)) (w : World) (hp : ReadsP w vl ps) :
    Calls Try.prog 7 #[vl] w fun e w' => e = .returned (.bool true) ∧ Kpt w w' := by
  by_cases hg : gridE (List.replicate 31 0) ps = 0
  · exact rich_go vl ps w hp hg
  · exact rich_bad vl ps w hp hg

end Go.Proofs.Ytbfeojdlaajpdaa
