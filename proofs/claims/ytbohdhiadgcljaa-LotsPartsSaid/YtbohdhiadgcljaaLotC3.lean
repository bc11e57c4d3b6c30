/-
  What Sell of package lots does where it goes: the walk by the dearest.
-/
import Derived.Test.YtbohdhiadgcljaaLotC
namespace Go.Proofs.Ytbohdhiadgcljaa
open Go.RowKit
set_option linter.unusedVariables false

set_option maxRecDepth 100000 in
set_option maxHeartbeats 8000000 in
theorem sell_ok3 (v : Value) (l : List (Int × Int × Int)) (u : Int) (w : World) (hr : ReadsP w v l) (hE : lotsE l = 0) (h1 : 1 ≤ u) (h2 : u ≤ unitsOf l) :
    Calls Try.prog 26 #[v, .int .i64 u, .int .i64 3] w (SellOk w (sellL (pickK 3) l.length l u).1 (sellL (pickK 3) l.length l u).2) := by
  obtain ⟨hn, -, hB⟩ := lots_0 hE
  have LC := Lib.hid (hE ▸ lotsCheck_any v l w hr)
  have RL := Lib.hid hr
  have HB := Lib.hid hB
  have ub := (units_bd hB).2
  have u3 : u ≤ 42949672960 := by omega
  have l0 : 0 < l.length := by
    cases l with
    | nil => simp [unitsOf] at h2; omega
    | cons _ _ => simp
  have SS := Lib.hid (sold_start (pick := pickK 3) hB hn (by omega) h2)
  generalize (sellL (pickK 3) l.length l u).1 = R at *
  generalize (sellL (pickK 3) l.length l u).2 = CT at *
  have SU := Lib.hid (fun w hr => sums_run v l w hr hB hn)
  clear hE hr hB ub
  have h2' : ¬ unitsOf l < u := by omega
  have h3 : decide (unitsOf l < u) = false := decide_eq_false h2'
  generalize unitsOf l = us at *
  generalize costsOf l = cs at *
  clear h2'
  go_enter Try.func26, Try.ntmps26
  go_wp2_with (first
    | (go_at_call 32; (with_reducible refine LC.out.mono ?_); rintro e w1 ⟨rfl, g1⟩; have K1 := Lib.hid g1.kpt; clear g1)
    | (go_at_call 47; (with_reducible refine (choice_3 _).mono ?_); rintro e w' ⟨rfl, rfl⟩)
    | (go_at_call 48; (with_reducible refine (SU.out _ (RL.out.kpt K1.out)).mono ?_); rintro e w2 ⟨rfl, g2⟩; have K2 := Lib.hid (ktr K1.out g2.kpt); clear g2)
    | (go_at_call 49; (with_reducible refine (clone_runL v l _ (RL.out.kpt K2.out) l0 (by omega)).mono ?_); rintro e w3 ⟨blk, cap, rfl, ho, k3⟩; have HO3 := Lib.hid (OwnsT.base ho K2.out.size); have K3 := Lib.hid (ktr K2.out k3); clear ho k3))
  have hblk := HO3.out.opened.2.1
  go_loopw [1, 14, 15] (fun uu m c wr => ∃ (k n : Nat) (cur : List (Int × Int × Int)) (U C : Int), uu = .int .i64 U ∧ m = .slice (some ⟨blk, 0, none⟩) n cap ∧ c = .int .i64 C ∧ Hid (n = cur.length) ∧ Hid (OwnsT 45 wr w.heap.size (.slice (some ⟨blk, 0, none⟩) n cap) cur) ∧ Hid (Sold (pickK 3) k cur U C R CT) ∧ Hid (Kpt w wr)) (fun uu _ _ _ => (intOf uu).toNat)
  case atStart => exact ⟨_, _, l, u, 0, rfl, rfl, rfl, rfl, HO3.out, SS.out, K3.out⟩
  case round =>
    obtain ⟨k, n, cur, U, C, rfl, rfl, rfl, HN, HO, HS, HK⟩ := hrel
    have hu0 := HS.out.u0
    by_cases hu : 0 < U
    · obtain ⟨hc0, _⟩ := HS.out.full hu
      have hi := pick_in 3 hc0
      have HIN : Hid (InP cur) := fun p hp => by have := lot_t (HS.out.ok p hp); omega
      have PK := Lib.hid (fun W hr => pick_3 (.slice (some ⟨blk, 0, none⟩) n cap) cur W hr HS.out.ok hc0 HS.out.few)
      have HA := Lib.hid (fun D UU Q hd hl => HS.out.some (fun l hl => pick_in 3 hl) hu (D := D) (U := UU) (Q := Q) hd hl)
      have HW := Lib.hid (fun D UU Q hd hl => HS.out.whole (fun l hl => pick_in 3 hl) hu (D := D) (U := UU) (Q := Q) hd hl)
      have hlot := HS.out.ok _ (getD_memL hi)
      have hcc := HS.out.c0
      have hcC := HS.out.cC
      have hcs := (costs_bd HS.out.ok).1
      have hcu := HS.out.uU
      have hcb := (units_bd HS.out.ok).2
      have hfew := HS.out.few
      have hge := costs_erase hi
      have hgc := (costs_bd (all_erase HS.out.ok (pickK 3 cur))).1
      obtain ⟨p, hp⟩ : ∃ p, p = cur.getD (pickK 3 cur) default := ⟨_, rfl⟩
      rw [← hp] at hlot hge
      obtain ⟨D, UU, Q⟩ := p
      have hb := lot_t hlot
      simp only at hb hge
      generalize costsOf (cur.eraseIdx (pickK 3 cur)) = ce at *
      generalize costsOf cur = cc at *
      generalize unitsOf cur = cu at *
      have HD := Lib.hid hp.symm
      have HI := Lib.hid hi
      have hin : pickK 3 cur < n := by rw [HN.out]; exact hi
      generalize pickK 3 cur = i at *
      have i0 : (0 : Int) ≤ (i : Int) := by omega
      have i1 : (i : Int) < (n : Int) := by omega
      have i2 : n ≤ 40 := by rw [HN.out]; exact hfew
      have AT : Hid (∀ W, OwnsT 45 W w.heap.size (.slice (some ⟨blk, 0, none⟩) n cap) cur → (W.cell? ⟨blk, i * 3, none⟩ = some (.int .i64 D) ∧ W.cell? ⟨blk, i * 3 + 1, none⟩ = some (.int .i64 UU) ∧ W.cell? ⟨blk, i * 3 + 2, none⟩ = some (.int .i64 Q)) ∧ W.frozen? ⟨blk, i * 3 + 1, none⟩ = false ∧ W.frozen? ⟨blk, i * 3 + 2, none⟩ = false) := fun W ho => by
        obtain ⟨ha, hf⟩ := ho.at_ i HI.out
        rw [HD.out] at ha
        exact ⟨⟨ha.1, ha.2.1, ha.2.2⟩, hf _, hf _⟩
      obtain ⟨_, _, b2, b3, b4, b5⟩ := hb
      have hUm : U ≤ 42949672960 := by omega
      have HLOT := Lib.hid hlot
      clear hp hi hlot hfew hu0 hcb hcu
      by_cases hl : U < UU
      · have hpb := part_bd HLOT.out (Int.le_of_lt hu) (Int.le_of_lt hl)
        have CO := Lib.hid (fun W => costOf_run U D UU Q W HLOT.out (Int.le_of_lt hu) (Int.le_of_lt hl))
        have HN2 := Lib.hid (HA.out D UU Q HD.out hl)
        have hz : (UU - U == 0) = false := beq_eq_false_iff_ne.2 (by omega)
        have hle : U ≤ UU := by omega
        have hmin : min U UU = U := by omega
        have hwr : Hid (∀ W x y, OwnsT 45 W w.heap.size (.slice (some ⟨blk, 0, none⟩) n cap) cur → OwnsT 45 ((W.setCell ⟨blk, i * 3 + 1, none⟩ (.int .i64 x)).setCell ⟨blk, i * 3 + 2, none⟩ (.int .i64 y)) w.heap.size (.slice (some ⟨blk, 0, none⟩) n cap) (cur.set i (D, x, y))) := fun W x y ho => own_put12 ho i HI.out HD.out x y
        have hpc : partC (D, UU, Q) U ≤ Q := hpb.2
        have hpc0 : 0 ≤ partC (D, UU, Q) U := hpb.1
        clear HA HW hge hgc hpb
        generalize partC (D, UU, Q) U = pc at *
        go_wp2_with (first
          | (go_at_call 66; (with_reducible refine (PK.out _ (HO.out.reads HIN.out)).mono ?_); rintro e w4 ⟨rfl, k4⟩; have HO4 := Lib.hid (HO.out.kpt k4); have K4 := Lib.hid (ktr HK.out k4); obtain ⟨⟨c0, c1, c2⟩, f1, f2⟩ := AT.out _ HO4.out; clear k4)
          | (go_at_call 50; (with_reducible refine (CO.out _).mono ?_); rintro e w5 ⟨rfl, g5⟩; have HO5 := Lib.hid (HO4.out.kpt g5.kpt); have K5 := Lib.hid (ktr K4.out g5.kpt); clear c0 c1 c2 f1 f2 g5; obtain ⟨⟨c0, c1, c2⟩, f1, f2⟩ := AT.out _ HO5.out))
        go_roundw
        case rel => exact ⟨k, n, _, _, _, rfl, rfl, rfl, by unfold Hid; rw [List.length_set]; exact HN.out, hwr.out _ _ _ HO5.out, HN2.out, (K5.out.setCell hblk _).setCell hblk _⟩
        case measure => simp [intOf]; omega
      · have CO := Lib.hid (fun W => costOf_run UU D UU Q W HLOT.out (by omega) (Int.le_refl _))
        have hPA := part_all HLOT.out
        simp only at hPA
        unfold Hid at CO
        rw [hPA] at CO
        have CO2 := Lib.hid CO
        have HN2 := Lib.hid (HW.out D UU Q HD.out (by omega))
        have hle : UU ≤ U := by omega
        have hmin : min U UU = UU := by omega
        have hwr : Hid (∀ W x y, OwnsT 45 W w.heap.size (.slice (some ⟨blk, 0, none⟩) n cap) cur → OwnsT 45 ((W.setCell ⟨blk, i * 3 + 1, none⟩ (.int .i64 x)).setCell ⟨blk, i * 3 + 2, none⟩ (.int .i64 y)) w.heap.size (.slice (some ⟨blk, 0, none⟩) (cur.set i (D, x, y)).length cap) (cur.set i (D, x, y))) := fun W x y ho => by
          have := own_put12 ho i HI.out HD.out x y
          rw [HN.out] at this
          rwa [List.length_set]
        have DEL : Hid (∀ W x y, OwnsT 45 W w.heap.size (.slice (some ⟨blk, 0, none⟩) n cap) cur → Calls Try.prog 51 #[.slice (some ⟨blk, 0, none⟩) n cap, .int .i64 i, .int .i64 ((i : Int) + 1)] ((W.setCell ⟨blk, i * 3 + 1, none⟩ (.int .i64 x)).setCell ⟨blk, i * 3 + 2, none⟩ (.int .i64 y)) fun e w' => e = .returned (.slice (some ⟨blk, 0, none⟩) (n - 1) cap) ∧ OwnsT 45 w' w.heap.size (.slice (some ⟨blk, 0, none⟩) (n - 1) cap) (cur.eraseIdx i) ∧ ((W.setCell ⟨blk, i * 3 + 1, none⟩ (.int .i64 x)).setCell ⟨blk, i * 3 + 2, none⟩ (.int .i64 y)).grownBy w' (some blk)) := fun W x y ho => by
          have hlen : (cur.set i (D, x, y)).length = n := by rw [List.length_set]; exact HN.out.symm
          have := delete_run _ w.heap.size blk cap i (cur.set i (D, x, y)) (by omega) (by omega) (hwr.out W x y ho)
          rw [erase_set, hlen] at this
          exact this
        clear HA HW hge CO hPA hwr
        go_wp2_with (first
          | (go_at_call 66; (with_reducible refine (PK.out _ (HO.out.reads HIN.out)).mono ?_); rintro e w4 ⟨rfl, k4⟩; have HO4 := Lib.hid (HO.out.kpt k4); have K4 := Lib.hid (ktr HK.out k4); obtain ⟨⟨c0, c1, c2⟩, f1, f2⟩ := AT.out _ HO4.out; clear k4)
          | (go_at_call 50; (with_reducible refine (CO2.out _).mono ?_); rintro e w5 ⟨rfl, g5⟩; have HO5 := Lib.hid (HO4.out.kpt g5.kpt); have K5 := Lib.hid (ktr K4.out g5.kpt); clear c0 c1 c2 f1 f2 g5; obtain ⟨⟨c0, c1, c2⟩, f1, f2⟩ := AT.out _ HO5.out)
          | (go_at_call 51; (with_reducible refine (DEL.out w5 _ _ HO5.out).mono ?_); rintro e w6 ⟨rfl, ho6, g6⟩; have HO6 := Lib.hid ho6; have K6 := Lib.hid (kpt_row ((K5.out.setCell hblk _).setCell hblk _) g6 hblk); clear ho6 g6))
        go_roundw
        case rel => exact ⟨k - 1, n - 1, _, _, _, rfl, rfl, rfl, by unfold Hid; rw [List.length_eraseIdx_of_lt HI.out, HN.out], HO6.out, HN2.out, K6.out⟩
        case measure => simp [intOf]; omega
    · have HE := Lib.hid (HS.out.stop hu)
      have hu' : U = 0 := by omega
      subst hu'
      go_wp2
      refine bodyPost_ret (v := .tuple #[.slice (some ⟨blk, 0, none⟩) n cap, .int .i64 C, .int .i64 0]) (by simp [results, Try.results26, go_sem]) rfl ?_
      have HF : R = cur ∧ CT = C := HE.out
      have e := HF.1
      have e2 := HF.2
      subst e; subst e2
      exact ⟨HK.out, blk, cap, by have := HN.out; subst this; rfl, by have := HN.out; subst this; exact HO.out⟩

end Go.Proofs.Ytbohdhiadgcljaa
